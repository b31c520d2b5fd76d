/-
  What ParseStatus of package line computes; a text has less than 2^32 - 15 bytes (or its line ends early), the package variable that the library's search reads holds some number, and the listed variables of package strconv hold what their text lays.
-/
import Derived.Test.YtlfdbaggiimnjaaDoorWLs2
namespace Go.Proofs.YtlfdbaggiimnjaaDoor
open Go.RowKit

set_option maxHeartbeats 1000000 in
set_option maxRecDepth 100000 in
/-- Where the line is cut off, and is one. -/
theorem parseS_of (s l b x : ByteArray) (v : Int) (hl : l.data.toList = stB v x.data.toList) (hv : codeB v = true) (hx : reas x.data.toList = true) (hs : s.size ≤ 281474976710656) (hb : b.size ≤ s.size) (m : Int) (w : World) (hm : w.cell? ⟨0, 0, none⟩ = some (.int .i64 m)) (hT : STabs w)
    (hc : ∀ W : World, W = w → Calls Tryd.prog 19 #[.string s, .int .i64 300] W fun e w' => e = .returned (.tuple #[.string l, .string b, .int .i64 0]) ∧ ∃ n, w' = W.drewN n) :
    Calls Tryd.prog 12 #[.string s] w fun e w' => e = .returned (.tuple #[.int .i64 v, .string x, .int .i64 ((s.size : Int) - (b.size : Int)), .int .i64 0]) ∧ Below w.heap.size w w' := by
  have HM : Hid (w.cell? ⟨0, 0, none⟩ = some (.int .i64 m)) := hm
  have HT : Hid (STabs w) := hT
  have HL : Hid (l.data.toList = stB v x.data.toList) := hl
  have hxl := (reas_is _ hx).2
  rw [size_list] at hxl
  have HV : Hid (codeB v = true) := hv
  have HX : Hid (reas x.data.toList = true) := hx
  clear hm hl hv hx hT
  go_enter Tryd.func12, Tryd.ntmps12
  go_wp2_with fail
  refine (hc _ rfl).mono ?_
  rintro e w1 ⟨rfl, nd, rfl⟩
  have HB1 := drewN_below w.heap.size w nd
  go_wp2_with fail
  refine (readS_ok l x v HL.out HV.out HX.out m _ (cell_keep HB1 HM.out) (HT.out.below HB1)).mono ?_
  rintro e w2 ⟨rfl, hb2⟩
  have HB2 := HB1.trans (hb2.mono HB1.size)
  clear HB1 hb2
  go_wp2_with fail
  refine (clone_big x _ (by omega)).mono ?_
  rintro e w3 ⟨rfl, hb3⟩
  have HB3 := HB2.trans (hb3.mono HB2.size)
  clear hb3
  go_wp2_with fail
  (try simp only [Exit.inBlock, Exit.then])
  refine bodyPost_ret (results_four rfl _ _ _) rfl ?_
  exact ⟨rfl, HB3⟩

set_option maxHeartbeats 2000000 in
set_option maxRecDepth 100000 in
theorem parseS_at (s x : ByteArray) (v n c : Int) (h : paS s.data.toList = ((v, x.data.toList), n, c)) (m : Int) (w : World) (hm : w.cell? ⟨0, 0, none⟩ = some (.int .i64 m)) (hT : STabs w) (hs : s.size < 4294967281) :
    Calls Tryd.prog 12 #[.string s] w fun e w' => e = .returned (.tuple #[.int .i64 v, .string x, .int .i64 n, .int .i64 c]) ∧ Below w.heap.size w w' := by
  have hsl := size_list s
  rcases index_two' s.data.toList [13, 10] with hix | ⟨k, hix, hk⟩
  · rw [paS_no _ hix] at h
    simp only [Prod.mk.injEq] at h
    obtain ⟨⟨rfl, h2⟩, rfl, h4⟩ := h
    obtain rfl : (⟨#[]⟩ : ByteArray) = x := mk_self x [] h2.symm
    have HC : Hid ((if 300 + 1 < s.data.toList.length then 2 else 8 : Int) = c) := h4
    have hc0 : (c != 0) = true := by rw [← h4]; split <;> rfl
    have HM : Hid (w.cell? ⟨0, 0, none⟩ = some (.int .i64 m)) := hm
    have HIX : Hid (Lib.index s.data.toList [13, 10] = -1) := hix
    clear h2 h4 hm hix hsl hT
    go_enter Tryd.func12, Tryd.ntmps12
    go_wp2_with fail
    refine (cutLine_no s 300 (by omega) HIX.out m _ HM.out hs).mono ?_
    rintro e w1 ⟨rfl, nd, rfl⟩
    rw [HC.out]
    go_wp2_with fail
    (try simp only [Exit.inBlock, Exit.then])
    refine bodyPost_ret (results_four rfl _ _ _) rfl ?_
    exact ⟨rfl, drewN_below _ _ _⟩
  · by_cases hk3 : 300 < k
    · rw [paS_large _ k hix hk3] at h
      simp only [Prod.mk.injEq] at h
      obtain ⟨⟨rfl, h2⟩, rfl, rfl⟩ := h
      obtain rfl : (⟨#[]⟩ : ByteArray) = x := mk_self x [] h2.symm
      have HM : Hid (w.cell? ⟨0, 0, none⟩ = some (.int .i64 m)) := hm
      have HIX : Hid (Lib.index s.data.toList [13, 10] = k) := hix
      clear h2 hm hix hsl hT
      go_enter Tryd.func12, Tryd.ntmps12
      go_wp2_with fail
      refine (cutLine_large s 300 k HIX.out hk3 m _ HM.out hs).mono ?_
      rintro e w1 ⟨rfl, nd, rfl⟩
      go_wp2_with fail
      (try simp only [Exit.inBlock, Exit.then])
      refine bodyPost_ret (results_four rfl _ _ _) rfl ?_
      exact ⟨rfl, drewN_below _ _ _⟩
    · obtain ⟨l, hl⟩ := ba (s.data.toList.take k)
      obtain ⟨b, hb⟩ := ba (s.data.toList.drop (k + 2))
      replace hk : k + 2 ≤ s.size := by simpa using hk
      have hbs : b.size = s.size - (k + 2) := by rw [← size_list, hb, List.length_drop, hsl]
      have hls : l.size ≤ 300 := by rw [← size_list, hl, List.length_take]; omega
      cases hr : rdS (s.data.toList.take k) with
      | none =>
        rw [paS_bad _ k hix (by omega) hr] at h
        simp only [Prod.mk.injEq] at h
        obtain ⟨⟨rfl, h2⟩, rfl, rfl⟩ := h
        obtain rfl : (⟨#[]⟩ : ByteArray) = x := mk_self x [] h2.symm
        have HM : Hid (w.cell? ⟨0, 0, none⟩ = some (.int .i64 m)) := hm
        have HT : Hid (STabs w) := hT
        have HIX : Hid (Lib.index s.data.toList [13, 10] = k) := hix
        have HL : Hid (l.data.toList = s.data.toList.take k) := hl
        have HB : Hid (b.data.toList = s.data.toList.drop (k + 2)) := hb
        have HR : Hid (rdS l.data.toList = none) := by show _ = _; rw [hl]; exact hr
        clear h2 hm hix hsl hr hl hb hbs hT
        go_enter Tryd.func12, Tryd.ntmps12
        go_wp2_with fail
        refine (cutLine_yes s l b 300 k HIX.out (by omega) HL.out HB.out m _ HM.out hs).mono ?_
        rintro e w1 ⟨rfl, nd, rfl⟩
        have HB1 := drewN_below w.heap.size w nd
        go_wp2_with fail
        refine (readS_no l HR.out hls m _ (cell_keep HB1 HM.out) (HT.out.below HB1)).mono ?_
        rintro e w2 ⟨⟨u, z, rfl⟩, hb2⟩
        have HB2 := HB1.trans (hb2.mono HB1.size)
        clear HB1 hb2
        go_wp2_with fail
        (try simp only [Exit.inBlock, Exit.then])
        refine bodyPost_ret (results_four rfl _ _ _) rfl ?_
        exact ⟨rfl, HB2⟩
      | some z =>
        rw [paS_ok _ k hix (by omega) z hr] at h
        simp only [Prod.mk.injEq] at h
        obtain ⟨h1, h3, rfl⟩ := h
        subst h1
        obtain ⟨h4, h5, h6⟩ := rdS_some _ _ _ hr
        rw [← h3]
        have e : (k : Int) + 2 = (s.size : Int) - (b.size : Int) := by omega
        rw [e]
        refine parseS_of s l b x v (by rw [hl]; exact h4) h5 h6 (by omega) (by omega) m w hm hT fun W hW => ?_
        subst hW
        exact cutLine_yes s l b 300 k hix (by omega) hl hb m _ hm hs
end Go.Proofs.YtlfdbaggiimnjaaDoor
