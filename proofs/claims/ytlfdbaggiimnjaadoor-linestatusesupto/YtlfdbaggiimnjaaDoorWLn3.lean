/-
  What ParseRequest of package line computes; a text has less than 2^32 - 15 bytes (or its line ends early), and the package variable that the library reads holds some number.
-/
import Derived.Test.YtlfdbaggiimnjaaDoorWLn2
namespace Go.Proofs.YtlfdbaggiimnjaaDoor
open Go.RowKit

/-- A return of four results. -/
theorem results_four {fn : Func} {t u v z : Tmp} (h : fn.results = #[.tmp t, .tmp u, .tmp v, .tmp z]) (tmps : Array Value) (P : Program) (w : World) :
    (results fn tmps).run P w = .ok (.tuple #[tmps.getD t undef, tmps.getD u undef, tmps.getD v undef, tmps.getD z undef]) w := by
  simp [results, h]
theorem ret_four {v u : Value} {a b : Int} {z : Value} (h : a = b) : Ending.returned (.tuple #[v, u, .int .i64 a, z]) = .returned (.tuple #[v, u, .int .i64 b, z]) := by rw [h]

set_option maxHeartbeats 1000000 in
set_option maxRecDepth 100000 in
/-- Where the line is cut off, and is one. -/
theorem parseR_of (s l b x y : ByteArray) (hl : l.data.toList = reqB x.data.toList y.data.toList) (hx : meth x.data.toList = true) (hy : targ y.data.toList = true) (hs : s.size ≤ 281474976710656) (hb : b.size ≤ s.size) (m : Int) (w : World) (hm : w.cell? ⟨0, 0, none⟩ = some (.int .i64 m))
    (hc : ∀ W : World, W = w → Calls Tryd.prog 19 #[.string s, .int .i64 300] W fun e w' => e = .returned (.tuple #[.string l, .string b, .int .i64 0]) ∧ ∃ n, w' = W.drewN n) :
    Calls Tryd.prog 8 #[.string s] w fun e w' => e = .returned (.tuple #[.string x, .string y, .int .i64 ((s.size : Int) - (b.size : Int)), .int .i64 0]) ∧ Below w.heap.size w w' := by
  have HM : Hid (w.cell? ⟨0, 0, none⟩ = some (.int .i64 m)) := hm
  have HL : Hid (l.data.toList = reqB x.data.toList y.data.toList) := hl
  have hxl := (meth_is _ hx).2
  have hyl := (targ_is _ hy).2.2
  rw [size_list] at hxl hyl
  have HX : Hid (meth x.data.toList = true) := hx
  have HY : Hid (targ y.data.toList = true) := hy
  clear hm hl hx hy
  go_enter Tryd.func8, Tryd.ntmps8
  go_wp2_with fail
  refine (hc _ rfl).mono ?_
  rintro e w1 ⟨rfl, nd, rfl⟩
  have HB1 := drewN_below w.heap.size w nd
  go_wp2_with fail
  refine (readR_ok l x y HL.out HX.out HY.out m _ (cell_keep HB1 HM.out)).mono ?_
  rintro e w2 ⟨rfl, nd2, rfl⟩
  have HB2 := HB1.trans (drewN_below w.heap.size (w.drewN nd) nd2)
  clear HB1
  generalize (w.drewN nd).drewN nd2 = w2 at HB2
  go_wp2_with fail
  refine (clone_big x _ (by omega)).mono ?_
  rintro e w3 ⟨rfl, hb3⟩
  have HB3 := HB2.trans (hb3.mono HB2.size)
  clear hb3
  go_wp2_with fail
  refine (clone_big y _ (by omega)).mono ?_
  rintro e w4 ⟨rfl, hb4⟩
  have HB4 := HB3.trans (hb4.mono HB3.size)
  clear hb4
  go_wp2_with fail
  (try simp only [Exit.inBlock, Exit.then])
  refine bodyPost_ret (results_four rfl _ _ _) rfl ?_
  exact ⟨rfl, HB4⟩

set_option maxHeartbeats 2000000 in
set_option maxRecDepth 100000 in
theorem parseR_at (s x y : ByteArray) (n c : Int) (h : paR s.data.toList = ((x.data.toList, y.data.toList), n, c)) (m : Int) (w : World) (hm : w.cell? ⟨0, 0, none⟩ = some (.int .i64 m)) (hs : s.size < 4294967281) :
    Calls Tryd.prog 8 #[.string s] w fun e w' => e = .returned (.tuple #[.string x, .string y, .int .i64 n, .int .i64 c]) ∧ Below w.heap.size w w' := by
  have hsl := size_list s
  rcases index_two' s.data.toList [13, 10] with hix | ⟨k, hix, hk⟩
  · rw [paR_no _ hix] at h
    simp only [Prod.mk.injEq] at h
    obtain ⟨⟨h1, h2⟩, rfl, h4⟩ := h
    obtain rfl : (⟨#[]⟩ : ByteArray) = x := mk_self x [] h1.symm
    obtain rfl : (⟨#[]⟩ : ByteArray) = y := mk_self y [] h2.symm
    have HC : Hid ((if 300 + 1 < s.data.toList.length then 2 else 8 : Int) = c) := h4
    have hc0 : (c != 0) = true := by rw [← h4]; split <;> rfl
    have HM : Hid (w.cell? ⟨0, 0, none⟩ = some (.int .i64 m)) := hm
    have HIX : Hid (Lib.index s.data.toList [13, 10] = -1) := hix
    clear h1 h2 h4 hm hix hsl
    go_enter Tryd.func8, Tryd.ntmps8
    go_wp2_with fail
    refine (cutLine_no s 300 (by omega) HIX.out m _ HM.out hs).mono ?_
    rintro e w1 ⟨rfl, nd, rfl⟩
    rw [HC.out]
    go_wp2_with fail
    (try simp only [Exit.inBlock, Exit.then])
    refine bodyPost_ret (results_four rfl _ _ _) rfl ?_
    exact ⟨rfl, drewN_below _ _ _⟩
  · by_cases hk3 : 300 < k
    · rw [paR_large _ k hix hk3] at h
      simp only [Prod.mk.injEq] at h
      obtain ⟨⟨h1, h2⟩, rfl, rfl⟩ := h
      obtain rfl : (⟨#[]⟩ : ByteArray) = x := mk_self x [] h1.symm
      obtain rfl : (⟨#[]⟩ : ByteArray) = y := mk_self y [] h2.symm
      have HM : Hid (w.cell? ⟨0, 0, none⟩ = some (.int .i64 m)) := hm
      have HIX : Hid (Lib.index s.data.toList [13, 10] = k) := hix
      clear h1 h2 hm hix hsl
      go_enter Tryd.func8, Tryd.ntmps8
      go_wp2_with fail
      refine (cutLine_large s 300 k HIX.out hk3 m _ HM.out hs).mono ?_
      rintro e w1 ⟨rfl, nd, rfl⟩
      go_wp2_with fail
      (try simp only [Exit.inBlock, Exit.then])
      refine bodyPost_ret (results_four rfl _ _ _) rfl ?_
      exact ⟨rfl, drewN_below _ _ _⟩
    · obtain ⟨l, hl⟩ : ∃ l : ByteArray, l.data.toList = s.data.toList.take k := ⟨⟨(s.data.toList.take k).toArray⟩, rfl⟩
      obtain ⟨b, hb⟩ : ∃ b : ByteArray, b.data.toList = s.data.toList.drop (k + 2) := ⟨⟨(s.data.toList.drop (k + 2)).toArray⟩, rfl⟩
      replace hk : k + 2 ≤ s.size := by simpa using hk
      have hbs : b.size = s.size - (k + 2) := by rw [← size_list, hb, List.length_drop, hsl]
      have hls : l.size ≤ 300 := by rw [← size_list, hl, List.length_take]; omega
      cases hr : rdR (s.data.toList.take k) with
      | none =>
        rw [paR_bad _ k hix (by omega) hr] at h
        simp only [Prod.mk.injEq] at h
        obtain ⟨⟨h1, h2⟩, rfl, rfl⟩ := h
        obtain rfl : (⟨#[]⟩ : ByteArray) = x := mk_self x [] h1.symm
        obtain rfl : (⟨#[]⟩ : ByteArray) = y := mk_self y [] h2.symm
        have HM : Hid (w.cell? ⟨0, 0, none⟩ = some (.int .i64 m)) := hm
        have HIX : Hid (Lib.index s.data.toList [13, 10] = k) := hix
        have HL : Hid (l.data.toList = s.data.toList.take k) := hl
        have HB : Hid (b.data.toList = s.data.toList.drop (k + 2)) := hb
        have HR : Hid (rdR l.data.toList = none) := by show _ = _; rw [hl]; exact hr
        clear h1 h2 hm hix hsl hr hl hb hbs
        go_enter Tryd.func8, Tryd.ntmps8
        go_wp2_with fail
        refine (cutLine_yes s l b 300 k HIX.out (by omega) HL.out HB.out m _ HM.out hs).mono ?_
        rintro e w1 ⟨rfl, nd, rfl⟩
        have HB1 := drewN_below w.heap.size w nd
        go_wp2_with fail
        refine (readR_no l HR.out m _ (cell_keep HB1 HM.out) hls).mono ?_
        rintro e w2 ⟨⟨u, v, rfl⟩, nd2, rfl⟩
        go_wp2_with fail
        (try simp only [Exit.inBlock, Exit.then])
        refine bodyPost_ret (results_four rfl _ _ _) rfl ?_
        exact ⟨rfl, drewN_below _ _ _⟩
      | some z =>
        rw [paR_ok _ k hix (by omega) z hr] at h
        simp only [Prod.mk.injEq] at h
        obtain ⟨h1, h3, rfl⟩ := h
        subst h1
        obtain ⟨h4, h5, h6⟩ := rdR_some _ _ _ hr
        rw [← h3]
        have e : (k : Int) + 2 = (s.size : Int) - (b.size : Int) := by omega
        rw [e]
        refine parseR_of s l b x y (by rw [hl]; exact h4) h5 h6 (by omega) (by omega) m w hm fun W hW => ?_
        subst hW
        exact cutLine_yes s l b 300 k hix (by omega) hl hb m _ hm hs
end Go.Proofs.YtlfdbaggiimnjaaDoor
