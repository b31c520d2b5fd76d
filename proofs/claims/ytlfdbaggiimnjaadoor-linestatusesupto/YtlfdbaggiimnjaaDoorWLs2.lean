/-
  What readStatus and ParseStatus of package line compute; a text that is parsed has less than 2^32 - 15 bytes (or its line ends early), the package variable that the library's search reads holds some number, and the listed variables of package strconv hold what their text lays.
-/
import Derived.Test.YtlfdbaggiimnjaaDoorWLs
import Derived.Test.YtlfdbaggiimnjaaDoorWLn3
namespace Go.Proofs.YtlfdbaggiimnjaaDoor
open Go.RowKit

def cutPre (s p : List UInt8) : List UInt8 × Bool := (Lib.trimPrefix s p, Lib.hasPrefix s p)
theorem scutPre_at (s p a : ByteArray) (f : Bool) (h : cutPre s.data.toList p.data.toList = (a.data.toList, f)) (w : World) :
    Calls Tryd.prog 42 #[.string s, .string p] w fun e w' => e = .returned (.tuple #[.string a, .bool f]) ∧ w' = w := by
  refine (Tryd.strings_CutPrefix s p w).mono ?_
  rintro e w' ⟨rfl, rfl⟩
  refine ⟨?_, rfl⟩
  unfold cutPre at h
  simp only [Prod.mk.injEq] at h
  rw [h.1, h.2]
theorem cutPre_yes (t : List UInt8) : cutPre (verP ++ t) verP = (t, true) := by
  have h : Lib.hasPrefix (verP ++ t) verP = true := by
    unfold Lib.hasPrefix; exact List.isPrefixOf_iff_prefix.2 ⟨t, rfl⟩
  unfold cutPre Lib.trimPrefix
  rw [h, if_pos rfl]
  rfl
theorem cutPre_two (r : List UInt8) : (∃ t, r = verP ++ t) ∨ cutPre r verP = (r, false) := by
  cases h : Lib.hasPrefix r verP
  · exact .inr (by unfold cutPre Lib.trimPrefix; rw [h]; rfl)
  · unfold Lib.hasPrefix at h
    obtain ⟨t, ht⟩ := List.isPrefixOf_iff_prefix.1 h
    exact .inl ⟨t, ht.symm⟩
theorem cut_any (l sub : List UInt8) : ∃ a b f, Lib.cut l sub = (a, b, f) ∧ a.length ≤ l.length ∧ b.length ≤ l.length ∧ (f = true → l = a ++ (sub ++ b)) := by
  rcases index_two' l sub with h | ⟨k, h, hk⟩
  · exact ⟨l, [], false, cut_no l sub h, Nat.le_refl _, Nat.zero_le _, fun e => by cases e⟩
  · refine ⟨_, _, true, cut_yes l sub k h, ?_, ?_, fun _ => cut_split l sub k h⟩
    · rw [List.length_take]; omega
    · rw [List.length_drop]; omega

set_option maxHeartbeats 2000000 in
set_option maxRecDepth 100000 in
/-- What is read of a line: each step. -/
theorem readS_steps (s r t x : ByteArray) (f1 f2 f3 : Bool) (v : Int) (h1 : cutPre s.data.toList verP = (r.data.toList, f1)) (h2 : Lib.cut r.data.toList [32] = (t.data.toList, x.data.toList, f2)) (h3 : rdC t.data.toList = (v, f3))
    (hr : r.size ≤ 300) (ht : t.size ≤ 300) (hx : x.size ≤ 300) (m : Int) (w : World) (hm : w.cell? ⟨0, 0, none⟩ = some (.int .i64 m)) (hT : STabs w) :
    Calls Tryd.prog 29 #[.string s] w fun e w' => e = .returned (.tuple #[.int .i64 v, .string x, .bool (f1 && f2 && f3 && reas x.data.toList)]) ∧ Below w.heap.size w w' := by
  have H1 : Hid (cutPre s.data.toList (⟨#[72, 84, 84, 80, 47, 49, 46, 49, 32]⟩ : ByteArray).data.toList = (r.data.toList, f1)) := h1
  have H2 : Hid (Lib.cut r.data.toList (⟨#[32]⟩ : ByteArray).data.toList = (t.data.toList, x.data.toList, f2)) := h2
  have H3 : Hid (rdC t.data.toList = (v, f3)) := h3
  have HM : Hid (w.cell? ⟨0, 0, none⟩ = some (.int .i64 m)) := hm
  have HT : Hid (STabs w) := hT
  have HX : Hid (x.size ≤ maxLen) := by show _ ≤ _; unfold maxLen; omega
  clear h1 h2 h3 hm hT
  cases f1
  · go_enter Tryd.func29, Tryd.ntmps29
    go_wp2_with fail
    refine (scutPre_at s _ r false H1.out _).mono ?_
    rintro e w1 ⟨rfl, rfl⟩
    go_wp2_with fail
    refine (scut_at r _ t x f2 H2.out m _ HM.out (by omega)).mono ?_
    rintro e w2 ⟨rfl, nd, rfl⟩
    have hb2 := drewN_below w1.heap.size w1 nd
    go_wp2_with fail
    refine (readCode_at t v f3 H3.out _ (by omega) (HT.out.below hb2)).mono ?_
    rintro e w3 ⟨rfl, hb3⟩
    have hb := hb2.trans (hb3.mono hb2.size)
    clear hb2 hb3
    go_wp2_with fail
    go_ret3
    exact ⟨rfl, hb⟩
  · cases f2
    · go_enter Tryd.func29, Tryd.ntmps29
      go_wp2_with fail
      refine (scutPre_at s _ r true H1.out _).mono ?_
      rintro e w1 ⟨rfl, rfl⟩
      go_wp2_with fail
      refine (scut_at r _ t x false H2.out m _ HM.out (by omega)).mono ?_
      rintro e w2 ⟨rfl, nd, rfl⟩
      have hb2 := drewN_below w1.heap.size w1 nd
      go_wp2_with fail
      refine (readCode_at t v f3 H3.out _ (by omega) (HT.out.below hb2)).mono ?_
      rintro e w3 ⟨rfl, hb3⟩
      have hb := hb2.trans (hb3.mono hb2.size)
      clear hb2 hb3
      go_wp2_with fail
      go_ret3
      exact ⟨rfl, hb⟩
    · cases f3
      · go_enter Tryd.func29, Tryd.ntmps29
        go_wp2_with fail
        refine (scutPre_at s _ r true H1.out _).mono ?_
        rintro e w1 ⟨rfl, rfl⟩
        go_wp2_with fail
        refine (scut_at r _ t x true H2.out m _ HM.out (by omega)).mono ?_
        rintro e w2 ⟨rfl, nd, rfl⟩
        have hb2 := drewN_below w1.heap.size w1 nd
        go_wp2_with fail
        refine (readCode_at t v false H3.out _ (by omega) (HT.out.below hb2)).mono ?_
        rintro e w3 ⟨rfl, hb3⟩
        have hb := hb2.trans (hb3.mono hb2.size)
        clear hb2 hb3
        go_wp2_with fail
        go_ret3
        exact ⟨rfl, hb⟩
      · go_enter Tryd.func29, Tryd.ntmps29
        go_wp2_with fail
        refine (scutPre_at s _ r true H1.out _).mono ?_
        rintro e w1 ⟨rfl, rfl⟩
        go_wp2_with fail
        refine (scut_at r _ t x true H2.out m _ HM.out (by omega)).mono ?_
        rintro e w2 ⟨rfl, nd, rfl⟩
        have hb2 := drewN_below w1.heap.size w1 nd
        go_wp2_with fail
        refine (readCode_at t v true H3.out _ (by omega) (HT.out.below hb2)).mono ?_
        rintro e w3 ⟨rfl, hb3⟩
        have hb := hb2.trans (hb3.mono hb2.size)
        clear hb2 hb3
        go_wp2_with fail
        refine (isReason_any _ _ HX.out).mono ?_
        rintro e w4 ⟨rfl, rfl⟩
        go_wp2_with fail
        go_ret3
        exact ⟨ret_abf (by simp), hb⟩

theorem ba (l : List UInt8) : ∃ a : ByteArray, a.data.toList = l := ⟨⟨l.toArray⟩, rfl⟩
theorem readS_ok (s x : ByteArray) (n : Int) (h : s.data.toList = stB n x.data.toList) (hn : codeB n = true) (hx : reas x.data.toList = true) (m : Int) (w : World) (hm : w.cell? ⟨0, 0, none⟩ = some (.int .i64 m)) (hT : STabs w) :
    Calls Tryd.prog 29 #[.string s] w fun e w' => e = .returned (.tuple #[.int .i64 n, .string x, .bool true]) ∧ Below w.heap.size w w' := by
  obtain ⟨c1, c2⟩ := code_is n hn
  obtain ⟨r, hr⟩ := ba (dig3 n.toNat ++ 32 :: x.data.toList)
  obtain ⟨t, ht⟩ := ba (dig3 n.toNat)
  have hxl := (reas_is _ hx).2
  rw [size_list] at hxl
  have hrs : r.size ≤ 300 := by rw [← size_list, hr, List.length_append, List.length_cons, size_list]; simp [dig3]; omega
  have hts : t.size ≤ 300 := by rw [← size_list, ht]; simp [dig3]
  have hi := index_byte_at 32 (dig3 n.toNat) x.data.toList (dig3_no _ (by omega) 32 (by decide))
  refine (readS_steps s r t x true true true n ?_ ?_ ?_ hrs hts (by omega) m w hm hT).mono ?_
  · rw [h, hr]; exact cutPre_yes _
  · rw [hr, ht]
    refine (cut_yes _ _ _ hi).trans ?_
    rw [List.take_left' rfl, List.drop_append]
    simp
  · rw [ht]; exact rdC_ok n hn
  · rintro e w' ⟨rfl, hb⟩
    exact ⟨ret_abf (by rw [hx]; rfl), hb⟩
theorem readS_no (s : ByteArray) (h : rdS s.data.toList = none) (hs : s.size ≤ 300) (m : Int) (w : World) (hm : w.cell? ⟨0, 0, none⟩ = some (.int .i64 m)) (hT : STabs w) :
    Calls Tryd.prog 29 #[.string s] w fun e w' => (∃ v x, e = .returned (.tuple #[.int .i64 v, .string x, .bool false])) ∧ Below w.heap.size w w' := by
  obtain ⟨r, f1, h1, hrs, hf1⟩ : ∃ (r : ByteArray) (f1 : Bool), cutPre s.data.toList verP = (r.data.toList, f1) ∧ r.size ≤ 300 ∧ (f1 = true → s.data.toList = verP ++ r.data.toList) := by
    rcases cutPre_two s.data.toList with ⟨t, ht⟩ | hno
    · obtain ⟨r, hr⟩ := ba t
      refine ⟨r, true, by rw [ht, hr]; exact cutPre_yes _, ?_, fun _ => by rw [ht, hr]⟩
      have e := size_list s
      rw [ht, List.length_append, ← hr, size_list] at e; omega
    · exact ⟨s, false, hno, hs, fun e => by cases e⟩
  obtain ⟨t', x', f2, h2, hl1, hl2, hf2⟩ := cut_any r.data.toList [32]
  obtain ⟨t, ht⟩ := ba t'
  obtain ⟨x, hx⟩ := ba x'
  subst ht hx
  rw [size_list, size_list] at hl1 hl2
  obtain ⟨v, f3, h3⟩ : ∃ v f3, rdC t.data.toList = (v, f3) := ⟨_, _, rfl⟩
  refine (readS_steps s r t x f1 f2 f3 v h1 h2 h3 hrs (by omega) (by omega) m w hm hT).mono ?_
  rintro e w' ⟨rfl, hb⟩
  refine ⟨⟨v, x, ret_abf ?_⟩, hb⟩
  rw [Bool.eq_false_iff]
  intro hall
  simp only [Bool.and_eq_true] at hall
  obtain ⟨⟨⟨g1, g2⟩, g3⟩, g4⟩ := hall
  have hc := rdC_is t.data.toList (by rw [h3]; exact g3)
  rw [h3] at hc
  refine rdS_none _ h v x.data.toList hc.1 g4 ?_
  rw [hf1 g1, hf2 g2]
  unfold stB
  rw [← hc.2]
  rfl
end Go.Proofs.YtlfdbaggiimnjaaDoor
