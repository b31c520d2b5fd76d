/-
  What Quote of the document's answers computes; the package variable that the library reads holds some number.
-/
import Derived.Test.YthedmfbfolhaoaaDoorWRPlain
import Derived.Test.YthedmfbfolhaoaaDoorSpecRep
import Derived.Test.YthedmfbfolhaoaaDoorWQuote
namespace Go.Proofs.YthedmfbfolhaoaaDoor
open Go.RowKit

theorem cell_block {w : World} {a : Addr} {v : Value} (h : w.cell? a = some v) : a.block < w.heap.size := by
  rcases Nat.lt_or_ge a.block w.heap.size with h1 | h1
  · exact h1
  · exfalso
    unfold World.cell? at h
    rw [Array.getElem?_eq_none h1] at h
    simp at h

theorem below_keep {w w' : World} {a : Addr} {v : Value} (h : Below w.heap.size w w') (hc : w.cell? a = some v) : w'.cell? a = some v := (h.cell (cell_block hc)).trans hc

theorem count_mul (s : ByteArray) (c : UInt8) (k : Nat) (h : s.size ≤ k) : s.size + Lib.countB s ⟨#[c]⟩ * 2 ≤ 3 * k := by
  have := Lib.countB_mul_le ⟨#[c]⟩ (Nat.le_refl 1) s.size s (Nat.le_refl _)
  have e : (⟨#[c]⟩ : ByteArray).size = 1 := rfl
  rw [e] at this
  omega

theorem rep_at (s t : ByteArray) (c d : UInt8) (ht : t.data.toList = s.data.toList.flatMap (rep1 c [92, d])) (m : Int) (w : World) (hm : w.cell? ⟨0, 0, none⟩ = some (.int .i64 m)) (hs : s.size ≤ 100000) :
    Calls Tryd.prog 18 #[.string s, .string ⟨#[c]⟩, .string ⟨#[92, d]⟩] w fun e w' => e = .returned (.string t) ∧ Below w.heap.size w w' := by
  have hc := count_mul s c 100000 hs
  refine (Tryd.strings_ReplaceAll s ⟨#[c]⟩ ⟨#[92, d]⟩ m w (by omega) hm (Nat.le_refl 1) ?_).mono ?_
  · show s.size + Lib.countB s ⟨#[c]⟩ * 2 ≤ _
    omega
  · rintro e w' ⟨rfl, hb⟩
    refine ⟨ret_str ?_, hb⟩
    apply ByteArray.ext
    apply Array.ext'
    rw [ht]
    exact replaceAll_one c [92, d] _ (by simp)

set_option maxHeartbeats 1000000 in
set_option maxRecDepth 100000 in
theorem rquote_at (s t : ByteArray) (n : Int) (hu : qt s.data.toList = (t.data.toList, n)) (m : Int) (w : World) (hm : w.cell? ⟨0, 0, none⟩ = some (.int .i64 m)) (hsz : s.size ≤ maxLen) :
    Calls Tryd.prog 7 #[.string s] w fun e w' => e = .returned (.tuple #[.string t, .int .i64 n]) ∧ Below w.heap.size w w' := by
  have fin : ∀ t' : ByteArray, ∀ n' : Int, qt s.data.toList = (t'.data.toList, n') → (t' = t ∧ n' = n) := by
    intro t' n' h
    rw [hu, Prod.mk.injEq] at h
    refine ⟨?_, h.2.symm⟩
    apply ByteArray.ext
    apply Array.ext'
    exact h.1.symm
  have HF : Hid (∀ t' : ByteArray, ∀ n' : Int, qt s.data.toList = (t'.data.toList, n') → (t' = t ∧ n' = n)) := fin
  have HS : Hid (s.size ≤ maxLen) := hsz
  have HM : Hid (w.cell? ⟨0, 0, none⟩ = some (.int .i64 m)) := hm
  clear fin hu hsz hm
  by_cases h1 : 1000 < (s.size : Int)
  · have HL : Hid (1000 < s.data.toList.length) := by show 1000 < s.data.toList.length; rw [size_list]; omega
    go_enter Tryd.func7, Tryd.ntmps7
    go_wp2_with fail
    go_ret2
    obtain ⟨e1, e2⟩ := HF.out ⟨#[]⟩ 2 (qt_long _ HL.out)
    exact ⟨ret_errq e1 e2, Below.refl _ _⟩
  · have HL : Hid (¬ 1000 < s.data.toList.length) := by show ¬ 1000 < s.data.toList.length; rw [size_list]; omega
    have hs : (s.size : Int) ≤ 1000 := by omega
    clear h1
    cases hp : allPlain s.data.toList
    · have HP : Hid (allPlain s.data.toList = false) := hp
      clear hp
      go_enter Tryd.func7, Tryd.ntmps7
      go_wp2_with fail
      refine (rplain_any _ _ HS.out).mono ?_
      rintro e w' ⟨rfl, rfl⟩
      rw [HP.out]
      go_wp2_with fail
      go_ret2
      obtain ⟨e1, e2⟩ := HF.out ⟨#[]⟩ 3 (qt_bad _ HL.out HP.out)
      exact ⟨ret_errq e1 e2, Below.refl _ _⟩
    · have HP : Hid (allPlain s.data.toList = true) := hp
      clear hp
      obtain ⟨t1, ht1⟩ : ∃ t1 : ByteArray, t1.data.toList = s.data.toList.flatMap (rep1 92 [92, 92]) := ⟨⟨(s.data.toList.flatMap (rep1 92 [92, 92])).toArray⟩, rfl⟩
      obtain ⟨t2, ht2⟩ : ∃ t2 : ByteArray, t2.data.toList = t1.data.toList.flatMap (rep1 34 [92, 34]) := ⟨⟨(t1.data.toList.flatMap (rep1 34 [92, 34])).toArray⟩, rfl⟩
      have hl1 : t1.size ≤ 2000 := by
        rw [← size_list, ht1]
        have := rep_len 92 [92, 92] s.data.toList (by simp)
        rw [size_list] at this; omega
      have hl2 : t2.size ≤ 4000 := by
        rw [← size_list, ht2]
        have := rep_len 34 [92, 34] t1.data.toList (by simp)
        rw [size_list] at this; omega
      have HE : Hid (t2.data.toList = esc s.data.toList) := by show _ = _; rw [ht2, ht1, rep_rep]
      have H1 : Hid (t1.data.toList = s.data.toList.flatMap (rep1 92 [92, 92])) := ht1
      have H2 : Hid (t2.data.toList = t1.data.toList.flatMap (rep1 34 [92, 34])) := ht2
      clear ht1 ht2
      go_enter Tryd.func7, Tryd.ntmps7
      go_wp2_with fail
      refine (rplain_any _ _ HS.out).mono ?_
      rintro e w' ⟨rfl, rfl⟩
      rw [HP.out]
      go_wp2_with fail
      refine (rep_at _ t1 92 92 H1.out m _ HM.out (by omega)).mono ?_
      rintro e w1 ⟨rfl, hb1⟩
      have HM1 : Hid (w1.cell? ⟨0, 0, none⟩ = some (.int .i64 m)) := below_keep hb1 HM.out
      go_wp2_with fail
      refine (rep_at _ t2 34 34 H2.out m _ HM1.out (by omega)).mono ?_
      rintro e w2 ⟨rfl, hb2⟩
      go_wp2_with fail
      go_ret2
      obtain ⟨e1, e2⟩ := HF.out (⟨#[34]⟩ ++ t2 ++ ⟨#[34]⟩) 0 (by rw [qt_ok _ HL.out HP.out, ByteArray.data_append, ByteArray.data_append, Array.toList_append, Array.toList_append, HE.out]; simp)
      exact ⟨ret_errq e1 e2, hb1.trans (hb2.mono hb1.size)⟩
end Go.Proofs.YthedmfbfolhaoaaDoor
