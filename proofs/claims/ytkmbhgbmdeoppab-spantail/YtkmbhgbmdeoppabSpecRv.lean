/-
  What is asked for of a body, resolved; no program is named here.
-/
import Derived.Test.YtkmbhgbmdeoppabSpecWs
namespace Go.Proofs.Ytkmbhgbmdeoppab
open Go.RowKit

def rvF (size : Int) (w : Wn) : Int := if w.1 = -1 then max (size - w.2) 0 else w.1
def rvT (size : Int) (w : Wn) : Int := min (if w.1 = -1 then size else if w.2 = -1 then size else w.2 + 1) size
def rvW (size : Int) (w : Wn) : List Wn := if rvF size w < rvT size w then [(rvF size w, rvT size w)] else []
def rvL (size : Int) (l : List Wn) : List Wn := l.flatMap (rvW size)
def rsSp (l : List Wn) (size : Int) : List Wn × Int :=
  if chkW l = 1 ∨ size < 0 then ([], 1) else if chkW l ≠ 0 then ([], chkW l) else if (rvL size l).length = 0 then ([], 11) else (rvL size l, 0)
theorem rvL_take (size : Int) (l : List Wn) (k : Nat) (h : k < l.length) : rvL size (l.take (k + 1)) = rvL size (l.take k) ++ rvW size l[k] := by
  unfold rvL
  rw [List.take_succ_eq_append_getElem h, List.flatMap_append, List.flatMap_cons, List.flatMap_nil, List.append_nil]
theorem rvW_len (size : Int) (w : Wn) : (rvW size w).length ≤ 1 := by unfold rvW; split <;> simp
theorem rvL_len (size : Int) (l : List Wn) : (rvL size l).length ≤ l.length := by
  induction l with
  | nil => simp [rvL]
  | cons w l ih =>
    have e : rvL size (w :: l) = rvW size w ++ rvL size l := by simp [rvL]
    have := rvW_len size w
    rw [e, List.length_append, List.length_cons]; omega
theorem rsSp_arg {l : List Wn} {size : Int} (h : chkW l = 1 ∨ size < 0) : rsSp l size = ([], 1) := by unfold rsSp; rw [if_pos h]
theorem rsSp_bad {l : List Wn} {size : Int} (h : ¬ (chkW l = 1 ∨ size < 0)) (h2 : chkW l ≠ 0) : rsSp l size = ([], chkW l) := by unfold rsSp; rw [if_neg h, if_pos h2]
theorem rsSp_none {l : List Wn} {size : Int} (h : 0 ≤ size) (h2 : chkW l = 0) (h3 : (rvL size l).length = 0) : rsSp l size = ([], 11) := by
  unfold rsSp; rw [if_neg (by omega), if_neg (by omega), if_pos h3]
theorem rsSp_ok {l : List Wn} {size : Int} (h : 0 ≤ size) (h2 : chkW l = 0) (h3 : (rvL size l).length ≠ 0) : rsSp l size = (rvL size l, 0) := by
  unfold rsSp; rw [if_neg (by omega), if_neg (by omega), if_neg h3]
theorem rsSp_code (l : List Wn) (size : Int) : (rsSp l size).2 = 0 ∨ (rsSp l size).1 = [] := by
  unfold rsSp
  split
  · exact .inr rfl
  · split
    · exact .inr rfl
    · split
      · exact .inr rfl
      · exact .inl rfl
/-- What is resolved lies within, and has bytes. -/
theorem rvL_in {l : List Wn} {size : Int} (hl : l.all okW = true) : ∀ s ∈ rvL size l, 0 ≤ s.1 ∧ s.1 < s.2 ∧ s.2 ≤ size := by
  intro s hs
  unfold rvL at hs
  obtain ⟨w, hw, hs⟩ := List.mem_flatMap.1 hs
  have ho := okW_is (List.all_eq_true.1 hl w hw)
  unfold rvW at hs
  split at hs
  · rename_i h
    rw [List.mem_singleton.1 hs]
    unfold rvF rvT at *
    refine ⟨?_, h, by simp only; omega⟩
    simp only
    split
    · omega
    · have := ho.2.2.2.2.2 (by assumption); omega
  · simp at hs
theorem rsSp_in {l : List Wn} {size : Int} {m : List Wn} (h : rsSp l size = (m, 0)) : (∀ s ∈ m, 0 ≤ s.1 ∧ s.1 < s.2 ∧ s.2 ≤ size) ∧ 1 ≤ m.length ∧ m.length ≤ l.length := by
  by_cases h1 : chkW l = 1 ∨ size < 0
  · rw [rsSp_arg h1] at h; cases (Prod.mk.inj h).2
  · by_cases h2 : chkW l = 0
    · by_cases h3 : (rvL size l).length = 0
      · rw [rsSp_none (by omega) h2 h3] at h; cases (Prod.mk.inj h).2
      · rw [rsSp_ok (by omega) h2 h3] at h
        cases (Prod.mk.inj h).1
        exact ⟨rvL_in (chkW_zero h2).1, by omega, rvL_len size l⟩
    · rw [rsSp_bad h1 h2] at h
      exact absurd (Prod.mk.inj h).2 h2
end Go.Proofs.Ytkmbhgbmdeoppab
