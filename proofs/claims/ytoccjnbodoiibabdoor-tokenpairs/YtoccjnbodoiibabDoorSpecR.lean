/-
  Plain lemmas: what is quoted is unquoted as it was, and what was unquoted is quoted in no more bytes; no program is named here.
-/
import Derived.Test.YtoccjnbodoiibabDoorSpecQ
namespace Go.Proofs.YtoccjnbodoiibabDoor
open Go.RowKit

theorem fold_esc1 (acc : List UInt8) (c : UInt8) (h : plainB c = true) : (esc1 c).foldl ustep (some (acc, false)) = some (acc ++ [c], false) := by
  unfold esc1
  split
  · rename_i hc
    have : plainB 92 = true := rfl
    simp [ustep, h, this]
  · rename_i hc
    have h1 : c ≠ 34 := fun e => hc (.inl e)
    have h2 : c ≠ 92 := fun e => hc (.inr e)
    simp [ustep, h, h1, h2]

theorem fold_esc (l : List UInt8) : ∀ acc, allPlain l = true → (esc l).foldl ustep (some (acc, false)) = some (acc ++ l, false) := by
  induction l with
  | nil => intro acc _; simp [esc]
  | cons c l ih =>
    intro acc h
    have e : esc (c :: l) = esc1 c ++ esc l := by simp [esc]
    unfold allPlain at h
    rw [List.all_cons, Bool.and_eq_true] at h
    rw [e, List.foldl_append, fold_esc1 acc c h.1, ih _ h.2]
    simp

theorem unesc_esc (l : List UInt8) (h : allPlain l = true) : unesc (esc l) = some (l, false) := by
  have := fold_esc l [] h
  simpa [unesc] using this

/-- What stands ahead of a fold that lives lives, and it is no longer than what was eaten: a byte that is written took one byte, or two where it wants a stroke. -/
theorem fold_short (l : List UInt8) : ∀ (a0 : List UInt8) (b0 : Bool) acc b, l.foldl ustep (some (a0, b0)) = some (acc, b) →
    (esc acc).length + (if b then 1 else 0) ≤ (esc a0).length + (if b0 then 1 else 0) + l.length ∧ (allPlain a0 = true → allPlain acc = true) := by
  induction l with
  | nil => intro a0 b0 acc b h; simp at h; obtain ⟨rfl, rfl⟩ := h; simp
  | cons c l ih =>
    intro a0 b0 acc b h
    rw [List.foldl_cons] at h
    cases hu : ustep (some (a0, b0)) c with
    | none => rw [hu, ustep_none] at h; cases h
    | some y =>
      obtain ⟨a1, b1⟩ := y
      rw [hu] at h
      have h1 := ih a1 b1 acc b h
      have hp : plainB c = true := by
        cases hp : plainB c
        · rw [ustep_bad _ _ hp] at hu; cases hu
        · rfl
      have h2 : (esc a1).length + (if b1 then 1 else 0) ≤ (esc a0).length + (if b0 then 1 else 0) + 1 ∧ (allPlain a0 = true → allPlain a1 = true) := by
        cases b0
        · by_cases h34 : c = 34
          · rw [ustep_quote _ _ h34] at hu; cases hu
          · by_cases h92 : c = 92
            · rw [ustep_back _ _ h92] at hu
              simp at hu; obtain ⟨rfl, rfl⟩ := hu
              simp
            · rw [ustep_else _ _ hp h34 h92] at hu
              simp at hu; obtain ⟨rfl, rfl⟩ := hu
              refine ⟨?_, fun h => allPlain_snoc _ _ h hp⟩
              rw [esc_snoc, List.length_append]
              have : (esc1 c).length = 1 := by unfold esc1; rw [if_neg (by rintro (e | e); exact h34 e; exact h92 e)]; rfl
              simp [this]
        · rw [ustep_took _ _ hp] at hu
          simp at hu; obtain ⟨rfl, rfl⟩ := hu
          refine ⟨?_, fun h => allPlain_snoc _ _ h hp⟩
          rw [esc_snoc, List.length_append]
          have : (esc1 c).length ≤ 2 := by unfold esc1; split <;> simp
          simp
          omega
      refine ⟨?_, fun h => h1.2 (h2.2 h)⟩
      rw [List.length_cons]
      omega

theorem unesc_short (l acc : List UInt8) (h : unesc l = some (acc, false)) : (esc acc).length ≤ l.length ∧ allPlain acc = true := by
  have := fold_short l [] false acc false h
  simp [esc] at this
  exact ⟨by simpa [esc] using this.1, this.2 rfl⟩
end Go.Proofs.YtoccjnbodoiibabDoor
