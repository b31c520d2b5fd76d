/-
  Plain lemmas on tokens: none has a sign that is cut at, a quote, a stroke or a blank; no program is named here.
-/
import Derived.Test.YtoccjnbodoiibabDoorSpecC
namespace Go.Proofs.YtoccjnbodoiibabDoor
open Go.RowKit

theorem tok_ne (c : UInt8) (h : isTok c = true) : c ≠ 34 ∧ c ≠ 92 ∧ c ≠ 44 ∧ c ≠ 59 ∧ c ≠ 61 ∧ blank c = false := by
  have := byAll (fun c => !isTok c || (decide (c ≠ 34) && decide (c ≠ 92) && decide (c ≠ 44) && decide (c ≠ 59) && decide (c ≠ 61) && !blank c)) (by decide +kernel) c
  rw [h] at this
  simp at this
  obtain ⟨⟨⟨⟨⟨h1, h2⟩, h3⟩, h4⟩, h5⟩, h6⟩ := this
  exact ⟨h1, h2, h3, h4, h5, h6⟩
theorem tok_run (sep : UInt8) (hsep : sep = 44 ∨ sep = 59) (l : List UInt8) (h : l.all isTok = true) : run sep (false, false) l = some (false, false) := by
  induction l with
  | nil => rfl
  | cons c l ih =>
    rw [List.all_cons, Bool.and_eq_true] at h
    obtain ⟨h1, h2, h3, h4, _, _⟩ := tok_ne c h.1
    have hs : c ≠ sep := by rcases hsep with rfl | rfl <;> assumption
    rw [run_cons, if_neg (fun x => hs x.1)]
    simp only [Bool.false_eq_true, if_false, h1, h2]
    exact ih h.2
theorem token_parts (l : List UInt8) (h : token l = true) : l.isEmpty = false ∧ l.all isTok = true := by
  unfold token at h
  rw [Bool.and_eq_true] at h
  exact ⟨by simpa using h.1, h.2⟩
theorem trimL_token (l : List UInt8) (h : token l = true) : trimL l = l := by
  obtain ⟨_, h2⟩ := token_parts l h
  rw [List.all_eq_true] at h2
  apply trimL_stays
  · intro b hb
    exact (tok_ne b (h2 b (List.mem_of_mem_head? hb))).2.2.2.2.2
  · intro b hb
    exact (tok_ne b (h2 b (List.mem_of_getLast? hb))).2.2.2.2.2
end Go.Proofs.YtoccjnbodoiibabDoor
