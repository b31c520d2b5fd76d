/-
  What the function outside of the document's answers computes, as a letter.
-/
import Derived.Test.YtkmbhgbmdeoppaaWROut
import Derived.Below
namespace Go.Proofs.Ytkmbhgbmdeoppaa
open Go.RowKit

theorem out_is (a b c : Int) : decide (a < b ∨ c < a) = !decide (b ≤ a ∧ a ≤ c) := by
  by_cases h : b ≤ a ∧ a ≤ c
  · rw [decide_eq_true h, decide_eq_false (by omega)]; rfl
  · rw [decide_eq_false h, decide_eq_true (by omega)]; rfl
theorem rout_at (a b c : Int) (r : Bool) (h : (!decide (b ≤ a ∧ a ≤ c)) = r) (w : World) :
    Calls Try.prog 23 #[.int .i64 a, .int .i64 b, .int .i64 c] w fun e w' => e = .returned (.bool r) ∧ Below w.heap.size w w' := by
  refine (outside_any a b c w).mono ?_
  rintro e w' ⟨rfl, rfl⟩
  exact ⟨ret_bool ((out_is a b c).trans h), Below.refl _ _⟩
end Go.Proofs.Ytkmbhgbmdeoppaa
