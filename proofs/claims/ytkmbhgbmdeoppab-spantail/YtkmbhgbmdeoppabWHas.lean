/-
  What hasBytes of package span computes.
-/
import Derived.Test.YtkmbhgbmdeoppabSpecAl
import Derived.Test.YtkmbhgbmdeoppabShelf
import Derived.Test.YtkmbhgbmdeoppabRows
namespace Go.Proofs.Ytkmbhgbmdeoppab
open Go.RowKit

set_option maxRecDepth 100000 in
theorem shas_any (a b : Int) (w : World) :
    Calls Try.prog 15 #[.agg #[.int .i64 a, .int .i64 b]] w fun e w' => e = .returned (.bool (decide (a < b))) ∧ Below w.heap.size w w' := by
  have hw0 : Below w.heap.size w (w.alloc (.cells #[.int .i64 a, .int .i64 b] 28)) := (Below.refl _ w).alloc (Nat.le_refl _) _
  go_enter Try.func15, Try.ntmps15
  go_wp2_with fail
  go_ret
  exact ⟨rfl, hw0⟩
theorem shas_is (a b : Int) (r : Bool) (h : decide (a < b) = r) (w : World) :
    Calls Try.prog 15 #[.agg #[.int .i64 a, .int .i64 b]] w fun e w' => e = .returned (.bool r) ∧ Below w.heap.size w w' := by
  subst h; exact shas_any a b w
end Go.Proofs.Ytkmbhgbmdeoppab
