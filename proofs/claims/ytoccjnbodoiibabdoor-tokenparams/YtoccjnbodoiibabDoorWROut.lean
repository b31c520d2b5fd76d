/-
  What the function outside of the document's answers computes.
-/
import Derived.Test.YtoccjnbodoiibabDoorSpecQ
import Derived.Test.YtoccjnbodoiibabDoorShelf
import Derived.Test.YtoccjnbodoiibabDoorRows
namespace Go.Proofs.YtoccjnbodoiibabDoor
open Go.RowKit

set_option maxHeartbeats 400000 in
set_option maxRecDepth 100000 in
theorem outside_any (a b c : Int) (w : World) :
    Calls Tryd.prog 52 #[.int .i64 a, .int .i64 b, .int .i64 c] w fun e w' => e = .returned (.bool (decide (a < b ∨ c < a))) ∧ w' = w := by
  by_cases h : a < b
  · rw [decide_eq_true (Or.inl h)]
    go_enter Tryd.func52, Tryd.ntmps52
    go_wp2
    go_ret
    exact ⟨rfl, rfl⟩
  · have hd : decide (a < b) = false := decide_eq_false h
    by_cases h2 : c < a
    · rw [decide_eq_true (Or.inr h2)]
      go_enter Tryd.func52, Tryd.ntmps52
      go_wp2
      go_ret
      exact ⟨ret_bool (by simp), rfl⟩
    · rw [decide_eq_false (by omega)]
      have hd2 : decide (c < a) = false := decide_eq_false h2
      go_enter Tryd.func52, Tryd.ntmps52
      go_wp2
      go_ret
      exact ⟨ret_bool (by simp), rfl⟩
end Go.Proofs.YtoccjnbodoiibabDoor
