/-
  The walk through TokenIs: it answers true and turns nothing that was there; the string fits in Go's limits.
-/
import Derived.Test.YthedmfbfolhaoaaWTok
import Derived.Test.YthedmfbfolhaoaaWLow
import Derived.Test.YthedmfbfolhaoaaWRTok
import Derived.Test.YthedmfbfolhaoaaWRLow
namespace Go.Proofs.Ythedmfbfolhaoaa
open Go.RowKit

theorem eq_self_bool (b : Bool) : (b == b) = true := by cases b <;> rfl

set_option maxHeartbeats 400000 in
theorem walkTokenIs (a0 : ByteArray) (z0 : a0.size ≤ 140737488351232) (w : World) :
    Calls Try.prog 4 #[.string a0] w fun e w' => e = .returned (.bool true) ∧ Below w.heap.size w w' := by
  have hm : a0.size ≤ maxLen := by unfold maxLen; omega
  go_enter Try.func4, Try.ntmps4
  go_wp2_with fail
  refine (isToken_any _ _ hm).mono ?_
  rintro e w1 ⟨rfl, rfl⟩
  go_wp2_with fail
  refine (rtoken_any _ _ hm).mono ?_
  rintro e w2 ⟨rfl, rfl⟩
  go_wp2_with fail
  refine (lower_any _ _ z0).mono ?_
  rintro e w3 ⟨rfl, hb⟩
  go_wp2_with fail
  refine (rlower_any _ _ z0).mono ?_
  rintro e w4 ⟨rfl, rfl⟩
  go_wp2_with fail
  go_ret
  exact ⟨ret_bool (by simp), hb⟩
end Go.Proofs.Ythedmfbfolhaoaa
