/-
  The walk through TokenUnquotes: it answers true and turns nothing that was there; the string fits in Go's limits.
-/
import Derived.Test.YthedmfbfolhaoaaWRUnq
namespace Go.Proofs.Ythedmfbfolhaoaa
open Go.RowKit

set_option maxHeartbeats 400000 in
set_option maxRecDepth 100000 in
theorem walkTokenUnquotes (a0 : ByteArray) (z0 : a0.size ≤ 140737488351232) (w : World) :
    Calls Try.prog 5 #[.string a0] w fun e w' => e = .returned (.bool true) ∧ Below w.heap.size w w' := by
  obtain ⟨t, n, hu⟩ : ∃ (t : ByteArray) (n : Int), unq a0.data.toList = (t.data.toList, n) := ⟨⟨(unq a0.data.toList).1.toArray⟩, (unq a0.data.toList).2, by rw [mk_list]⟩
  have HU : Hid (unq a0.data.toList = (t.data.toList, n)) := hu
  clear hu
  go_enter Try.func5, Try.ntmps5
  go_wp2_with fail
  refine (unquote_at _ t n HU.out _ z0).mono ?_
  rintro e w1 ⟨rfl, hb⟩
  go_wp2_with fail
  refine (runquote_at _ t n HU.out _ z0).mono ?_
  rintro e w2 ⟨rfl, rfl⟩
  go_wp2_with fail
  go_ret
  exact ⟨ret_bool (by simp), hb⟩
end Go.Proofs.Ythedmfbfolhaoaa
