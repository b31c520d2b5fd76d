/-
  The walk through TokenSplits: it answers true and turns nothing that was there; the text is no longer than Go allows.
-/
import Derived.Test.YthedmfbfolhaoaaDoorWRSplit
import Derived.Test.YthedmfbfolhaoaaDoorWEqS
namespace Go.Proofs.YthedmfbfolhaoaaDoor
open Go.RowKit

theorem splitS_len (l : List UInt8) : (splitS l).1.length ≤ 20 := by
  unfold splitS
  split
  · simp
  · split
    · simp
    · split
      · simp
      · simp only; omega

set_option maxHeartbeats 400000 in
set_option maxRecDepth 100000 in
theorem walkTokenSplits (a0 : ByteArray) (_z0 : a0.size ≤ 140737488351232) (w : World) :
    Calls Tryd.prog 4 #[.string a0] w fun e w' => e = .returned (.bool true) ∧ Below w.heap.size w w' := by
  have hl := splitS_len a0.data.toList
  go_enter Tryd.func4, Tryd.ntmps4
  go_wp2_with fail
  refine (split_any _ _).mono ?_
  rintro e w1 ⟨v, rfl, hown, hb⟩
  go_wp2_with fail
  refine (rsplit_any _ _).mono ?_
  rintro e w2 ⟨v', rfl, hown', hb'⟩
  have hown2 := own_below2 hown hb'
  clear hown
  go_wp2_with fail
  refine (eqS_same _ _ _ _ _ _ _ (by omega) hown2 hown').mono ?_
  rintro e w3 ⟨rfl, rfl⟩
  go_wp2_with fail
  go_ret
  exact ⟨ret_bool (by simp), hb.trans (hb'.mono hb.size)⟩
end Go.Proofs.YthedmfbfolhaoaaDoor
