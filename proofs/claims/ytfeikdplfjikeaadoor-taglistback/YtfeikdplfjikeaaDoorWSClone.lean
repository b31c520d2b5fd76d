/-
  What strings.Clone computes; a string is no longer than Go allows.
-/
import Derived.Test.YtfeikdplfjikeaaDoorSpec
import Derived.Test.YtfeikdplfjikeaaDoorShelf
import Derived.Test.YtfeikdplfjikeaaDoorRows
namespace Go.Proofs.YtfeikdplfjikeaaDoor
open Go.RowKit

set_option maxRecDepth 100000 in
theorem clone_big (s : ByteArray) (w : World) (hs : s.size ≤ 281474976710656) :
    Calls Tryd.prog 31 #[.string s] w fun e w' => e = .returned (.string s) ∧ Below w.heap.size w w' := by
  go_enter Tryd.func31, Tryd.ntmps31
  go_wp2_with fail
  refine (Tryd.stringslite_Clone s _ (by omega)).mono ?_
  rintro e w1 ⟨rfl, hb⟩
  go_wp2_with fail
  go_ret
  exact ⟨rfl, hb⟩
end Go.Proofs.YtfeikdplfjikeaaDoor
