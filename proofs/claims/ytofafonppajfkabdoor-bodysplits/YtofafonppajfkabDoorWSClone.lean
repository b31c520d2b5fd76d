/-
  What strings.Clone computes; a string is no longer than Go allows.
-/
import Derived.Test.YtofafonppajfkabDoorSpec
import Derived.Test.YtofafonppajfkabDoorShelf
import Derived.Test.YtofafonppajfkabDoorRows
namespace Go.Proofs.YtofafonppajfkabDoor
open Go.RowKit

set_option maxRecDepth 100000 in
theorem clone_big (s : ByteArray) (w : World) (hs : s.size ≤ 281474976710656) :
    Calls Tryd.prog 45 #[.string s] w fun e w' => e = .returned (.string s) ∧ Below w.heap.size w w' := by
  go_enter Tryd.func45, Tryd.ntmps45
  go_wp2_with fail
  refine (Tryd.stringslite_Clone s _ (by omega)).mono ?_
  rintro e w1 ⟨rfl, hb⟩
  go_wp2_with fail
  go_ret
  exact ⟨rfl, hb⟩
end Go.Proofs.YtofafonppajfkabDoor
