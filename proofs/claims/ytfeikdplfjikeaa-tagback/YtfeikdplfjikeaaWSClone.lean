/-
  What strings.Clone computes; a string is no longer than Go allows.
-/
import Derived.Test.YtfeikdplfjikeaaSpec
import Derived.Test.YtfeikdplfjikeaaShelf
import Derived.Test.YtfeikdplfjikeaaRows
namespace Go.Proofs.Ytfeikdplfjikeaa
open Go.RowKit

set_option maxRecDepth 100000 in
theorem clone_big (s : ByteArray) (w : World) (hs : s.size ≤ 281474976710656) :
    Calls Try.prog 17 #[.string s] w fun e w' => e = .returned (.string s) ∧ Below w.heap.size w w' := by
  go_enter Try.func17, Try.ntmps17
  go_wp2_with fail
  refine (Try.stringslite_Clone s _ (by omega)).mono ?_
  rintro e w1 ⟨rfl, hb⟩
  go_wp2_with fail
  go_ret
  exact ⟨rfl, hb⟩
end Go.Proofs.Ytfeikdplfjikeaa
