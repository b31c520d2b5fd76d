/-
  A text without its end or its beginning, and whether it has it; no program is named here.
-/
import Derived.Test.YtfeikdplfjikeaaDoorSpec
import Derived.Lib.Strings
namespace Go.Proofs.YtfeikdplfjikeaaDoor
open Go.RowKit

/-- A text without its end, and whether it ends so. -/
def cutSuf (s p : List UInt8) : List UInt8 × Bool := (Lib.trimSuffix s p, Lib.hasSuffix s p)
/-- A text without its beginning, and whether it begins so. -/
def cutPre (s p : List UInt8) : List UInt8 × Bool := (Lib.trimPrefix s p, Lib.hasPrefix s p)
end Go.Proofs.YtfeikdplfjikeaaDoor
