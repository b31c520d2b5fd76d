/-
  What the program's table tells of an entity tag's type.
-/
import Derived.Test.YtfeikdplfjikeaaDoorWInfo9
namespace Go.Proofs.YtfeikdplfjikeaaDoor
open Go.RowKit

theorem infoTg : (Tryd.prog.info? 28).map (fun i => (i.zero, i.size, i.bytes)) = some (some (.agg #[.bool false, .string ⟨#[]⟩]), 2, 24) := by kernel_rfl
end Go.Proofs.YtfeikdplfjikeaaDoor
