/-
  What the program's table tells of a slice of a body's type.
-/
import Derived.Test.YtkmbhgbmdeoppabWInfo9
namespace Go.Proofs.Ytkmbhgbmdeoppab
open Go.RowKit

theorem infoSc : (Try.prog.info? 28).map (fun i => (i.zero, i.size, i.bytes)) = some (some (.agg #[.int .i64 0, .int .i64 0]), 2, 16) := by kernel_rfl
end Go.Proofs.Ytkmbhgbmdeoppab
