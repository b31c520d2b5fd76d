/-
  What the program's table tells of a directive's type.
-/
import Derived.Test.YtoccjnbodoiibaaWInfo9
namespace Go.Proofs.Ytoccjnbodoiibaa
open Go.RowKit

theorem infoDr : (Try.prog.info? 28).map (fun i => (i.zero, i.size, i.bytes)) = some (some (.agg #[.string ⟨#[]⟩, .bool false, .string ⟨#[]⟩]), 3, 40) := by kernel_rfl
end Go.Proofs.Ytoccjnbodoiibaa
