/-
  A list of fields of bulk at most 1048576 fits in the memory that Go's limits allow; no program is named here.
-/
import Derived.Test.YtofafonppajfkabDoorSpecG
import Derived.Test.YtofafonppajfkabDoorWPick
namespace Go.Proofs.YtofafonppajfkabDoor
open Go.RowKit

theorem wide_bulk (ls : List Fld) (h : bulkF ls ≤ 1048576) : Wide ls := by
  refine ⟨fun x hx => ?_, ?_⟩
  · have := bulk_most ls x hx; omega
  · have := bulk_len ls; omega
end Go.Proofs.YtofafonppajfkabDoor
