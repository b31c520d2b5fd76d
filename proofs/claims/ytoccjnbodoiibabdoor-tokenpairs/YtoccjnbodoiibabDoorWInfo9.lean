/-
  The row of the type of texts, and the cells of a block of one; over the program's table of types.
-/
import Derived.Test.YtoccjnbodoiibabDoorSpecS
import Derived.Test.YtoccjnbodoiibabDoorShelf
import Derived.Test.YtoccjnbodoiibabDoorRows
namespace Go.Proofs.YtoccjnbodoiibabDoor
open Go.RowKit

theorem info9 : (Tryd.prog.info? 9).map (fun i => (i.zero, i.size, i.bytes)) = some (some (.string ⟨#[]⟩), 1, 16) := by kernel_rfl
theorem one_cell (w : World) (v : Value) (t : TypeId) : ∀ (j : Nat) u, [v][j]? = some u → (w.alloc (.cells #[v] t)).cell? ((⟨w.heap.size, 0, none⟩ : Addr).add j) = some u := by
  intro j u h
  match j, h with
  | 0, h => simp at h; subst h; simp [Addr.add]
end Go.Proofs.YtoccjnbodoiibabDoor
