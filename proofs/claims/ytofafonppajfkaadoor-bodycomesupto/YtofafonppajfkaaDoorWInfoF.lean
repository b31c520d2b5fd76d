/-
  The row of the type of fields, and blocks of one field; over the program's table of types.
-/
import Derived.Test.YtofafonppajfkaaDoorSpecF
import Derived.Test.YtofafonppajfkaaDoorShelf
import Derived.Test.YtofafonppajfkaaDoorRows
namespace Go.Proofs.YtofafonppajfkaaDoor
open Go.RowKit

theorem infoF : (Tryd.prog.info? 72).map (fun i => (i.zero, i.size, i.bytes)) = some (some (.agg #[.string ⟨#[]⟩, .string ⟨#[]⟩]), 2, 32) := by kernel_rfl
theorem pair_below {w w' : World} {g : Nat} {t : TypeId} {n u : Value} (h : w.heap[g]? = some (.cells #[n, u] t (0, 0))) (hb : Below w.heap.size w w') : w'.heap[g]? = some (.cells #[n, u] t (0, 0)) :=
  (hb.block g (Array.getElem?_eq_some_iff.1 h).1).trans h
theorem pair_new (w : World) (t : TypeId) (n u : Value) : (w.alloc (.cells #[n, u] t)).heap[w.heap.size]? = some (.cells #[n, u] t (0, 0)) := heap_alloc_new _ _
theorem flds_one (ls : List Fld) : ∀ u ∈ flds ls, u.oneCell' = true := by
  intro u hu
  unfold flds at hu
  obtain ⟨x, _, hx⟩ := List.mem_flatMap.1 hu
  simp at hx
  rcases hx with rfl | rfl <;> rfl
end Go.Proofs.YtofafonppajfkaaDoor
