/-
  New blocks lie above all that was there; no program is named here.
-/
import Derived.Test.YtoccjnbodoiibaaSpecF
namespace Go.Proofs.Ytoccjnbodoiibaa
open Go.RowKit

theorem below_alloc (w : World) (o : Obj) : Below w.heap.size w (w.alloc o) := (Below.refl _ w).alloc (Nat.le_refl _) o
theorem below_alloc2 (w : World) (o o' : Obj) : Below w.heap.size w ((w.alloc o).alloc o') := (below_alloc w o).alloc (by simp) o'
theorem below_new {w w1 : World} {o : Obj} (h : Below (w.alloc o).heap.size (w.alloc o) w1) : Below w.heap.size w w1 := (below_alloc w o).trans (h.mono (by simp))
theorem below_new2 {w w1 : World} {o o' : Obj} (h : Below ((w.alloc o).alloc o').heap.size ((w.alloc o).alloc o') w1) : Below w.heap.size w w1 := (below_alloc2 w o o').trans (h.mono (by simp; omega))
theorem new_cell {w w1 : World} {cs : Array Value} {t : TypeId} (h : Below (w.alloc (.cells cs t)).heap.size (w.alloc (.cells cs t)) w1) (j : Nat) : w1.cell? ⟨w.heap.size, j, none⟩ = cs[j]? :=
  (h.cell (p := ⟨w.heap.size, j, none⟩) (by simp)).trans (by simp)
theorem new_cell2 {w w1 : World} {cs ds : Array Value} {t u : TypeId} (h : Below ((w.alloc (.cells cs t)).alloc (.cells ds u)).heap.size ((w.alloc (.cells cs t)).alloc (.cells ds u)) w1) (j : Nat) : w1.cell? ⟨w.heap.size, j, none⟩ = cs[j]? ∧ w1.cell? ⟨w.heap.size + 1, j, none⟩ = ds[j]? :=
  ⟨(h.cell (p := ⟨w.heap.size, j, none⟩) (by simp; omega)).trans (by simp), (h.cell (p := ⟨w.heap.size + 1, j, none⟩) (by simp)).trans (by simp)⟩
theorem two_cells {w W : World} {t : TypeId} {a b : Value} (h : Below (w.alloc (.cells #[a, b] t)).heap.size (w.alloc (.cells #[a, b] t)) W) :
    W.cell? ⟨w.heap.size, 0, none⟩ = some a ∧ W.cell? ⟨w.heap.size, 1, none⟩ = some b ∧ (∀ o, W.frozen? ⟨w.heap.size, o, none⟩ = false) ∧ w.heap.size < W.heap.size ∧ Below w.heap.size w W := by
  refine ⟨new_cell h 0, new_cell h 1, fun o => ?_, ?_, below_new h⟩
  · exact (h.frozen (p := ⟨w.heap.size, o, none⟩) (by simp)).trans (new_free _ _ _ _)
  · have := h.size; simp at this; omega
/-- A block of four cells, all of them written anew. -/
def set4 (w : World) (g : Nat) (a b c d : Value) : World := (((w.setCell ⟨g, 0, none⟩ a).setCell ⟨g, 1, none⟩ b).setCell ⟨g, 2, none⟩ c).setCell ⟨g, 3, none⟩ d
theorem set4_own {w : World} {g : Nat} {t : TypeId} {p q r s a b c d : Value} (h : w.heap[g]? = some (.cells #[p, q, r, s] t (0, 0))) : (set4 w g a b c d).heap[g]? = some (.cells #[a, b, c, d] t (0, 0)) := by
  unfold set4
  have h1 := heap_setCell_same w g 0 _ t a h
  have h2 := heap_setCell_same _ g 1 _ t b h1
  have h3 := heap_setCell_same _ g 2 _ t c h2
  exact heap_setCell_same _ g 3 _ t d h3
theorem set4_other {w : World} {g k : Nat} {a b c d : Value} (h : k ≠ g) : (set4 w g a b c d).heap[k]? = w.heap[k]? := by
  unfold set4
  rw [heap_setCell_other _ _ _ _ h, heap_setCell_other _ _ _ _ h, heap_setCell_other _ _ _ _ h, heap_setCell_other _ _ _ _ h]
theorem set4_below {B : Nat} {w0 w : World} {g : Nat} (a b c d : Value) (hb : Below B w0 w) (hg : B ≤ g) : Below B w0 (set4 w g a b c d) := (((hb.setCell hg a).setCell hg b).setCell hg c).setCell hg d
theorem set4_cell {w : World} {g : Nat} {t : TypeId} {p q r s a b c d : Value} (h : w.heap[g]? = some (.cells #[p, q, r, s] t (0, 0))) (j : Nat) : (set4 w g a b c d).cell? ⟨g, j, none⟩ = #[a, b, c, d][j]? := by
  simp [World.cell?, set4_own h]
end Go.Proofs.Ytoccjnbodoiibaa
