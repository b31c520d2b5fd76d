/-
  A block of three cells, written anew or newly laid; no program is named here.
-/
import Derived.Test.YtoccjnbodoiibaaSpecAl
import Derived.Handy
namespace Go.Proofs.Ytoccjnbodoiibaa
open Go.RowKit

theorem three_set {w : World} {B : Nat} {u0 u1 u2 : Value} (a b c : Value) (h0 : w.cell? ⟨B, 0, none⟩ = some u0) (h1 : w.cell? ⟨B, 1, none⟩ = some u1) (h2 : w.cell? ⟨B, 2, none⟩ = some u2) :
    (((w.setCell ⟨B, 0, none⟩ a).setCell ⟨B, 1, none⟩ b).setCell ⟨B, 2, none⟩ c).cell? ⟨B, 0, none⟩ = some a ∧ (((w.setCell ⟨B, 0, none⟩ a).setCell ⟨B, 1, none⟩ b).setCell ⟨B, 2, none⟩ c).cell? ⟨B, 1, none⟩ = some b ∧ (((w.setCell ⟨B, 0, none⟩ a).setCell ⟨B, 1, none⟩ b).setCell ⟨B, 2, none⟩ c).cell? ⟨B, 2, none⟩ = some c := by
  have e1 : (w.setCell ⟨B, 0, none⟩ a).cell? ⟨B, 0, none⟩ = some a := World.cell?_setCell_same' _ _ _ (by rw [h0]; rfl)
  have e2 : (w.setCell ⟨B, 0, none⟩ a).cell? ⟨B, 1, none⟩ = some u1 := (World.cell?_setCell_other _ _ _ _ (by simp)).trans h1
  have e3 : ((w.setCell ⟨B, 0, none⟩ a).setCell ⟨B, 1, none⟩ b).cell? ⟨B, 2, none⟩ = some u2 := (World.cell?_setCell_other _ _ _ _ (by simp)).trans ((World.cell?_setCell_other _ _ _ _ (by simp)).trans h2)
  exact ⟨(World.cell?_setCell_other _ _ _ _ (by simp)).trans ((World.cell?_setCell_other _ _ _ _ (by simp)).trans e1), (World.cell?_setCell_other _ _ _ _ (by simp)).trans (World.cell?_setCell_same' _ _ _ (by rw [e2]; rfl)), World.cell?_setCell_same' _ _ _ (by rw [e3]; rfl)⟩
theorem three_cells {w W : World} {t : TypeId} {a b c : Value} (h : Below (w.alloc (.cells #[a, b, c] t)).heap.size (w.alloc (.cells #[a, b, c] t)) W) :
    W.cell? ⟨w.heap.size, 0, none⟩ = some a ∧ W.cell? ⟨w.heap.size, 1, none⟩ = some b ∧ W.cell? ⟨w.heap.size, 2, none⟩ = some c ∧ (∀ o, W.frozen? ⟨w.heap.size, o, none⟩ = false) ∧ w.heap.size < W.heap.size ∧ Below w.heap.size w W := by
  refine ⟨new_cell h 0, new_cell h 1, new_cell h 2, fun o => ?_, ?_, below_new h⟩
  · rw [h.frozen (p := ⟨w.heap.size, o, none⟩) (by simp)]
    exact Lib.frozen_of_heap (heap_alloc_new w _) o
  · have := h.size
    simp at this; omega
end Go.Proofs.Ytoccjnbodoiibaa
