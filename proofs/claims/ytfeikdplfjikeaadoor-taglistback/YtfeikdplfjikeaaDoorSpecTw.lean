/-
  Two cells of a block that are written one behind the other, and pairs; no program is named here.
-/
import Derived.Test.YtfeikdplfjikeaaDoorSpec
import Derived.Handy
namespace Go.Proofs.YtfeikdplfjikeaaDoor
open Go.RowKit

theorem two_set {w : World} {B : Nat} {u0 u1 : Value} (a b : Value) (h0 : w.cell? ⟨B, 0, none⟩ = some u0) (h1 : w.cell? ⟨B, 1, none⟩ = some u1) :
    ((w.setCell ⟨B, 0, none⟩ a).setCell ⟨B, 1, none⟩ b).cell? ⟨B, 0, none⟩ = some a ∧ ((w.setCell ⟨B, 0, none⟩ a).setCell ⟨B, 1, none⟩ b).cell? ⟨B, 1, none⟩ = some b := by
  have e : (w.setCell ⟨B, 0, none⟩ a).cell? ⟨B, 1, none⟩ = some u1 := (World.cell?_setCell_other _ _ _ _ (by simp)).trans h1
  exact ⟨(World.cell?_setCell_other _ _ _ _ (by simp)).trans (World.cell?_setCell_same' _ _ _ (by rw [h0]; rfl)), World.cell?_setCell_same' _ _ _ (by rw [e]; rfl)⟩
theorem pair_bi (p : List UInt8 × Int) : ∃ (t : ByteArray) (c : Int), p = (t.data.toList, c) := ⟨⟨p.1.toArray⟩, p.2, rfl⟩
theorem et_two {a b : ByteArray} {c d : Int} (h : a.data.toList = b.data.toList) (h' : c = d) : Ending.returned (.tuple #[.string a, .int .i64 c]) = .returned (.tuple #[.string b, .int .i64 d]) := by
  rw [h', show a = b from by apply ByteArray.ext; apply Array.ext'; exact h]
end Go.Proofs.YtfeikdplfjikeaaDoor
