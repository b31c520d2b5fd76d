/-
  A region that draws its order, whose own operations only read and whose callees leave what lies below as it is: one walk, in a class of worlds; no program is named here.
-/
import Derived.Test.YtkmbhgbmdeoppabSpec
import Derived.BigQuiet
import Derived.Deep.QuietTactic
import Derived.Below
namespace Go.Proofs.Ytkmbhgbmdeoppab
open Go.RowKit

theorem region_in {P : Program} {T : Type} (G : T → World) {id : Nat} {Q : Exit → Act → World → Prop} {a : Act} {w : World} {l : List Oper} (hm : P.follows .mixedOrders = true) (hB : Region.lexB .any l.toArray = true)
    (h0 : ∃ x, w.drew = G x) (h : wpQuiet P l.toArray (fun W => ∃ x, W = G x) (fun a' => ∀ W, (∃ x, W = G x) → Q .normal a' W) l a) : (Code.region id l.toArray true).wp P Q a w :=
  wp_region_quiet (C := fun W => ∃ x, W = G x) hm hB h0 (by simpa using h)
/-- The worlds that have all that this one has. -/
theorem below_class (w : World) : ∃ (T : Type) (G : T → World) (x0 : T), w = G x0 ∧ Hid (∀ x, Below (G x0).heap.size (G x0) (G x)) ∧ Hid (∀ x W, Below (G x).heap.size (G x) W → ∃ y, W = G y) ∧ Hid (∀ x, ∃ y, (G x).drew = G y) := by
  refine ⟨{W : World // Below w.heap.size w W}, Subtype.val, ⟨w, Below.refl _ _⟩, rfl, fun x => x.2, fun x W h => ⟨⟨W, x.2.trans (h.mono x.2.size)⟩, rfl⟩, fun x => ⟨⟨x.1.drew, x.2.drew⟩, rfl⟩⟩
end Go.Proofs.Ytkmbhgbmdeoppab
