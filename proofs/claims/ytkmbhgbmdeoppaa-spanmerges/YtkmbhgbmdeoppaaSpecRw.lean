/-
  Two rows of the call's own side by side: one grows, the other stays; no program is named here.
-/
import Derived.Test.YtkmbhgbmdeoppaaSpecF
import Derived.Deep.AppendLies
namespace Go.Proofs.Ytkmbhgbmdeoppaa
open Go.RowKit

/-- Two rows whose blocks are not the same. -/
def Sep (u v : Value) : Prop := ∀ g, u.ownBlock = some g → v.ownBlock ≠ some g
theorem Sep.turn {u v : Value} (h : Sep u v) : Sep v u := fun g hv hu => h g hu hv
theorem Sep.nil (v : Value) : Sep (.slice none 0 0) v := fun g h => by cases h
theorem Sep.new {u v : Value} {g n c : Nat} {H : Nat} (h : Sep u v) (hat : u.ownBlock = some g ∨ g = H) (hv : ∀ k, v.ownBlock = some k → k < H) : Sep (.slice (some ⟨g, 0, none⟩) n c) v := by
  intro k hk e
  have hk' : g = k := Option.some.inj hk
  subst hk'
  rcases hat with h1 | h1
  · exact h g h1 e
  · have := hv g e; omega
theorem own_kept {w w' : World} {B size n : Nat} {e : TypeId} {u v : Value} {xs : List Value} (h : w.ownsRow B e size v n xs) (hg : w.grownBy w' u.ownBlock) (hs : Sep u v) : w'.ownsRow B e size v n xs := by
  refine h.kept hg ?_
  cases hv : v.ownBlock with
  | none => exact .inl rfl
  | some g =>
    right
    intro hu
    exact hs g hu.symm hv
theorem cell_kept_by {w w' : World} {u : Value} {g i : Nat} {x : Value} (hg : w.grownBy w' u.ownBlock) (h : w.cell? ⟨g, i, none⟩ = some x) (hu : ∀ k, u.ownBlock = some k → k < g) : w'.cell? ⟨g, i, none⟩ = some x := by
  refine (hg.cell_far ⟨g, i, none⟩ (cell_in h) ?_).trans h
  intro e
  have := hu g e.symm
  omega
theorem one_news {w : World} {g : Nat} {x : Value} (h : w.cell? ⟨g, 0, none⟩ = some x) : ∀ j u, [x][j]? = some u → w.cell? ((⟨g, 0, none⟩ : Addr).add j) = some u := by
  intro j u hj
  match j, hj with
  | 0, hj => simp at hj; subst hj; simpa [Addr.add] using h
theorem two_news {w : World} {g : Nat} {x y : Value} (h : w.cell? ⟨g, 0, none⟩ = some x) (h' : w.cell? ⟨g, 1, none⟩ = some y) : ∀ j u, [x, y][j]? = some u → w.cell? ((⟨g, 0, none⟩ : Addr).add j) = some u := by
  intro j u hj
  match j, hj with
  | 0, hj => simp at hj; subst hj; simpa [Addr.add] using h
  | 1, hj => simp at hj; subst hj; simpa [Addr.add] using h'
end Go.Proofs.Ytkmbhgbmdeoppaa
