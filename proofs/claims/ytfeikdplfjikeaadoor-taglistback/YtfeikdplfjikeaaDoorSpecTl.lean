/-
  A slice of entity tags that can be read, as a plain list; no program is named here.
-/
import Derived.Test.YtfeikdplfjikeaaDoorSpecEl
import Derived.Test.YtfeikdplfjikeaaDoorSpecF
namespace Go.Proofs.YtfeikdplfjikeaaDoor
open Go.RowKit

def Tl (w : World) (v : Value) (ts : List Tg) : Prop :=
  ∃ ad cap, v = .slice ad ts.length cap ∧ ts.length ≤ cap ∧ cap ≤ maxLen ∧ (0 < ts.length → ∃ g off, ad = some ⟨g, off, none⟩ ∧ g < w.heap.size ∧
    ∀ (k : Nat) (h : k < ts.length), w.cell? ⟨g, off + k * 2, none⟩ = some (.bool (ts[k]).1) ∧ w.cell? ⟨g, off + k * 2 + 1, none⟩ = some (.string ⟨(ts[k]).2.toArray⟩))
theorem Tl.below {w w' : World} {v : Value} {ts : List Tg} (h : Tl w v ts) (hb : Below w.heap.size w w') : Tl w' v ts := by
  obtain ⟨ad, cap, hv, h1, h2, h3⟩ := h
  refine ⟨ad, cap, hv, h1, h2, fun h0 => ?_⟩
  obtain ⟨g, off, ha, hg, hc⟩ := h3 h0
  refine ⟨g, off, ha, Nat.lt_of_lt_of_le hg hb.size, fun k hk => ?_⟩
  obtain ⟨c1, c2⟩ := hc k hk
  exact ⟨(hb.cell (p := ⟨g, off + k * 2, none⟩) hg).trans c1, (hb.cell (p := ⟨g, off + k * 2 + 1, none⟩) hg).trans c2⟩
theorem Tl.nil (w : World) : Tl w (.slice none 0 0) [] := ⟨none, 0, rfl, Nat.le_refl _, by unfold maxLen; omega, fun h => absurd h (by simp)⟩
theorem Tl.own {w : World} {B : Nat} {e : TypeId} {v : Value} {ts : List Tg} (h : w.ownsRow B e 2 v ts.length (tgs ts)) : Tl w v ts := by
  obtain ⟨ad, cap, hv, hcm, hnc, hc⟩ := own_form2 h
  refine ⟨ad, cap, hv, hnc, hcm, fun h0 => ?_⟩
  obtain ⟨g, ha, _, hg, hce⟩ := hc h0
  refine ⟨g, 0, ha, hg, fun k hk => ?_⟩
  obtain ⟨p1, p2⟩ := tgs_get ts k hk
  rw [Nat.zero_add, hce _ (by omega), hce _ (by omega)]
  exact ⟨p1, p2⟩
end Go.Proofs.YtfeikdplfjikeaaDoor
