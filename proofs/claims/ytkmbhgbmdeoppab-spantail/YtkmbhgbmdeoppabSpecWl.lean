/-
  A slice of pairs of numbers (wants, or slices of a body), as a plain list; no program is named here.
-/
import Derived.Test.YtkmbhgbmdeoppabSpecWn
import Derived.Test.YtkmbhgbmdeoppabSpecF
namespace Go.Proofs.Ytkmbhgbmdeoppab
open Go.RowKit

def Wl (w : World) (v : Value) (ts : List Wn) : Prop :=
  ∃ ad cap, v = .slice ad ts.length cap ∧ ts.length ≤ cap ∧ cap ≤ maxLen ∧ (0 < ts.length → ∃ g off, ad = some ⟨g, off, none⟩ ∧ g < w.heap.size ∧
    ∀ (k : Nat) (h : k < ts.length), w.cell? ⟨g, off + k * 2, none⟩ = some (.int .i64 (ts[k]).1) ∧ w.cell? ⟨g, off + k * 2 + 1, none⟩ = some (.int .i64 (ts[k]).2))
theorem Wl.below {w w' : World} {v : Value} {ts : List Wn} (h : Wl w v ts) (hb : Below w.heap.size w w') : Wl w' v ts := by
  obtain ⟨ad, cap, hv, h1, h2, h3⟩ := h
  refine ⟨ad, cap, hv, h1, h2, fun h0 => ?_⟩
  obtain ⟨g, off, ha, hg, hc⟩ := h3 h0
  refine ⟨g, off, ha, Nat.lt_of_lt_of_le hg hb.size, fun k hk => ?_⟩
  obtain ⟨c1, c2⟩ := hc k hk
  exact ⟨(hb.cell (p := ⟨g, off + k * 2, none⟩) hg).trans c1, (hb.cell (p := ⟨g, off + k * 2 + 1, none⟩) hg).trans c2⟩
theorem Wl.nil (w : World) : Wl w (.slice none 0 0) [] := ⟨none, 0, rfl, Nat.le_refl _, by unfold maxLen; omega, fun h => absurd h (by simp)⟩
theorem Wl.own {w : World} {B : Nat} {e : TypeId} {v : Value} {ts : List Wn} (h : w.ownsRow B e 2 v ts.length (wns ts)) : Wl w v ts := by
  obtain ⟨ad, cap, hv, hcm, hnc, hc⟩ := own_form2 h
  refine ⟨ad, cap, hv, hnc, hcm, fun h0 => ?_⟩
  obtain ⟨g, ha, _, hg, hce⟩ := hc h0
  refine ⟨g, 0, ha, hg, fun k hk => ?_⟩
  obtain ⟨p1, p2⟩ := wns_get ts k hk
  rw [Nat.zero_add, hce _ (by omega), hce _ (by omega)]
  exact ⟨p1, p2⟩
theorem Wl.one (a b : Int) (w : World) (t : TypeId) : Wl (w.alloc (.cells #[.int .i64 a, .int .i64 b] t)) (.slice (some ⟨w.heap.size, 0, none⟩) 1 1) [(a, b)] := by
  refine ⟨_, 1, rfl, by simp, by unfold maxLen; omega, fun _ => ⟨w.heap.size, 0, rfl, by simp, fun k hk => ?_⟩⟩
  have hk0 : k = 0 := by simp at hk; omega
  subst hk0
  exact ⟨by simp, by simp⟩
/-- All numbers fit. -/
def WfW (ts : List Wn) : Prop := ∀ x ∈ ts, (Lit.int .i64 x.1).wf = true ∧ (Lit.int .i64 x.2).wf = true
theorem wf_int {n : Int} (h : (Lit.int .i64 n).wf = true) : -9223372036854775808 ≤ n ∧ n ≤ 9223372036854775807 := by
  simpa [Lit.wf, IntKind.min, IntKind.max, IntKind.signed, IntKind.bits] using h
end Go.Proofs.Ytkmbhgbmdeoppab
