/-
  Pairs of numbers that came in, opened as plain data; no program is named here.
-/
import Derived.Test.YtkmbhgbmdeoppabSpecWl
import Derived.Test.YtkmbhgbmdeoppabOpenF
import Derived.Deep.SlicePairs
namespace Go.Proofs.Ytkmbhgbmdeoppab
open Go.RowKit Go.ChangeShapes Go.WideShapes Go.Deep

def intOfW : Value → Int
  | .int _ n => n
  | _ => 0
def wn1 {H : Type} (y : Wn) : DataW H := .agg [.lit (.int .i64 y.1), .lit (.int .i64 y.2)]

theorem open_wl {H : Type} {enc : TypeId × Value → H} {P : Program} {w : World} {base : Nat} {spare : Nat → Bool} {held : Bool} {t e : TypeId} {f0 f1 : Field} {fuel : Nat} {v : Value} {x : DataW H × List MemPlace}
    (ht : P.underlying t = some (.slice e)) (he : P.underlying e = some (.struct #[f0, f1])) (ce : P.cellsOf e = 2) (o0 : f0.offset = 0) (o1 : f1.offset = 1) (c0 : P.cellsOf f0.type = 1) (c1 : P.cellsOf f1.type = 1)
    (s0 : P.underlying f0.type = some (.int .i64)) (s1 : P.underlying f1.type = some (.int .i64)) (h : DataW.trod enc P w base spare held fuel t [v] = some x) :
    ∃ (ts : List Wn) (sp : List (DataW H)), Wl w v ts ∧ WfW ts ∧ (x.1 = .nil ∧ ts = [] ∨ x.1 = .slice (ts.map wn1) sp) := by
  rcases open_slice_pairs ht he ce o0 o1 c0 c1 h with ⟨hcs, hx⟩ | ⟨a, len, cap, m, n, V0, V1, D0, D1, P0, P1, hcs, _, hl, hm, hmm, hx, hi⟩
  · simp only [List.cons.injEq, and_true] at hcs
    subst hcs
    have hM : WfW [] := fun y hy => by cases hy
    exact ⟨[], [], Wl.nil w, hM, Or.inl ⟨by rw [hx], rfl⟩⟩
  · simp only [List.cons.injEq, and_true] at hcs
    subst hcs
    have hlm : len ≤ m := by rw [hmm]; split <;> omega
    have each : ∀ i, i < len → V0 i = .int .i64 (intOfW (V0 i)) ∧ V1 i = .int .i64 (intOfW (V1 i)) ∧ D0 i = .lit (.int .i64 (intOfW (V0 i))) ∧ D1 i = .lit (.int .i64 (intOfW (V1 i))) ∧ (Lit.int .i64 (intOfW (V0 i))).wf = true ∧ (Lit.int .i64 (intOfW (V1 i))).wf = true := by
      intro i hil
      obtain ⟨_, _, t0, t1⟩ := hi i (by omega)
      obtain ⟨a0, ha0, hd0, hz0⟩ := DataW.trod_int s0 t0
      obtain ⟨a1, ha1, hd1, hz1⟩ := DataW.trod_int s1 t1
      simp only [List.cons.injEq, and_true] at ha0 ha1
      simp only [Prod.mk.injEq] at hd0 hd1
      rw [ha0, ha1, hd0.1, hd1.1]
      exact ⟨rfl, rfl, rfl, rfl, hz0, hz1⟩
    refine ⟨(List.range len).map fun i => (intOfW (V0 i), intOfW (V1 i)), (List.range (m - len)).map fun j => .agg [D0 (len + j), D1 (len + j)], ⟨some a, cap, by simp, by simpa using hl, hm, fun h0 => ?_⟩, ?_, .inr ?_⟩
    rotate_left
    · intro y hy
      obtain ⟨i, hir, rfl⟩ := List.mem_map.1 hy
      obtain ⟨_, _, _, _, h5, h6⟩ := each i (List.mem_range.1 hir)
      exact ⟨h5, h6⟩
    · rw [hx]
      show DataW.slice _ _ = DataW.slice _ _
      congr 1
      rw [List.map_map]
      refine List.map_congr_left fun i hir => ?_
      obtain ⟨_, _, h3, h4, _⟩ := each i (List.mem_range.1 hir)
      show DataW.agg [D0 i, D1 i] = DataW.agg _
      rw [h3, h4]
    · simp only [List.length_map, List.length_range] at h0 ⊢
      obtain ⟨b, off, spot⟩ := a
      have hc0 := (hi 0 (by omega)).1
      have hspot : spot = none := by simpa [Addr.add] using World.cell?_spot hc0
      subst hspot
      refine ⟨b, off, rfl, ?_, fun k hk => ?_⟩
      · rw [add_form] at hc0
        exact cell_in hc0
      · obtain ⟨q0, q1, _⟩ := hi k (by omega)
        obtain ⟨h1, h2, _⟩ := each k hk
        rw [add_form] at q0 q1
        rw [List.getElem_map, List.getElem_range]
        refine ⟨?_, ?_⟩
        · rw [q0, h1]; rfl
        · rw [Nat.add_assoc, q1, h2]; rfl
end Go.Proofs.Ytkmbhgbmdeoppab
