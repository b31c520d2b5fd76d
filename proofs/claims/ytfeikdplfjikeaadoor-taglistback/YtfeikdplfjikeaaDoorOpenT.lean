/-
  Entity tags that came in: one, and a list of them, opened as plain data; no program is named here.
-/
import Derived.Test.YtfeikdplfjikeaaDoorSpecTl
import Derived.Test.YtfeikdplfjikeaaDoorOpenF
import Derived.Deep.SlicePairs
namespace Go.Proofs.YtfeikdplfjikeaaDoor
open Go.RowKit Go.ChangeShapes Go.WideShapes Go.Deep

def boolOfV : Value → Bool
  | .bool b => b
  | _ => false
def tg1 {H : Type} (y : Tg) : DataW H := .agg [.lit (.bool y.1), .lit (.string y.2)]
/-- No tag's text is longer than so many bytes. -/
def MostT (m : Nat) (ts : List Tg) : Prop := ∀ x ∈ ts, x.2.length ≤ m

theorem open_tl {H : Type} {enc : TypeId × Value → H} {P : Program} {w : World} {base : Nat} {spare : Nat → Bool} {held : Bool} {t e : TypeId} {f0 f1 : Field} {fuel : Nat} {v : Value} {x : DataW H × List MemPlace}
    (ht : P.underlying t = some (.slice e)) (he : P.underlying e = some (.struct #[f0, f1])) (ce : P.cellsOf e = 2) (o0 : f0.offset = 0) (o1 : f1.offset = 1) (c0 : P.cellsOf f0.type = 1) (c1 : P.cellsOf f1.type = 1)
    (s0 : P.underlying f0.type = some .bool) (s1 : P.underlying f1.type = some .string) (h : DataW.trod enc P w base spare held fuel t [v] = some x) :
    ∃ (ts : List Tg) (sp : List (DataW H)), Tl w v ts ∧ MostT maxLen ts ∧ (x.1 = .nil ∧ ts = [] ∨ x.1 = .slice (ts.map tg1) sp) := by
  rcases open_slice_pairs ht he ce o0 o1 c0 c1 h with ⟨hcs, hx⟩ | ⟨a, len, cap, m, n, V0, V1, D0, D1, P0, P1, hcs, _, hl, hm, hmm, hx, hi⟩
  · simp only [List.cons.injEq, and_true] at hcs
    subst hcs
    have hM : MostT maxLen [] := fun y hy => by cases hy
    exact ⟨[], [], Tl.nil w, hM, Or.inl ⟨by rw [hx], rfl⟩⟩
  · simp only [List.cons.injEq, and_true] at hcs
    subst hcs
    have hlm : len ≤ m := by rw [hmm]; split <;> omega
    have each : ∀ i, i < len → V0 i = .bool (boolOfV (V0 i)) ∧ V1 i = .string ⟨(bytesOfV (V1 i)).toArray⟩ ∧ D0 i = .lit (.bool (boolOfV (V0 i))) ∧ D1 i = .lit (.string (bytesOfV (V1 i))) ∧ (bytesOfV (V1 i)).length ≤ maxLen := by
      intro i hil
      obtain ⟨_, _, t0, t1⟩ := hi i (by omega)
      obtain ⟨a0, ha0, hd0⟩ := DataW.trod_bool s0 t0
      obtain ⟨a1, ha1, hd1, hz1⟩ := DataW.trod_string s1 t1
      simp only [List.cons.injEq, and_true] at ha0 ha1
      simp only [Prod.mk.injEq] at hd0 hd1
      rw [ha0, ha1, hd0.1, hd1.1]
      refine ⟨rfl, rfl, rfl, rfl, ?_⟩
      show a1.data.toList.length ≤ maxLen; rw [size_list]; exact hz1
    refine ⟨(List.range len).map fun i => (boolOfV (V0 i), bytesOfV (V1 i)), (List.range (m - len)).map fun j => .agg [D0 (len + j), D1 (len + j)], ⟨some a, cap, by simp, by simpa using hl, hm, fun h0 => ?_⟩, ?_, .inr ?_⟩
    rotate_left
    · intro y hy
      obtain ⟨i, hir, rfl⟩ := List.mem_map.1 hy
      exact (each i (List.mem_range.1 hir)).2.2.2.2
    · rw [hx]
      show DataW.slice _ _ = DataW.slice _ _
      congr 1
      rw [List.map_map]
      refine List.map_congr_left fun i hir => ?_
      obtain ⟨_, _, h3, h4, _⟩ := each i (List.mem_range.1 hir)
      show DataW.agg [D0 i, D1 i] = DataW.agg _
      rw [h3, h4]
    · simp only [List.length_map, List.length_range] at h0 ⊢
      obtain ⟨b, off, spot⟩ := a
      have hc0 := (hi 0 (by omega)).1
      have hspot : spot = none := by simpa [Addr.add] using World.cell?_spot hc0
      subst hspot
      refine ⟨b, off, rfl, ?_, fun k hk => ?_⟩
      · rw [add_form] at hc0
        exact cell_in hc0
      · obtain ⟨q0, q1, _⟩ := hi k (by omega)
        obtain ⟨h1, h2, _⟩ := each k hk
        rw [add_form] at q0 q1
        rw [List.getElem_map, List.getElem_range]
        refine ⟨?_, ?_⟩
        · rw [q0, h1]; rfl
        · rw [Nat.add_assoc, q1, h2]; rfl
end Go.Proofs.YtfeikdplfjikeaaDoor
