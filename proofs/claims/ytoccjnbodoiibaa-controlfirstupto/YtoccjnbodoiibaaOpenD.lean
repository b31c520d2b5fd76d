/-
  A list of directives that came in, opened as a plain list; no program is named here.
-/
import Derived.Test.YtoccjnbodoiibaaSpecDl
import Derived.Test.YtoccjnbodoiibaaOpenF
import Derived.Lib.SmallJoins
import Derived.Deep.Strs
namespace Go.Proofs.Ytoccjnbodoiibaa
open Go.RowKit Go.ChangeShapes Go.WideShapes Go.Deep

def dr1 {H : Type} (y : List UInt8 × Bool × List UInt8) : DataW H := .agg [.lit (.string y.1), .lit (.bool y.2.1), .lit (.string y.2.2)]
theorem open_dl {H : Type} {enc : TypeId × Value → H} {P : Program} {w : World} {base : Nat} {spare : Nat → Bool} {held : Bool} {t q : TypeId} {g0 g1 g2 : Field} {fuel : Nat} {v : Value} {x : DataW H × List MemPlace}
    (ht : P.underlying t = some (.slice q)) (hq : P.underlying q = some (.struct #[g0, g1, g2])) (hone : oneCellFields P #[g0, g1, g2] = true) (hC : P.cellsOf q = 3)
    (s0 : P.underlying g0.type = some .string) (s1 : P.underlying g1.type = some .bool) (s2 : P.underlying g2.type = some .string) (h : DataW.trod enc P w base spare held fuel t [v] = some x) :
    ∃ (ls : List (List UInt8 × Bool × List UInt8)) (sp : List (DataW H)), Dl w v ls ∧ MostD maxLen ls ∧ (x.1 = .nil ∧ ls = [] ∨ x.1 = .slice (ls.map dr1) sp) := by
  rcases open_slice ht h with ⟨hcs, hx⟩ | ⟨a, len, cap, m, n, D, Pl, hcs, _, hl, hm, hmm, hx, hi⟩
  · simp only [List.cons.injEq, and_true] at hcs
    subst hcs
    have hM : MostD maxLen [] := fun y hy => by cases hy
    exact ⟨[], [], Dl.nil w, hM, Or.inl ⟨by rw [hx], rfl⟩⟩
  · simp only [List.cons.injEq, and_true] at hcs
    subst hcs
    have hlm : len ≤ m := by rw [hmm]; split <;> omega
    obtain ⟨z0, k0⟩ := hone_of hone 0 g0 rfl
    obtain ⟨z1, k1⟩ := hone_of hone 1 g1 rfl
    obtain ⟨z2, k2⟩ := hone_of hone 2 g2 rfl
    have each : ∀ i, i < len → ∃ y : List UInt8 × Bool × List UInt8, (y.1.length ≤ maxLen ∧ y.2.2.length ≤ maxLen) ∧ D i = dr1 y ∧ ∀ j, j < 3 → w.cell? (a.add (i * 3 + j)) = [Value.string ⟨y.1.toArray⟩, Value.bool y.2.1, Value.string ⟨y.2.2.toArray⟩][j]? := by
      intro i hil
      obtain ⟨cs, hcs, htr⟩ := hi i (by omega)
      rw [hC] at hcs
      obtain ⟨_, hlen, hcell⟩ := World.cells?_some hcs
      obtain ⟨y0, y1, y2, n', hy, _, t0, t1, t2⟩ := trod_struct3 hq htr
      match cs, hlen with
      | [v0, v1, v2], _ =>
        simp [z0, z1, z2, k0, k1, k2] at t0 t1 t2
        obtain ⟨a0, ha0, hd0, b0⟩ := DataW.trod_string s0 t0
        obtain ⟨a1, ha1, hd1⟩ := DataW.trod_bool s1 t1
        obtain ⟨a2, ha2, hd2, b2⟩ := DataW.trod_string s2 t2
        simp only [List.cons.injEq, and_true] at ha0 ha1 ha2
        subst ha0; subst ha1; subst ha2
        refine ⟨(a0.data.toList, a1, a2.data.toList), ⟨by rw [size_list]; exact b0, by rw [size_list]; exact b2⟩, ?_, fun j hj => ?_⟩
        · have e := (Prod.mk.inj hy).1
          rw [e, hd0, hd1, hd2]; rfl
        · have e1 := hcell j hj
          rw [add_add] at e1
          rw [e1]
    obtain ⟨f, hf⟩ := choose_lt each
    refine ⟨(List.range len).map f, (List.range (m - len)).map fun j => D (len + j), ⟨some a, cap, by simp, by simpa using hl, hm, fun h0 => ?_⟩, ?_, .inr ?_⟩
    rotate_left
    · intro y hy
      obtain ⟨i, hir, rfl⟩ := List.mem_map.1 hy
      exact (hf i (List.mem_range.1 hir)).1
    · rw [hx]
      show DataW.slice _ _ = DataW.slice _ _
      congr 1
      rw [List.map_map]
      refine List.map_congr_left fun i hir => ?_
      exact (hf i (List.mem_range.1 hir)).2.1
    · simp only [List.length_map, List.length_range] at h0 ⊢
      obtain ⟨b, off, spot⟩ := a
      have hc0 := (hf 0 h0).2.2 0 (by decide)
      have hspot : spot = none := by
        have : [Value.string ⟨(f 0).1.toArray⟩, Value.bool (f 0).2.1, Value.string ⟨(f 0).2.2.toArray⟩][0]? = some (.string ⟨(f 0).1.toArray⟩) := rfl
        rw [this] at hc0
        simpa [Addr.add] using World.cell?_spot hc0
      subst hspot
      refine ⟨b, off, rfl, ?_, fun k hk => ?_⟩
      · have : [Value.string ⟨(f 0).1.toArray⟩, Value.bool (f 0).2.1, Value.string ⟨(f 0).2.2.toArray⟩][0]? = some (.string ⟨(f 0).1.toArray⟩) := rfl
        rw [this, add_form] at hc0
        exact cell_in hc0
      · have q0 := (hf k hk).2.2 0 (by decide)
        have q1 := (hf k hk).2.2 1 (by decide)
        have q2 := (hf k hk).2.2 2 (by decide)
        rw [add_form] at q0 q1 q2
        rw [List.getElem_map, List.getElem_range]
        exact ⟨q0, by rw [Nat.add_assoc]; exact q1, by rw [Nat.add_assoc]; exact q2⟩
end Go.Proofs.Ytoccjnbodoiibaa
