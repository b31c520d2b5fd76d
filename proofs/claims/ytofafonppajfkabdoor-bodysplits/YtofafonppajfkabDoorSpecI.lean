/-
  What is known of a list of numbers that came in; no program is named here.
-/
import Derived.Test.YtofafonppajfkabDoorSpecS
namespace Go.Proofs.YtofafonppajfkabDoor
open Go.RowKit

/-- A list of numbers that came in: it is nil; or it leads to a row of numbers (the first n are its elements, the rest its spare room). -/
def IsInts (w : World) (a : Option Addr) (n c : Nat) (zs : List Int) : Prop :=
  (a = none ∧ n = 0 ∧ c = 0 ∧ zs = []) ∨
  ∃ x, a = some x ∧ n ≤ c ∧ c ≤ maxLen ∧ zs.length = c ∧ (∀ i, i < zs.length → w.cell? (x.add i) = some (.int .i64 (zs.getD i 0))) ∧ ∀ z ∈ zs, (Lit.int .i64 z).wf = true
theorem IsInts.le {w : World} {a : Option Addr} {n c : Nat} {zs : List Int} (h : IsInts w a n c zs) : n ≤ c ∧ c ≤ maxLen := by
  rcases h with ⟨_, rfl, rfl, rfl⟩ | ⟨x, _, h1, h2, _⟩
  · exact ⟨Nat.le_refl _, by unfold maxLen; omega⟩
  · exact ⟨h1, h2⟩
theorem IsInts.cell {w : World} {a : Option Addr} {n c : Nat} {zs : List Int} (h : IsInts w a n c zs) (k : Nat) (hk : k < n) : ∃ b off z, a = some ⟨b, off, none⟩ ∧ b < w.heap.size ∧ w.cell? ⟨b, off + k, none⟩ = some (.int .i64 z) ∧ (Lit.int .i64 z).wf = true := by
  rcases h with ⟨_, rfl, _⟩ | ⟨x, rfl, h1, h2, h3, h4, h5⟩
  · omega
  · obtain ⟨b, off, spot⟩ := x
    have hc := h4 k (by omega)
    have hspot : spot = none := by simpa [Addr.add] using World.cell?_spot (h4 0 (by omega))
    subst hspot
    have hc' : w.cell? ⟨b, off + k, none⟩ = some (.int .i64 (zs.getD k 0)) := by
      rw [← hc]
      by_cases h0 : k = 0
      · subst h0; simp [Addr.add]
      · simp [Addr.add, h0]
    refine ⟨b, off, _, rfl, ?_, hc', ?_⟩
    · rcases Nat.lt_or_ge b w.heap.size with h6 | h6
      · exact h6
      · exfalso
        unfold World.cell? at hc'
        rw [Array.getElem?_eq_none h6] at hc'
        simp at hc'
    · have hkl : k < zs.length := by omega
      rw [List.getD_eq_getElem?_getD, List.getElem?_eq_getElem hkl]
      exact h5 _ (List.getElem_mem hkl)
end Go.Proofs.YtofafonppajfkabDoor
