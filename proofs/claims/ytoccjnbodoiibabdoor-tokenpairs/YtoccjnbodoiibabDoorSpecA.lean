/-
  What is known of a list of strings that came in, and the tokens of such a list; no program is named here.
-/
import Derived.Test.YtoccjnbodoiibabDoorSpecS
namespace Go.Proofs.YtoccjnbodoiibabDoor
open Go.RowKit

/-- A list of strings that came in: it is nil; or it leads to a row of strings (the first n are its elements, the rest its spare room). -/
def IsStrs (w : World) (a : Option Addr) (n c : Nat) (ss : List ByteArray) : Prop :=
  (a = none ∧ n = 0 ∧ c = 0 ∧ ss = []) ∨
  ∃ x, a = some x ∧ n ≤ c ∧ c ≤ maxLen ∧ ss.length = c ∧ (∀ i, i < ss.length → w.cell? (x.add i) = some (.string (ss.getD i ByteArray.empty))) ∧ ∀ s ∈ ss, s.size ≤ maxLen

theorem IsStrs.le {w : World} {a : Option Addr} {n c : Nat} {ss : List ByteArray} (h : IsStrs w a n c ss) : n ≤ c ∧ c ≤ maxLen ∧ ss.length = c := by
  rcases h with ⟨_, rfl, rfl, rfl⟩ | ⟨x, _, h1, h2, h3, _⟩
  · exact ⟨Nat.le_refl _, by unfold maxLen; omega, rfl⟩
  · exact ⟨h1, h2, h3⟩
theorem IsStrs.cell {w : World} {a : Option Addr} {n c : Nat} {ss : List ByteArray} (h : IsStrs w a n c ss) (k : Nat) (hk : k < n) : ∃ b off, a = some ⟨b, off, none⟩ ∧ b < w.heap.size ∧ w.cell? ⟨b, off + k, none⟩ = some (.string (ss.getD k ByteArray.empty)) ∧ (ss.getD k ByteArray.empty).size ≤ maxLen := by
  rcases h with ⟨_, rfl, _⟩ | ⟨x, rfl, h1, h2, h3, h4, h5⟩
  · omega
  · obtain ⟨b, off, spot⟩ := x
    have hc := h4 k (by omega)
    have hspot : spot = none := by simpa [Addr.add] using World.cell?_spot (h4 0 (by omega))
    subst hspot
    have hc' : w.cell? ⟨b, off + k, none⟩ = some (.string (ss.getD k ByteArray.empty)) := by
      rw [← hc]
      by_cases h0 : k = 0
      · subst h0; simp [Addr.add]
      · simp [Addr.add, h0]
    refine ⟨b, off, rfl, ?_, hc', ?_⟩
    · rcases Nat.lt_or_ge b w.heap.size with h6 | h6
      · exact h6
      · exfalso
        unfold World.cell? at hc'
        rw [Array.getElem?_eq_none h6] at hc'
        simp at hc'
    · have hkl : k < ss.length := by omega
      rw [List.getD_eq_getElem?_getD, List.getElem?_eq_getElem hkl]
      exact h5 _ (List.getElem_mem hkl)
/-- Its elements. -/
def elems (n : Nat) (ss : List ByteArray) : List (List UInt8) := (ss.take n).map (·.data.toList)
theorem elems_len (n : Nat) (ss : List ByteArray) (h : n ≤ ss.length) : (elems n ss).length = n := by simp [elems]; omega
theorem elems_at (n : Nat) (ss : List ByteArray) (k : Nat) (hk : k < n) (h : n ≤ ss.length) : (elems n ss)[k]? = some (ss.getD k ByteArray.empty).data.toList := by
  unfold elems
  rw [List.getElem?_map, List.getElem?_take, if_pos hk, List.getElem?_eq_getElem (by omega), List.getD_eq_getElem?_getD, List.getElem?_eq_getElem (by omega)]; rfl

def good (p : List UInt8) : Bool := token p && decide (p.length ≤ 30)
def toks (L : List (List UInt8)) (m : Nat) : List (List UInt8) := (L.filter good).take m
theorem toks_len (L : List (List UInt8)) (m : Nat) : (toks L m).length ≤ m := List.length_take_le _ _
theorem toks_good (L : List (List UInt8)) (m : Nat) : ∀ p ∈ toks L m, good p = true := by
  intro p hp
  exact (List.mem_filter.1 (List.mem_of_mem_take hp)).2
theorem toks_yes (L : List (List UInt8)) (m : Nat) (p : List UInt8) (hg : good p = true) (hl : (toks L m).length < m) : toks (L ++ [p]) m = toks L m ++ [p] := by
  unfold toks at *
  rw [List.length_take] at hl
  have h1 : (L.filter good).length < m := by omega
  rw [List.filter_append, List.filter_cons, if_pos hg, List.filter_nil, List.take_of_length_le (by simp; omega), List.take_of_length_le (by omega)]
theorem toks_bad (L : List (List UInt8)) (m : Nat) (p : List UInt8) (hg : good p = false) : toks (L ++ [p]) m = toks L m := by
  unfold toks
  rw [List.filter_append, List.filter_cons, hg]; simp
theorem toks_full (L : List (List UInt8)) (m : Nat) (p : List UInt8) (hl : ¬ (toks L m).length < m) : toks (L ++ [p]) m = toks L m := by
  unfold toks at *
  rw [List.length_take] at hl
  rw [List.filter_append, List.take_append_of_le_length (by omega)]
theorem take_more (L : List (List UInt8)) (k : Nat) (p : List UInt8) (h : L[k]? = some p) : L.take (k + 1) = L.take k ++ [p] := by
  have hk : k < L.length := by
    rcases Nat.lt_or_ge k L.length with h1 | h1
    · exact h1
    · rw [List.getElem?_eq_none h1] at h; cases h
  rw [List.take_succ_eq_append_getElem hk]
  rw [List.getElem?_eq_getElem hk] at h
  rw [Option.some.inj h]
end Go.Proofs.YtoccjnbodoiibabDoor
