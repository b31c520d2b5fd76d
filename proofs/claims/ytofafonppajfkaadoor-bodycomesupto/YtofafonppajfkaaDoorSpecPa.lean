/-
  Plain functions on lists of bytes: how fields are parsed; no program is named here.
-/
import Derived.Test.YtofafonppajfkaaDoorSpecPr
import Derived.Test.YtofafonppajfkaaDoorSpecIx
namespace Go.Proofs.YtofafonppajfkaaDoor
open Go.RowKit

/-- What is read of a line that stands alone. -/
def rdF (l : List UInt8) : Fld × Int :=
  if Lib.index l [58] = -1 then (([], []), 3)
  else if chk1 (l.take (Lib.index l [58]).toNat, trimL (l.drop ((Lib.index l [58]).toNat + 1))) = 0 then ((l.take (Lib.index l [58]).toNat, trimL (l.drop ((Lib.index l [58]).toNat + 1))), 0)
  else (([], []), chk1 (l.take (Lib.index l [58]).toNat, trimL (l.drop ((Lib.index l [58]).toNat + 1))))
theorem rdF_no (l : List UInt8) (h : Lib.index l [58] = -1) : rdF l = (([], []), 3) := by unfold rdF; rw [if_pos h]
theorem rdF_ok (l : List UInt8) (k : Nat) (h : Lib.index l [58] = k) (hc : chk1 (l.take k, trimL (l.drop (k + 1))) = 0) : rdF l = ((l.take k, trimL (l.drop (k + 1))), 0) := by
  have e : (Lib.index l [58]).toNat = k := by rw [h]; simp
  unfold rdF; rw [if_neg (by omega), e, if_pos hc]
theorem rdF_bad (l : List UInt8) (k : Nat) (h : Lib.index l [58] = k) (hc : chk1 (l.take k, trimL (l.drop (k + 1))) ≠ 0) : rdF l = (([], []), chk1 (l.take k, trimL (l.drop (k + 1)))) := by
  have e : (Lib.index l [58]).toNat = k := by rw [h]; simp
  unfold rdF; rw [if_neg (by omega), e, if_neg hc]
theorem rdF_zero (l : List UInt8) (h : (rdF l).2 = 0) : chk1 (rdF l).1 = 0 := by
  rcases index_two' l [58] with hi | ⟨k, hi, _⟩
  · rw [rdF_no l hi] at h; cases h
  · by_cases hc : chk1 (l.take k, trimL (l.drop (k + 1))) = 0
    · rw [rdF_ok l k hi hc]; exact hc
    · rw [rdF_bad l k hi hc] at h; exact absurd h hc

/-- The result: the fields, what stands behind them, and the error. -/
abbrev Res := List Fld × List UInt8 × Int
def pstep (s : List UInt8) (acc : List Fld) : Sum Res (List UInt8 × List Fld) :=
  if Lib.index s [13, 10] = -1 then .inl ([], [], if 1101 < s.length then 2 else 8)
  else if (Lib.index s [13, 10]).toNat = 0 then .inl (acc, s.drop ((Lib.index s [13, 10]).toNat + 2), 0)
  else if 1100 < (Lib.index s [13, 10]).toNat ∨ 30 ≤ acc.length then .inl ([], [], 2)
  else if (rdF (s.take (Lib.index s [13, 10]).toNat)).2 = 0 then .inr (s.drop ((Lib.index s [13, 10]).toNat + 2), acc ++ [(rdF (s.take (Lib.index s [13, 10]).toNat)).1])
  else .inl ([], [], (rdF (s.take (Lib.index s [13, 10]).toNat)).2)
def fpar : Nat → List UInt8 → List Fld → Res
  | 0, _, _ => ([], [], 8)
  | n + 1, s, acc => match pstep s acc with
    | .inl r => r
    | .inr (rest, acc') => fpar n rest acc'
def parS (s : List UInt8) (acc : List Fld) : Res := fpar (s.length + 1) s acc

theorem pstep_short (s : List UInt8) (acc : List Fld) (rest : List UInt8) (acc' : List Fld) (h : pstep s acc = .inr (rest, acc')) : rest.length < s.length := by
  unfold pstep at h
  split at h
  · cases h
  · rename_i h0
    rcases index_two' s [13, 10] with hi | ⟨k, hi, hk⟩
    · exact absurd hi h0
    · have e : (Lib.index s [13, 10]).toNat = k := by rw [hi]; simp
      rw [e] at h
      split at h
      · cases h
      · split at h
        · cases h
        · split at h
          · simp only [Sum.inr.injEq, Prod.mk.injEq] at h
            rw [← h.1, List.length_drop]
            simp at hk
            omega
          · cases h
theorem fpar_fuel : ∀ (n m : Nat) (s : List UInt8) (acc : List Fld), s.length < n → s.length < m → fpar n s acc = fpar m s acc := by
  intro n
  induction n with
  | zero => intro m s acc h; omega
  | succ n ih =>
    intro m s acc hn hm
    cases m with
    | zero => omega
    | succ m =>
      unfold fpar
      cases hp : pstep s acc with
      | inl r => rfl
      | inr x =>
        obtain ⟨rest, acc'⟩ := x
        have := pstep_short s acc rest acc' hp
        exact ih m rest acc' (by omega) (by omega)
theorem parS_stop (s : List UInt8) (acc : List Fld) (r : Res) (h : pstep s acc = .inl r) : parS s acc = r := by
  unfold parS fpar; rw [h]
theorem parS_go (s : List UInt8) (acc : List Fld) (rest : List UInt8) (acc' : List Fld) (h : pstep s acc = .inr (rest, acc')) : parS s acc = parS rest acc' := by
  have := pstep_short s acc rest acc' h
  unfold parS
  rw [show fpar (s.length + 1) s acc = fpar s.length rest acc' from by rw [fpar, h]]
  exact fpar_fuel _ _ _ _ (by omega) (by omega)

theorem par_none (s : List UInt8) (acc : List Fld) (h : Lib.index s [13, 10] = -1) : parS s acc = ([], [], if 1101 < s.length then 2 else 8) := by
  apply parS_stop; unfold pstep; rw [if_pos h]
theorem par_end (s : List UInt8) (acc : List Fld) (h : Lib.index s [13, 10] = 0) : parS s acc = (acc, s.drop 2, 0) := by
  apply parS_stop; unfold pstep; rw [if_neg (by omega), h]; rfl
theorem par_large (s : List UInt8) (acc : List Fld) (k : Nat) (h : Lib.index s [13, 10] = k) (h0 : k ≠ 0) (hl : 1100 < k ∨ 30 ≤ acc.length) : parS s acc = ([], [], 2) := by
  have e : (Lib.index s [13, 10]).toNat = k := by rw [h]; simp
  apply parS_stop; unfold pstep; rw [if_neg (by omega), e, if_neg h0, if_pos hl]
theorem par_bad (s : List UInt8) (acc : List Fld) (k : Nat) (h : Lib.index s [13, 10] = k) (h0 : k ≠ 0) (hl : ¬ (1100 < k ∨ 30 ≤ acc.length)) (hr : (rdF (s.take k)).2 ≠ 0) : parS s acc = ([], [], (rdF (s.take k)).2) := by
  have e : (Lib.index s [13, 10]).toNat = k := by rw [h]; simp
  apply parS_stop; unfold pstep; rw [if_neg (by omega), e, if_neg h0, if_neg hl, if_neg hr]
theorem par_ok (s : List UInt8) (acc : List Fld) (k : Nat) (h : Lib.index s [13, 10] = k) (h0 : k ≠ 0) (hl : ¬ (1100 < k ∨ 30 ≤ acc.length)) (hr : (rdF (s.take k)).2 = 0) : parS s acc = parS (s.drop (k + 2)) (acc ++ [(rdF (s.take k)).1]) := by
  have e : (Lib.index s [13, 10]).toNat = k := by rw [h]; simp
  apply parS_go; unfold pstep; rw [if_neg (by omega), e, if_neg h0, if_neg hl, if_pos hr]
end Go.Proofs.YtofafonppajfkaaDoor
