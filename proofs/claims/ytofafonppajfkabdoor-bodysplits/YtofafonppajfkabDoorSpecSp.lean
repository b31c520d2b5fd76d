/-
  Runs of a body's bytes that come in pieces, in plain lists; no program is named here.
-/
import Derived.Test.YtofafonppajfkabDoorSpecRn
namespace Go.Proofs.YtofafonppajfkabDoor
open Go.RowKit

theorem cut_at (s : List UInt8) (k j : Nat) : s.drop k = (s.drop k).take j ++ s.drop (k + j) := by
  rw [← List.drop_drop, List.take_append_drop]
theorem split_bad {s : List UInt8} {y : Ds} {k : Nat} (j : Nat) (h : runD start s 0 = runD y (s.drop k) k) (hy : Inv y) (h1 : (runD y ((s.drop k).take j) 0).1 ≠ 0) :
    ans (runD start s 0) = ([], 0, (runD y ((s.drop k).take j) 0).1) ∧ (runD y ((s.drop k).take j) 0).2.1 = 0 := by
  obtain ⟨e1, _, _⟩ := run_shift ((s.drop k).take j) y 0 k
  rw [Nat.zero_add] at e1
  refine ⟨?_, run_bad _ _ _ h1⟩
  have e0 : runD y (s.drop k) k = runD y ((s.drop k).take j) k := by
    conv => lhs; rw [cut_at s k j]
    exact run_stop _ _ y k hy.1 (.inl (by rw [e1]; exact h1))
  rw [h, e0, ans_bad (by rw [e1]; exact h1), e1]
theorem split_done {s : List UInt8} {y : Ds} {k : Nat} (j : Nat) (h : runD start s 0 = runD y (s.drop k) k) (hy : Inv y) (h1 : (runD y ((s.drop k).take j) 0).1 = 0) (hd : (runD y ((s.drop k).take j) 0).2.2.done = true) :
    ans (runD start s 0) = ((runD y ((s.drop k).take j) 0).2.2.body, (runD y ((s.drop k).take j) 0).2.1 + k, 0) := by
  obtain ⟨e1, e2, e3⟩ := run_shift ((s.drop k).take j) y 0 k
  rw [Nat.zero_add] at e1 e2 e3
  have e0 : runD y (s.drop k) k = runD y ((s.drop k).take j) k := by
    conv => lhs; rw [cut_at s k j]
    exact run_stop _ _ y k hy.1 (.inr (by rw [e2]; exact hd))
  rw [h, e0, ans_ok (by rw [e1]; exact h1) (by rw [e2]; exact hd), e2, e3 h1]
theorem split_go {s : List UInt8} {y : Ds} {k j : Nat} (h : runD start s 0 = runD y (s.drop k) k) (hy : Inv y) (hj : k + j ≤ s.length) (h1 : (runD y ((s.drop k).take j) 0).1 = 0) (hd : (runD y ((s.drop k).take j) 0).2.2.done = false) :
    (runD y ((s.drop k).take j) 0).2.1 = j ∧ runD start s 0 = runD (runD y ((s.drop k).take j) 0).2.2 (s.drop (k + j)) (k + j) ∧ Inv (runD y ((s.drop k).take j) 0).2.2 := by
  obtain ⟨e1, e2, e3⟩ := run_shift ((s.drop k).take j) y 0 k
  rw [Nat.zero_add] at e1 e2 e3
  have hl := run_len _ _ _ h1 hd
  have hlen : ((s.drop k).take j).length = j := by rw [List.length_take, List.length_drop]; omega
  rw [hlen, Nat.zero_add] at hl
  refine ⟨hl, ?_, run_inv _ _ _ hy h1 hd⟩
  rw [h]
  conv => lhs; rw [cut_at s k j]
  rw [rn_app _ _ y k (by rw [e1]; exact h1) (by rw [e2]; exact hd), e2, e3 h1, hl, Nat.add_comm j k]
end Go.Proofs.YtofafonppajfkabDoor
