/-
  How many bytes a list of texts has; no program is named here.
-/
import Derived.Test.YtofafonppajfkaaDoorSpecA
namespace Go.Proofs.YtofafonppajfkaaDoor
open Go.RowKit

def bulkS (ss : List ByteArray) : Nat := (ss.map fun s => s.size + 1).sum
theorem bulkS_len (ss : List ByteArray) : ss.length ≤ bulkS ss := by
  induction ss with
  | nil => simp
  | cons a ss ih => simp only [bulkS, List.map_cons, List.sum_cons, List.length_cons] at ih ⊢; omega
theorem bulkS_snoc (ss : List ByteArray) (s : ByteArray) : bulkS (ss ++ [s]) = bulkS ss + s.size + 1 := by simp [bulkS]; omega
theorem bulkS_take (ss : List ByteArray) (k : Nat) : bulkS (ss.take k) ≤ bulkS ss := by
  have h : bulkS ss = bulkS (ss.take k) + bulkS (ss.drop k) := by
    conv => lhs; rw [← List.take_append_drop k ss]
    simp only [bulkS, List.map_append, List.sum_append]
  omega
end Go.Proofs.YtofafonppajfkaaDoor
