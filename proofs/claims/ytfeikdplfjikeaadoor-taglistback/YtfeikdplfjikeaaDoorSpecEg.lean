/-
  Which tags TagListBack takes, in plain lists; no program is named here.
-/
import Derived.Test.YtfeikdplfjikeaaDoorSpecEb
import Derived.Lib.Join
namespace Go.Proofs.YtfeikdplfjikeaaDoor
open Go.RowKit

def sumG (ts : List Tg) : Nat := (ts.map fun t => (prG t).length).sum
theorem sumG_snoc (ts : List Tg) (t : Tg) : sumG (ts ++ [t]) = sumG ts + (prG t).length := by simp [sumG]
theorem join_gap (g : List UInt8) (ts : List Tg) (h : ts ≠ []) : Lib.join (ts.map prG) g ++ g = ts.flatMap fun t => prG t ++ g := by
  induction ts with
  | nil => exact absurd rfl h
  | cons t ts ih =>
    cases ts with
    | nil => simp [Lib.join]
    | cons u us =>
      have := ih (by simp)
      rw [List.flatMap_cons, ← this]
      simp [Lib.join]
theorem flat_gap_len (g : List UInt8) (ts : List Tg) : (ts.flatMap fun t => prG t ++ g).length = sumG ts + ts.length * g.length := by
  induction ts with
  | nil => simp [sumG]
  | cons t ts ih =>
    rw [List.flatMap_cons, List.length_append, ih, List.length_append, List.length_cons, Nat.add_mul]
    simp only [sumG, List.map_cons, List.sum_cons]
    omega
end Go.Proofs.YtfeikdplfjikeaaDoor
