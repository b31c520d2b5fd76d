/-
  What Kind of package body computes of fields of bulk at most 1048576, and what shapes its answers have.
-/
import Derived.Test.YtofafonppajfkabDoorWKind
import Derived.Test.YtofafonppajfkabDoorWWide
namespace Go.Proofs.YtofafonppajfkabDoor
open Go.RowKit

theorem kindU_at (req : Bool) (m : ByteArray) (c : Int) (v : Value) (ls : List Fld) (x y z : Int) (h : kd req m.data.toList c ls = (x, y, z)) (w : World) (hf : Fl w v ls) (hl : bulkF ls ≤ 1048576) (hT : STabs w) :
    Calls Tryd.prog 12 #[.bool req, .string m, .int .i64 c, v] w fun e w' => e = .returned (.tuple #[.int .i64 x, .int .i64 y, .int .i64 z]) ∧ Below w.heap.size w w' :=
  kind_go req m c v ls x y z h w hf (wide_bulk ls hl) (fun s => Nat.le_trans (Nat.le_trans (jn_bulk ls s) hl) (by decide)) hT

theorem kdL_shape (t : List UInt8) : (∃ n, kdL t = (2, n, 0) ∧ 0 ≤ n ∧ n ≤ 5000) ∨ ∃ e, kdL t = (0, 0, e) ∧ (e = 10 ∨ e = 2) := by
  unfold kdL
  split
  · cases (splitS t).1 with
    | nil => exact Or.inr ⟨10, rfl, Or.inl rfl⟩
    | cons p r =>
      cases ha : r.all (· == p)
      · exact Or.inr ⟨10, kdP_diff p r ha, Or.inl rfl⟩
      · rw [kdP_same p r ha]
        cases h2 : (rdLn p).2
        · exact Or.inr ⟨10, rfl, Or.inl rfl⟩
        · by_cases h3 : 5000 < (rdLn p).1
          · exact Or.inr ⟨2, by simp only [if_true]; rw [if_pos h3], Or.inr rfl⟩
          · exact Or.inl ⟨(rdLn p).1, by simp only [if_true]; rw [if_neg h3], (rdLn_bd p h2).1, by omega⟩
  · exact Or.inr ⟨10, rfl, Or.inl rfl⟩
theorem kd_shape (req : Bool) (m : List UInt8) (c : Int) (ls : List Fld) : (∃ e, kd req m c ls = (0, 0, e) ∧ e ≠ 0) ∨ kd req m c ls = (1, 0, 0) ∨ kd req m c ls = (3, 0, 0) ∨ (kd req m c ls = (4, 0, 0) ∧ req = false) ∨ ∃ n, kd req m c ls = (2, n, 0) ∧ 0 ≤ n ∧ n ≤ 5000 := by
  unfold kd
  split
  · exact Or.inr (Or.inl rfl)
  · split
    · split
      · exact Or.inl ⟨10, rfl, by decide⟩
      · exact Or.inr (Or.inr (Or.inl rfl))
    · split
      · rcases kdL_shape (jn (vals ls clN)) with ⟨n, h1, h2⟩ | ⟨e, h1, h2⟩
        · exact Or.inr (Or.inr (Or.inr (Or.inr ⟨n, h1, h2⟩)))
        · exact Or.inl ⟨e, h1, by omega⟩
      · split
        · exact Or.inr (Or.inl rfl)
        · rename_i h
          exact Or.inr (Or.inr (Or.inr (Or.inl ⟨rfl, by simpa using h⟩)))
end Go.Proofs.YtofafonppajfkabDoor
