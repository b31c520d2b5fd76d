/-
  What Rest of the document's answers computes: some number from 0 on, below the one that is handed in.
-/
import Derived.Test.YthbbfkbcanjfaabDoorWCal
namespace Go.Proofs.YthbbfkbcanjfaabDoor
open Go.RowKit

theorem wf_i64 {x : Int} (hx : (Lit.int .i64 x).wf = true) : -9223372036854775808 ≤ x ∧ x ≤ 9223372036854775807 := by simpa [Lit.wf, IntKind.min, IntKind.max, IntKind.signed, IntKind.bits] using hx

set_option maxHeartbeats 1000000 in
set_option maxRecDepth 100000 in
theorem rest_any (x n : Int) (hn : 0 < n) (hn' : n ≤ 1000000000000) (hx : (Lit.int .i64 x).wf = true) (w : World) :
    Calls Tryd.prog 5 #[.int .i64 x, .int .i64 n] w fun e w' => ∃ k : Int, 0 ≤ k ∧ k < n ∧ e = .returned (.int .i64 k) ∧ w' = w := by
  obtain ⟨hb1, hb2⟩ := wf_i64 hx
  have hm1 : -n < x.tmod n := Int.lt_tmod_of_pos x (by omega)
  have hm2 : x.tmod n < n := Int.tmod_lt_of_pos x (by omega)
  have hz : (n == 0) = false := by rw [beq_eq_false_iff_ne]; omega
  have hz1 : n ≠ 0 := by omega
  clear hx
  go_enter Tryd.func5, Tryd.ntmps5
  go_wp2
  · have hneg : x.tmod n < 0 := by assumption
    go_ret
    exact ⟨x.tmod n + n, by omega, by omega, congrArg (fun y => Ending.returned (.int .i64 y)) (by simp), rfl⟩
  · have hpos : 0 ≤ x.tmod n := by assumption
    go_ret
    exact ⟨x.tmod n, by omega, by omega, congrArg (fun y => Ending.returned (.int .i64 y)) (by simp), rfl⟩
end Go.Proofs.YthbbfkbcanjfaabDoor
