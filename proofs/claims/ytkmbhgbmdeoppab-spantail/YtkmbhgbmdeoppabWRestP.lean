/-
  What Rest of the document's answers computes, of a number above 0.
-/
import Derived.Test.YtkmbhgbmdeoppabSpec
import Derived.Test.YtkmbhgbmdeoppabRows
namespace Go.Proofs.Ytkmbhgbmdeoppab
open Go.RowKit

set_option maxHeartbeats 1000000 in
set_option maxRecDepth 100000 in
theorem rest_pos (x : Int) (n : Nat) (hn : 0 < n) (hn' : n ≤ 1000000) (hx : (Lit.int .i64 x).wf = true) (w : World) :
    Calls Try.prog 8 #[.int .i64 x, .int .i64 (n : Int)] w fun e w' => ∃ k : Nat, k < n ∧ e = .returned (.int .i64 (k : Int)) ∧ w' = w := by
  have hb : -9223372036854775808 ≤ x ∧ x ≤ 9223372036854775807 := by simpa [Lit.wf, IntKind.min, IntKind.max, IntKind.signed, IntKind.bits] using hx
  obtain ⟨hb1, hb2⟩ := hb
  have hm1 : -(n : Int) < x.tmod n := Int.lt_tmod_of_pos x (by omega)
  have hm2 : x.tmod n < n := Int.tmod_lt_of_pos x (by omega)
  have hz : ((n : Int) == 0) = false := by rw [beq_eq_false_iff_ne]; omega
  have hz1 : (n : Int) ≠ 0 := by omega
  clear hx
  go_enter Try.func8, Try.ntmps8
  go_wp2
  · have hneg : x.tmod n < 0 := by assumption
    go_ret
    exact ⟨(x.tmod n + n).toNat, by omega, congrArg (fun y => Ending.returned (.int .i64 y)) (by simp; omega), rfl⟩
  · have hpos : 0 ≤ x.tmod n := by assumption
    go_ret
    exact ⟨(x.tmod n).toNat, by omega, congrArg (fun y => Ending.returned (.int .i64 y)) (by simp; omega), rfl⟩
end Go.Proofs.Ytkmbhgbmdeoppab
