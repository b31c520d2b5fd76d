/-
  The walk through DateNext: it answers true, whatever number comes in.
-/
import Derived.Test.YthbbfkbcanjfaabWRest
namespace Go.Proofs.Ythbbfkbcanjfaab
open Go.RowKit

set_option maxHeartbeats 1000000 in
theorem walkDateNext (a0 : Int) (w : World) (z0 : (Lit.int .i64 a0).wf = true) :
    Calls Try.prog 3 #[.int .i64 a0] w fun e w' => e = .returned (.bool true) ∧ Below w.heap.size w w' := by
  have Z : Hid ((Lit.int .i64 a0).wf = true) := z0
  clear z0
  go_enter Try.func3, Try.ntmps3
  go_wp2_with fail
  refine (rest_any _ _ (by decide) (by decide) Z.out _).mono ?_
  rintro e w' ⟨n, hn0, hn1, rfl, rfl⟩
  go_wp2_with fail
  refine (civil_yes _ _ hn0 (by omega)).mono ?_
  rintro e w' ⟨y, m, d, rfl, hv, hn, rfl⟩
  have HY : Hid (vldB y m d = true) := hv
  have HN : Hid (num y m d = n) := hn
  clear hv hn
  go_wp2_with fail
  refine (civil_yes _ _ (by omega) (by omega)).mono ?_
  rintro e w' ⟨z, k, c, rfl, hv, hn, rfl⟩
  obtain ⟨a1, a2, a3, a4, a5, a6⟩ := vld_iff.1 HY.out
  have a7 := dim_lo y m
  have a8 : d ≤ 31 := by omega
  clear a6 a7
  rcases num_next HY.out hv (by rw [hn, HN.out]) with ⟨rfl, rfl, rfl, h4⟩ | ⟨rfl, rfl, rfl, h4, h5⟩ | ⟨rfl, rfl, rfl, rfl, h4, h5⟩
  · clear hv hn
    go_wp2_with fail
    go_ret
    exact ⟨rfl, Below.refl _ _⟩
  · clear hv hn
    have hne : (m + 1 == m) = false := by rw [beq_eq_false_iff_ne]; omega
    go_wp2_with fail
    go_ret
    exact ⟨rfl, Below.refl _ _⟩
  · clear hv hn
    have hne : (y + 1 == y) = false := by rw [beq_eq_false_iff_ne]; omega
    go_wp2_with fail
    go_ret
    exact ⟨rfl, Below.refl _ _⟩
end Go.Proofs.Ythbbfkbcanjfaab
