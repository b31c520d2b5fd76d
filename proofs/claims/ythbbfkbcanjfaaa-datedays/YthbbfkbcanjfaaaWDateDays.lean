/-
  The walk through DateDays: it answers true, whatever numbers come in.
-/
import Derived.Test.YthbbfkbcanjfaaaWRDay
namespace Go.Proofs.Ythbbfkbcanjfaaa
open Go.RowKit

set_option maxHeartbeats 1000000 in
theorem walkDateDays (a0 a1 a2 : Int) (w : World) (_z0 : (Lit.int .i64 a0).wf = true) (_z1 : (Lit.int .i64 a1).wf = true) (_z2 : (Lit.int .i64 a2).wf = true) :
    Calls Try.prog 3 #[.int .i64 a0, .int .i64 a1, .int .i64 a2] w fun e w' => e = .returned (.bool true) ∧ Below w.heap.size w w' := by
  clear _z0 _z1 _z2
  cases hv : vldB a0 a1 a2
  · have HV : Hid (vldB a0 a1 a2 = false) := hv
    clear hv
    go_enter Try.func3, Try.ntmps3
    go_wp2_with fail
    refine (days_no _ _ _ _ HV.out).mono ?_
    rintro e w ⟨rfl, rfl⟩
    go_wp2_with fail
    refine (rdays_no _ _ _ _ HV.out).mono ?_
    rintro e w2 ⟨rfl, hb⟩
    go_wp2_with fail
    go_ret
    exact ⟨rfl, hb⟩
  · have HV : Hid (vldB a0 a1 a2 = true) := hv
    clear hv
    go_enter Try.func3, Try.ntmps3
    go_wp2_with fail
    refine (days_yes _ _ _ _ HV.out).mono ?_
    rintro e w ⟨rfl, rfl⟩
    go_wp2_with fail
    refine (rdays_yes _ _ _ _ HV.out).mono ?_
    rintro e w2 ⟨rfl, hb⟩
    go_wp2_with fail
    go_ret
    exact ⟨ret_bool (by simp), hb⟩
end Go.Proofs.Ythbbfkbcanjfaaa
