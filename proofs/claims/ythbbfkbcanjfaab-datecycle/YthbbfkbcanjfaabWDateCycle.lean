/-
  The walk through DateCycle: it answers true, whatever numbers come in.
-/
import Derived.Test.YthbbfkbcanjfaabWRest
namespace Go.Proofs.Ythbbfkbcanjfaab
open Go.RowKit

theorem wrap_past (y : Int) (h1 : 9223372036854775407 < y) (h2 : y ≤ 9223372036854775807) : wrap64 (y + 400) < 0 := by unfold wrap64; omega

set_option maxHeartbeats 4000000 in
theorem walkDateCycle (a0 a1 a2 : Int) (w : World) (z0 : (Lit.int .i64 a0).wf = true) (_z1 : (Lit.int .i64 a1).wf = true) (_z2 : (Lit.int .i64 a2).wf = true) :
    Calls Try.prog 4 #[.int .i64 a0, .int .i64 a1, .int .i64 a2] w fun e w' => e = .returned (.bool true) ∧ Below w.heap.size w w' := by
  clear _z1 _z2
  obtain ⟨b1, b2⟩ := wf_i64 z0
  clear z0
  have HB : Hid (vldB 1970 13 1 = false) := by show vldB 1970 13 1 = false; exact vld_no (by omega)
  by_cases c1 : 9223372036854775407 < a0
  · have hw := wrap_past a0 c1 b2
    have HV : Hid (vldB a0 a1 a2 = false) := by show vldB a0 a1 a2 = false; exact vld_no (by omega)
    have HU : Hid (vldB (wrap64 (a0 + 400)) a1 a2 = false) := by show vldB _ a1 a2 = false; exact vld_no (by omega)
    clear hw
    go_enter Try.func4, Try.ntmps4
    go_wp2_with fail
    refine (days_no _ _ _ _ HV.out).mono ?_
    rintro e w' ⟨rfl, rfl⟩
    go_wp2_with fail
    refine (days_no _ _ _ _ HU.out).mono ?_
    rintro e w' ⟨rfl, rfl⟩
    go_wp2_with fail
    refine (days_no _ _ _ _ HB.out).mono ?_
    rintro e w' ⟨rfl, rfl⟩
    go_wp2_with fail
    go_ret
    exact ⟨rfl, Below.refl _ _⟩
  · cases hv : vldB a0 a1 a2
    · have HV : Hid (vldB a0 a1 a2 = false) := hv
      clear hv
      cases hv : vldB (a0 + 400) a1 a2
      · have HU : Hid (vldB (a0 + 400) a1 a2 = false) := hv
        clear hv
        go_enter Try.func4, Try.ntmps4
        go_wp2_with fail
        refine (days_no _ _ _ _ HV.out).mono ?_
        rintro e w' ⟨rfl, rfl⟩
        go_wp2_with fail
        refine (days_no _ _ _ _ HU.out).mono ?_
        rintro e w' ⟨rfl, rfl⟩
        go_wp2_with fail
        refine (days_no _ _ _ _ HB.out).mono ?_
        rintro e w' ⟨rfl, rfl⟩
        go_wp2_with fail
        go_ret
        exact ⟨rfl, Below.refl _ _⟩
      · have HU : Hid (vldB (a0 + 400) a1 a2 = true) := hv
        have hlt : a0 < 1970 := by
          by_cases hlt : a0 < 1970
          · exact hlt
          · have := vld_400' a0 a1 a2 hv (by omega)
            rw [HV.out] at this; cases this
        clear hv
        go_enter Try.func4, Try.ntmps4
        go_wp2_with fail
        refine (days_no _ _ _ _ HV.out).mono ?_
        rintro e w' ⟨rfl, rfl⟩
        go_wp2_with fail
        refine (days_yes _ _ _ _ HU.out).mono ?_
        rintro e w' ⟨rfl, rfl⟩
        go_wp2_with fail
        refine (days_no _ _ _ _ HB.out).mono ?_
        rintro e w' ⟨rfl, rfl⟩
        go_wp2_with fail
        go_ret
        exact ⟨rfl, Below.refl _ _⟩
    · have HV : Hid (vldB a0 a1 a2 = true) := hv
      have hbd := num_bd hv
      clear hv
      cases hv : vldB (a0 + 400) a1 a2
      · have HU : Hid (vldB (a0 + 400) a1 a2 = false) := hv
        have hlt : 9599 < a0 := by
          by_cases hlt : 9599 < a0
          · exact hlt
          · have := vld_400 a0 a1 a2 HV.out (by omega)
            rw [HU.out] at this; cases this
        clear hv
        go_enter Try.func4, Try.ntmps4
        go_wp2_with fail
        refine (days_yes _ _ _ _ HV.out).mono ?_
        rintro e w' ⟨rfl, rfl⟩
        go_wp2_with fail
        refine (days_no _ _ _ _ HU.out).mono ?_
        rintro e w' ⟨rfl, rfl⟩
        go_wp2_with fail
        refine (days_no _ _ _ _ HB.out).mono ?_
        rintro e w' ⟨rfl, rfl⟩
        go_wp2_with fail
        go_ret
        exact ⟨rfl, Below.refl _ _⟩
      · have HU : Hid (vldB (a0 + 400) a1 a2 = true) := hv
        clear hv
        have HE : Hid (num (a0 + 400) a1 a2 = num a0 a1 a2 + 146097) := num_400 a0 a1 a2
        go_enter Try.func4, Try.ntmps4
        go_wp2_with fail
        refine (days_yes _ _ _ _ HV.out).mono ?_
        rintro e w' ⟨rfl, rfl⟩
        go_wp2_with fail
        refine (days_yes _ _ _ _ HU.out).mono ?_
        rintro e w' ⟨rfl, rfl⟩
        go_wp2_with fail
        refine (days_no _ _ _ _ HB.out).mono ?_
        rintro e w' ⟨rfl, rfl⟩
        rw [HE.out]
        go_wp2_with fail
        go_ret
        exact ⟨ret_bool (by simp), Below.refl _ _⟩
end Go.Proofs.Ythbbfkbcanjfaab
