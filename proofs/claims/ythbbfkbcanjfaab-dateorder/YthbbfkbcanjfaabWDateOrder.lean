/-
  The walk through DateOrder: it answers true, whatever numbers come in.
-/
import Derived.Test.YthbbfkbcanjfaabWCal
namespace Go.Proofs.Ythbbfkbcanjfaab
open Go.RowKit

set_option maxHeartbeats 4000000 in
theorem walkDateOrder (a0 a1 a2 a3 a4 a5 : Int) (w : World) (_z0 : (Lit.int .i64 a0).wf = true) (_z1 : (Lit.int .i64 a1).wf = true) (_z2 : (Lit.int .i64 a2).wf = true) (_z3 : (Lit.int .i64 a3).wf = true) (_z4 : (Lit.int .i64 a4).wf = true) (_z5 : (Lit.int .i64 a5).wf = true) :
    Calls Try.prog 5 #[.int .i64 a0, .int .i64 a1, .int .i64 a2, .int .i64 a3, .int .i64 a4, .int .i64 a5] w fun e w' => e = .returned (.bool true) ∧ Below w.heap.size w w' := by
  clear _z0 _z1 _z2 _z3 _z4 _z5
  have HB : Hid (vldB 1970 13 1 = false) := by show vldB 1970 13 1 = false; exact vld_no (by omega)
  cases hv : vldB a0 a1 a2
  · have HV : Hid (vldB a0 a1 a2 = false) := hv
    clear hv
    cases hv : vldB a3 a4 a5
    · have HU : Hid (vldB a3 a4 a5 = false) := hv
      clear hv
      go_enter Try.func5, Try.ntmps5
      go_wp2_with fail
      refine (days_no _ _ _ _ HV.out).mono ?_
      rintro e w' ⟨rfl, rfl⟩
      go_wp2_with fail
      refine (days_no _ _ _ _ HU.out).mono ?_
      rintro e w' ⟨rfl, rfl⟩
      go_wp2_with fail
      refine (days_no _ _ _ _ HB.out).mono ?_
      rintro e w' ⟨rfl, rfl⟩
      go_wp2_with fail
      go_ret
      exact ⟨rfl, Below.refl _ _⟩
    · have HU : Hid (vldB a3 a4 a5 = true) := hv
      clear hv
      go_enter Try.func5, Try.ntmps5
      go_wp2_with fail
      refine (days_no _ _ _ _ HV.out).mono ?_
      rintro e w' ⟨rfl, rfl⟩
      go_wp2_with fail
      refine (days_yes _ _ _ _ HU.out).mono ?_
      rintro e w' ⟨rfl, rfl⟩
      go_wp2_with fail
      refine (days_no _ _ _ _ HB.out).mono ?_
      rintro e w' ⟨rfl, rfl⟩
      go_wp2_with fail
      go_ret
      exact ⟨rfl, Below.refl _ _⟩
  · have HV : Hid (vldB a0 a1 a2 = true) := hv
    clear hv
    cases hv : vldB a3 a4 a5
    · have HU : Hid (vldB a3 a4 a5 = false) := hv
      clear hv
      go_enter Try.func5, Try.ntmps5
      go_wp2_with fail
      refine (days_yes _ _ _ _ HV.out).mono ?_
      rintro e w' ⟨rfl, rfl⟩
      go_wp2_with fail
      refine (days_no _ _ _ _ HU.out).mono ?_
      rintro e w' ⟨rfl, rfl⟩
      go_wp2_with fail
      refine (days_no _ _ _ _ HB.out).mono ?_
      rintro e w' ⟨rfl, rfl⟩
      go_wp2_with fail
      go_ret
      exact ⟨rfl, Below.refl _ _⟩
    · have HU : Hid (vldB a3 a4 a5 = true) := hv
      clear hv
      have HO : Hid (num a0 a1 a2 < num a3 a4 a5 ↔ a0 < a3 ∨ a0 = a3 ∧ (a1 < a4 ∨ a1 = a4 ∧ a2 < a5)) := num_order HV.out HU.out
      go_enter Try.func5, Try.ntmps5
      go_wp2_with fail
      refine (days_yes _ _ _ _ HV.out).mono ?_
      rintro e w' ⟨rfl, rfl⟩
      go_wp2_with fail
      refine (days_yes _ _ _ _ HU.out).mono ?_
      rintro e w' ⟨rfl, rfl⟩
      go_wp2_with fail
      refine (days_no _ _ _ _ HB.out).mono ?_
      rintro e w' ⟨rfl, rfl⟩
      by_cases y1 : a0 < a3
      · have hl : num a0 a1 a2 < num a3 a4 a5 := HO.out.2 (.inl y1)
        go_wp2_with fail
        go_ret
        exact ⟨ret_bool (by simp), Below.refl _ _⟩
      · by_cases y2 : a0 = a3
        · subst y2
          clear y1
          have y1 : ¬ a0 < a0 := by omega
          by_cases m1 : a1 < a4
          · have hl : num a0 a1 a2 < num a0 a4 a5 := HO.out.2 (.inr ⟨rfl, .inl m1⟩)
            go_wp2_with fail
            go_ret
            exact ⟨ret_bool (by simp), Below.refl _ _⟩
          · by_cases m2 : a1 = a4
            · subst m2
              clear m1
              have m1 : ¬ a1 < a1 := by omega
              by_cases d1 : a2 < a5
              · have hl : num a0 a1 a2 < num a0 a1 a5 := HO.out.2 (.inr ⟨rfl, .inr ⟨rfl, d1⟩⟩)
                go_wp2_with fail
                go_ret
                exact ⟨ret_bool (by simp), Below.refl _ _⟩
              · have hl : ¬ num a0 a1 a2 < num a0 a1 a5 := fun h => by have := HO.out.1 h; omega
                go_wp2_with fail
                go_ret
                exact ⟨ret_bool (by simp; omega), Below.refl _ _⟩
            · have hl : ¬ num a0 a1 a2 < num a0 a4 a5 := fun h => by have := HO.out.1 h; omega
              have m3 : (a1 == a4) = false := by rw [beq_eq_false_iff_ne]; exact m2
              go_wp2_with fail
              go_ret
              exact ⟨ret_bool (by simp; omega), Below.refl _ _⟩
        · have hl : ¬ num a0 a1 a2 < num a3 a4 a5 := fun h => by have := HO.out.1 h; omega
          have y3 : (a0 == a3) = false := by rw [beq_eq_false_iff_ne]; exact y2
          go_wp2_with fail
          go_ret
          exact ⟨ret_bool (by simp; omega), Below.refl _ _⟩
end Go.Proofs.Ythbbfkbcanjfaab
