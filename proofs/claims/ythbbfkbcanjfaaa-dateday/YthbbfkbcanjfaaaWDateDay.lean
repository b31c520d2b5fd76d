/-
  The walk through DateDay: it answers true, whatever numbers come in.
-/
import Derived.Test.YthbbfkbcanjfaaaWCal
namespace Go.Proofs.Ythbbfkbcanjfaaa
open Go.RowKit

set_option maxHeartbeats 1000000 in
theorem walkDateDay (a0 a1 a2 a3 : Int) (w : World) (_z0 : (Lit.int .i64 a0).wf = true) (_z1 : (Lit.int .i64 a1).wf = true) (_z2 : (Lit.int .i64 a2).wf = true) (_z3 : (Lit.int .i64 a3).wf = true) :
    Calls Try.prog 5 #[.int .i64 a0, .int .i64 a1, .int .i64 a2, .int .i64 a3] w fun e w' => e = .returned (.bool true) ∧ Below w.heap.size w w' := by
  clear _z0 _z1 _z2 _z3
  cases hv : vldB a1 a2 a3
  · have HV : Hid (vldB a1 a2 a3 = false) := hv
    clear hv
    by_cases hn : 0 ≤ a0 ∧ a0 ≤ 2932896
    · obtain ⟨h1, h2⟩ := hn
      go_enter Try.func5, Try.ntmps5
      go_wp2_with fail
      refine (civil_yes _ _ h1 h2).mono ?_
      rintro e w' ⟨y, m, d, rfl, hv, hn, rfl⟩
      have HY : Hid (vldB y m d = true) := hv
      have HN : Hid (num y m d = a0) := hn
      clear hv hn
      go_wp2_with fail
      refine (days_no _ _ _ _ HV.out).mono ?_
      rintro e w' ⟨rfl, rfl⟩
      go_wp2_with fail
      refine (days_yes _ _ _ _ HY.out).mono ?_
      rintro e w' ⟨rfl, rfl⟩
      rw [HN.out]
      go_wp2_with fail
      go_ret
      exact ⟨ret_bool (by simp), Below.refl _ _⟩
    · have hn' : a0 < 0 ∨ 2932896 < a0 := by omega
      clear hn
      rcases hn' with hn | hn
      · go_enter Try.func5, Try.ntmps5
        go_wp2_with fail
        refine (civil_no _ _ (.inl hn)).mono ?_
        rintro e w' ⟨rfl, rfl⟩
        go_wp2_with fail
        refine (days_no _ _ _ _ HV.out).mono ?_
        rintro e w' ⟨rfl, rfl⟩
        go_wp2_with fail
        go_ret
        exact ⟨rfl, Below.refl _ _⟩
      · have hn0 : ¬ a0 < 0 := by omega
        go_enter Try.func5, Try.ntmps5
        go_wp2_with fail
        refine (civil_no _ _ (.inr hn)).mono ?_
        rintro e w' ⟨rfl, rfl⟩
        go_wp2_with fail
        refine (days_no _ _ _ _ HV.out).mono ?_
        rintro e w' ⟨rfl, rfl⟩
        go_wp2_with fail
        go_ret
        exact ⟨rfl, Below.refl _ _⟩
  · have HV : Hid (vldB a1 a2 a3 = true) := hv
    have hb := num_bd hv
    clear hv
    by_cases hn : 0 ≤ a0 ∧ a0 ≤ 2932896
    · obtain ⟨h1, h2⟩ := hn
      go_enter Try.func5, Try.ntmps5
      go_wp2_with fail
      refine (civil_yes _ _ h1 h2).mono ?_
      rintro e w' ⟨y, m, d, rfl, hv, hn, rfl⟩
      have HY : Hid (vldB y m d = true) := hv
      have HN : Hid (num y m d = a0) := hn
      clear hv hn
      go_wp2_with fail
      refine (days_yes _ _ _ _ HV.out).mono ?_
      rintro e w' ⟨rfl, rfl⟩
      go_wp2_with fail
      refine (civil_yes _ _ hb.1 hb.2).mono ?_
      rintro e w' ⟨y', m', d', rfl, hv', hn', rfl⟩
      obtain ⟨rfl, rfl, rfl⟩ := num_inj hv' HV.out hn'
      clear hv' hn'
      go_wp2_with fail
      refine (days_yes _ _ _ _ HY.out).mono ?_
      rintro e w' ⟨rfl, rfl⟩
      rw [HN.out]
      go_wp2_with fail
      go_ret
      exact ⟨ret_bool (by simp), Below.refl _ _⟩
    · have hn' : a0 < 0 ∨ 2932896 < a0 := by omega
      clear hn
      rcases hn' with hn | hn
      · go_enter Try.func5, Try.ntmps5
        go_wp2_with fail
        refine (civil_no _ _ (.inl hn)).mono ?_
        rintro e w' ⟨rfl, rfl⟩
        go_wp2_with fail
        refine (days_yes _ _ _ _ HV.out).mono ?_
        rintro e w' ⟨rfl, rfl⟩
        go_wp2_with fail
        refine (civil_yes _ _ hb.1 hb.2).mono ?_
        rintro e w' ⟨y', m', d', rfl, hv', hn', rfl⟩
        obtain ⟨rfl, rfl, rfl⟩ := num_inj hv' HV.out hn'
        clear hv' hn'
        go_wp2_with fail
        go_ret
        exact ⟨rfl, Below.refl _ _⟩
      · have hn0 : ¬ a0 < 0 := by omega
        go_enter Try.func5, Try.ntmps5
        go_wp2_with fail
        refine (civil_no _ _ (.inr hn)).mono ?_
        rintro e w' ⟨rfl, rfl⟩
        go_wp2_with fail
        refine (days_yes _ _ _ _ HV.out).mono ?_
        rintro e w' ⟨rfl, rfl⟩
        go_wp2_with fail
        refine (civil_yes _ _ hb.1 hb.2).mono ?_
        rintro e w' ⟨y', m', d', rfl, hv', hn', rfl⟩
        obtain ⟨rfl, rfl, rfl⟩ := num_inj hv' HV.out hn'
        clear hv' hn'
        go_wp2_with fail
        go_ret
        exact ⟨rfl, Below.refl _ _⟩
end Go.Proofs.Ythbbfkbcanjfaaa
