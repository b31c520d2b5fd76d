/-
  The walk through DateCivil: it answers true, whatever number comes in.
-/
import Derived.Test.YthbbfkbcanjfaaaWRDay
namespace Go.Proofs.Ythbbfkbcanjfaaa
open Go.RowKit

set_option maxHeartbeats 1000000 in
theorem walkDateCivil (a0 : Int) (w : World) (_z0 : (Lit.int .i64 a0).wf = true) :
    Calls Try.prog 4 #[.int .i64 a0] w fun e w' => e = .returned (.bool true) ∧ Below w.heap.size w w' := by
  clear _z0
  by_cases hn : 0 ≤ a0 ∧ a0 ≤ 2932896
  · obtain ⟨h1, h2⟩ := hn
    go_enter Try.func4, Try.ntmps4
    go_wp2_with fail
    refine (civil_yes _ _ h1 h2).mono ?_
    rintro e w ⟨y, m, d, rfl, hv, hn, rfl⟩
    have HY : Hid (vldB y m d = true) := hv
    have HN : Hid (num y m d = a0) := hn
    clear hv hn
    go_wp2_with fail
    refine (rcivil_yes _ _ h1 h2).mono ?_
    rintro e w2 ⟨y', m', d', rfl, hv', hn', hb⟩
    obtain ⟨rfl, rfl, rfl⟩ := num_inj hv' HY.out (by rw [hn', HN.out])
    clear hv' hn'
    go_wp2_with fail
    go_ret
    exact ⟨ret_bool (by simp), hb⟩
  · have HN : Hid (a0 < 0 ∨ 2932896 < a0) := by show a0 < 0 ∨ 2932896 < a0; omega
    clear hn
    go_enter Try.func4, Try.ntmps4
    go_wp2_with fail
    refine (civil_no _ _ HN.out).mono ?_
    rintro e w ⟨rfl, rfl⟩
    go_wp2_with fail
    refine (rcivil_no _ _ HN.out).mono ?_
    rintro e w ⟨rfl, rfl⟩
    go_wp2_with fail
    go_ret
    exact ⟨rfl, Below.refl _ _⟩
end Go.Proofs.Ythbbfkbcanjfaaa
