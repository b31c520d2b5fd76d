/-
  The walk through TokenParams: it answers true and turns nothing that was there; the package variable that the library reads holds some number.
-/
import Derived.Test.YtoccjnbodoiibabDoorWRPar
import Derived.Test.YtoccjnbodoiibabDoorWEqP
namespace Go.Proofs.YtoccjnbodoiibabDoor
open Go.RowKit

theorem paramsS_len (l : List UInt8) : (paramsS l).2.1.length ≤ 20 := by
  unfold paramsS
  split
  · simp
  · split
    · simp
    · split
      · simp
      · split
        · simp
        · split
          · simp
          · simp only; omega

set_option maxHeartbeats 400000 in
set_option maxRecDepth 100000 in
theorem walkTokenParams (a0 : ByteArray) (_z0 : a0.size ≤ 140737488351232) (w : World) (hm : ∃ m, w.cell? ⟨0, 0, none⟩ = some (.int .i64 m)) :
    Calls Tryd.prog 3 #[.string a0] w fun e w' => e = .returned (.bool true) ∧ Below w.heap.size w w' := by
  obtain ⟨m, hm⟩ := hm
  have HM : Hid (w.cell? ⟨0, 0, none⟩ = some (.int .i64 m)) := hm
  clear hm
  have hl := paramsS_len a0.data.toList
  go_enter Tryd.func3, Tryd.ntmps3
  go_wp2_with fail
  refine (params_any _ m _ HM.out).mono ?_
  rintro e w1 ⟨v, rfl, hown, hb⟩
  go_wp2_with fail
  refine (rparams_any _ _).mono ?_
  rintro e w2 ⟨v', rfl, hown', hb'⟩
  have hown2 := own_below3 hown hb'
  have hb2 := hb.trans (hb'.mono hb.size)
  clear hown
  go_wp2_with fail
  refine (eqP_same _ _ _ _ _ _ (by omega) hown2 hown').mono ?_
  rintro e w3 ⟨rfl, hb3⟩
  go_wp2_with fail
  go_ret
  exact ⟨ret_bool (by simp), hb2.trans (hb3.mono hb2.size)⟩
end Go.Proofs.YtoccjnbodoiibabDoor
