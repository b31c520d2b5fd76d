/-
  The walk through FieldChecks: it answers true and turns nothing that was there.
-/
import Derived.Test.YtflkgpjapgkgmaaDoorWChkL
import Derived.Test.YtflkgpjapgkgmaaDoorWRChkL
namespace Go.Proofs.YtflkgpjapgkgmaaDoor
open Go.RowKit

set_option maxHeartbeats 1000000 in
set_option maxRecDepth 100000 in
theorem walkFieldChecks (a0 : Value) (l0 : List Fld) (w : World) (z0 : Fl w a0 l0) (m0 : Most maxLen l0) :
    Calls Tryd.prog 3 #[a0] w fun e w' => e = .returned (.bool true) ∧ Below w.heap.size w w' := by
  have HZ : Hid (Fl w a0 l0) := z0
  have HM : Hid (Most maxLen l0) := m0
  clear z0 m0
  go_enter Tryd.func3, Tryd.ntmps3
  go_wp2_with fail
  refine (check_any _ l0 _ HZ.out HM.out).mono ?_
  rintro e w1 ⟨rfl, hb1⟩
  go_wp2_with fail
  refine (rcheck_any _ l0 _ (HZ.out.below hb1) HM.out).mono ?_
  rintro e w2 ⟨rfl, hb2⟩
  have hbb := hb1.trans (hb2.mono hb1.size)
  go_wp2_with fail
  go_ret
  exact ⟨ret_bool (by simp), hbb⟩
end Go.Proofs.YtflkgpjapgkgmaaDoor
