/-
  The walk through BodyKinds: it answers true and turns nothing that was there; what comes in is of bulk at most 1048576.
-/
import Derived.Test.YtofafonppajfkaaDoorWKindU
import Derived.Test.YtofafonppajfkaaDoorWRKind
namespace Go.Proofs.YtofafonppajfkaaDoor
open Go.RowKit

set_option maxHeartbeats 1000000 in
set_option maxRecDepth 100000 in
theorem walkBodyKinds (a0 : Bool) (a1 : ByteArray) (a2 : Int) (a3 : Value) (l3 : List Fld) (w : World) (_z1 : a1.size ≤ 1048576) (_z2 : (Lit.int .i64 a2).wf = true) (z3 : Fl w a3 l3) (b3 : bulkF l3 ≤ 1048576) (ht : STabs w) :
    Calls Tryd.prog 3 #[.bool a0, .string a1, .int .i64 a2, a3] w fun e w' => e = .returned (.bool true) ∧ Below w.heap.size w w' := by
  have HZ : Hid (Fl w a3 l3) := z3
  have HB : Hid (bulkF l3 ≤ 1048576) := b3
  have HT : Hid (STabs w) := ht
  obtain ⟨x, y, z, hk⟩ : ∃ x y z, kd a0 a1.data.toList a2 l3 = (x, y, z) := ⟨_, _, _, rfl⟩
  have HK : Hid (kd a0 a1.data.toList a2 l3 = (x, y, z)) := hk
  clear z3 b3 ht hk
  go_enter Tryd.func3, Tryd.ntmps3
  go_wp2_with fail
  refine (kindU_at a0 a1 a2 a3 l3 x y z HK.out _ HZ.out HB.out HT.out).mono ?_
  rintro e w1 ⟨rfl, hb1⟩
  go_wp2_with fail
  refine (rkind_at a0 a1 a2 a3 l3 x y z HK.out _ (HZ.out.below hb1) HB.out).mono ?_
  rintro e w2 ⟨rfl, hb2⟩
  have hbb := hb1.trans (hb2.mono hb1.size)
  clear hb1 hb2
  go_wp2_with fail
  go_ret
  exact ⟨ret_bool (by simp), hbb⟩
end Go.Proofs.YtofafonppajfkaaDoor
