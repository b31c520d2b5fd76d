/-
  The walk through BodyEncodes: it answers true and turns nothing that was there.
-/
import Derived.Test.YtofafonppajfkaaDoorWEnc
import Derived.Test.YtofafonppajfkaaDoorWREnc
namespace Go.Proofs.YtofafonppajfkaaDoor
open Go.RowKit

set_option maxHeartbeats 1000000 in
set_option maxRecDepth 100000 in
theorem walkBodyEncodes (a0 : ByteArray) (a1 : Int) (w : World) (_z0 : a0.size ≤ 140737488351232) (z1 : (Lit.int .i64 a1).wf = true) (hh : HTab w) :
    Calls Tryd.prog 4 #[.string a0, .int .i64 a1] w fun e w' => e = .returned (.bool true) ∧ Below w.heap.size w w' := by
  have hb : -9223372036854775808 ≤ a1 ∧ a1 ≤ 9223372036854775807 := by simpa [Lit.wf, IntKind.min, IntKind.max, IntKind.signed, IntKind.bits] using z1
  obtain ⟨x, c, hx⟩ : ∃ (x : ByteArray) (c : Int), encE a0.data.toList a1 = (x.data.toList, c) := ⟨⟨(encE a0.data.toList a1).1.toArray⟩, (encE a0.data.toList a1).2, rfl⟩
  have HX : Hid (encE a0.data.toList a1 = (x.data.toList, c)) := hx
  have HH : Hid (HTab w) := hh
  have HB : Hid (a1 ≤ 9223372036854775807) := hb.2
  clear hx hh hb z1
  go_enter Tryd.func4, Tryd.ntmps4
  go_wp2_with fail
  refine (encode_at a0 x a1 c HX.out HB.out _ HH.out).mono ?_
  rintro e w1 ⟨rfl, hb1⟩
  go_wp2_with fail
  refine (rchunksE_at a0 x a1 c HX.out HB.out _).mono ?_
  rintro e w2 ⟨rfl, hb2⟩
  have hbb := hb1.trans (hb2.mono hb1.size)
  clear hb1 hb2
  go_wp2_with fail
  go_ret
  exact ⟨ret_bool (by simp), hbb⟩
end Go.Proofs.YtofafonppajfkaaDoor
