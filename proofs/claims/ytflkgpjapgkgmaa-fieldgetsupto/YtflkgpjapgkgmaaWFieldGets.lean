/-
  The walk through FieldGets: it answers true and turns nothing that was there; what comes in is of bulk at most 1048576.
-/
import Derived.Test.YtflkgpjapgkgmaaWGet
import Derived.Test.YtflkgpjapgkgmaaWRGet
namespace Go.Proofs.Ytflkgpjapgkgmaa
open Go.RowKit

theorem wide_bulk (ls : List Fld) (h : bulkF ls ≤ 1048576) : Wide ls := by
  refine ⟨fun x hx => ?_, ?_⟩
  · have := bulk_most ls x hx; omega
  · have := bulk_len ls; omega

set_option maxHeartbeats 1000000 in
set_option maxRecDepth 100000 in
theorem walkFieldGets (a0 : Value) (l0 : List Fld) (a1 : ByteArray) (w : World) (z0 : Fl w a0 l0) (b0 : bulkF l0 ≤ 1048576) (z1 : a1.size ≤ 1048576) :
    Calls Try.prog 3 #[a0, .string a1] w fun e w' => e = .returned (.bool true) ∧ Below w.heap.size w w' := by
  have HZ : Hid (Fl w a0 l0) := z0
  have HB : Hid (bulkF l0 ≤ 1048576) := b0
  have HW : Hid (Wide l0) := wide_bulk l0 b0
  obtain ⟨t, ht⟩ : ∃ t : ByteArray, t.data.toList = jn (vals l0 a1.data.toList) := ⟨⟨(jn (vals l0 a1.data.toList)).toArray⟩, rfl⟩
  obtain ⟨b, hb⟩ : ∃ b : Bool, b = !(vals l0 a1.data.toList).isEmpty := ⟨_, rfl⟩
  have hts : t.size ≤ 1048576 := by rw [← size_list, ht]; exact Nat.le_trans (jn_bulk _ _) b0
  have HT : Hid (t.data.toList = jn (vals l0 a1.data.toList)) := ht
  have HBB : Hid (b = !(vals l0 a1.data.toList).isEmpty) := hb
  clear z0 b0 ht hb
  go_enter Try.func3, Try.ntmps3
  go_wp2_with fail
  refine (get_at _ l0 a1 t b HT.out HBB.out _ HZ.out HW.out (by omega) (by omega)).mono ?_
  rintro e w1 ⟨rfl, hb1⟩
  go_wp2_with fail
  refine (rget_at _ l0 a1 t b HT.out HBB.out _ (HZ.out.below hb1) HB.out (by omega)).mono ?_
  rintro e w2 ⟨rfl, hb2⟩
  have hbb := hb1.trans (hb2.mono hb1.size)
  go_wp2_with fail
  go_ret
  exact ⟨ret_bool (by simp), hbb⟩
end Go.Proofs.Ytflkgpjapgkgmaa
