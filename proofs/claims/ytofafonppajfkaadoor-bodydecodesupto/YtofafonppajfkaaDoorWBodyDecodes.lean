/-
  The walk through BodyDecodes: it answers true and turns nothing that was there; the package variable that the library reads holds some number.
-/
import Derived.Test.YtofafonppajfkaaDoorWDd
import Derived.Test.YtofafonppajfkaaDoorWRCb
namespace Go.Proofs.YtofafonppajfkaaDoor
open Go.RowKit

set_option maxHeartbeats 1000000 in
set_option maxRecDepth 100000 in
theorem walkBodyDecodes (a0 : ByteArray) (w : World) (z0 : a0.size ≤ 1048576) (hm : ∃ m, w.cell? ⟨0, 0, none⟩ = some (.int .i64 m)) :
    Calls Tryd.prog 5 #[.string a0] w fun e w' => e = .returned (.bool true) ∧ Below w.heap.size w w' := by
  obtain ⟨m, hm⟩ := hm
  have HM : Hid (w.cell? ⟨0, 0, none⟩ = some (.int .i64 m)) := hm
  have HS : Hid (a0.size ≤ maxLen) := by show _ ≤ _; unfold maxLen; omega
  have HS2 : Hid (a0.size < 4294967281) := by show _ < _; omega
  obtain ⟨t, n, c, ha⟩ : ∃ (t : ByteArray) (n : Nat) (c : Int), ans (runD start a0.data.toList 0) = (t.data.toList, n, c) := ⟨⟨(ans (runD start a0.data.toList 0)).1.toArray⟩, _, _, rfl⟩
  have HA : Hid (ans (runD start a0.data.toList 0) = (t.data.toList, n, c)) := ha
  clear hm ha z0
  go_enter Tryd.func5, Tryd.ntmps5
  go_wp2_with fail
  refine (decode_at a0 t n c m HA.out _ HS.out HM.out).mono ?_
  rintro e w1 ⟨rfl, hb1⟩
  have HM1 : Hid (w1.cell? ⟨0, 0, none⟩ = some (.int .i64 m)) := cell_keep hb1 HM.out
  go_wp2_with fail
  refine (rback_any a0 t n c HA.out m _ HM1.out HS2.out).mono ?_
  rintro e w2 ⟨rfl, hb2⟩
  have hbb := hb1.trans (hb2.mono hb1.size)
  clear hb1 hb2
  go_wp2_with fail
  go_ret
  exact ⟨ret_bool (by simp), hbb⟩
end Go.Proofs.YtofafonppajfkaaDoor
