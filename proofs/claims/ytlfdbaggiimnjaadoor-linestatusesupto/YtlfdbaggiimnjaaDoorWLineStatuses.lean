/-
  The walk through LineStatuses: it answers true and turns nothing that was there; the package variable that the library's search reads holds some number, and the listed variables of package strconv hold what their text lays.
-/
import Derived.Test.YtlfdbaggiimnjaaDoorWRLs2
namespace Go.Proofs.YtlfdbaggiimnjaaDoor
open Go.RowKit

set_option maxHeartbeats 2000000 in
set_option maxRecDepth 100000 in
theorem walkLineStatuses (a0 : Int) (a1 a2 : ByteArray) (w : World) (_z0 : (Lit.int .i64 a0).wf = true) (z1 : a1.size ≤ 1048576) (z2 : a2.size ≤ 1048576) (hm : ∃ m, w.cell? ⟨0, 0, none⟩ = some (.int .i64 m)) (hT : STabs w) :
    Calls Tryd.prog 4 #[.int .i64 a0, .string a1, .string a2] w fun e w' => e = .returned (.bool true) ∧ Below w.heap.size w w' := by
  obtain ⟨m, hm⟩ := hm
  have HM : Hid (w.cell? ⟨0, 0, none⟩ = some (.int .i64 m)) := hm
  have HT : Hid (STabs w) := hT
  have H1 : Hid (a1.size ≤ maxLen) := by show _ ≤ _; unfold maxLen; omega
  clear hm hT _z0
  obtain ⟨t, e, hp⟩ : ∃ (t : ByteArray) (e : Int), prS a0 a1.data.toList = (t.data.toList, e) := ⟨⟨(prS a0 a1.data.toList).1.toArray⟩, (prS a0 a1.data.toList).2, rfl⟩
  obtain ⟨x, v, n, c, hq⟩ : ∃ (x : ByteArray) (v n c : Int), paS a2.data.toList = ((v, x.data.toList), n, c) := ⟨⟨(paS a2.data.toList).1.2.toArray⟩, (paS a2.data.toList).1.1, (paS a2.data.toList).2.1, (paS a2.data.toList).2.2, rfl⟩
  have HP : Hid (prS a0 a1.data.toList = (t.data.toList, e)) := hp
  have HQ : Hid (paS a2.data.toList = ((v, x.data.toList), n, c)) := hq
  clear hp hq
  go_enter Tryd.func4, Tryd.ntmps4
  go_wp2_with fail
  refine (printS_at a0 a1 t e HP.out _ H1.out HT.out).mono ?_
  rintro e' w1 ⟨rfl, hw1⟩
  go_wp2_with fail
  refine (rprintS_at a0 a1 t e HP.out _ H1.out).mono ?_
  rintro e' w2 ⟨rfl, hb2⟩
  have hw2 := hw1.trans (hb2.mono hw1.size)
  have HM2 : Hid (w2.cell? ⟨0, 0, none⟩ = some (.int .i64 m)) := cell_keep hw2 HM.out
  clear hw1 hb2
  go_wp2_with fail
  refine (parseS_at a2 x v n c HQ.out m _ HM2.out (HT.out.below hw2) (by omega)).mono ?_
  rintro e' w3 ⟨rfl, hb3⟩
  have hw3 := hw2.trans (hb3.mono hw2.size)
  have HM3 : Hid (w3.cell? ⟨0, 0, none⟩ = some (.int .i64 m)) := cell_keep hw3 HM.out
  clear hw2 hb3
  go_wp2_with fail
  refine (rparseS_at a2 x v n c HQ.out m _ HM3.out (by omega)).mono ?_
  rintro e' w4 ⟨rfl, hb4⟩
  have hw4 := hw3.trans (hb4.mono hw3.size)
  clear hb4 hw3
  go_wp2_with fail
  go_ret
  exact ⟨ret_bool (by simp), hw4⟩
end Go.Proofs.YtlfdbaggiimnjaaDoor
