/-
  The walk through LineRequests: it answers true and turns nothing that was there; the package variable that the library reads holds some number.
-/
import Derived.Test.YtlfdbaggiimnjaaDoorWRLn3
namespace Go.Proofs.YtlfdbaggiimnjaaDoor
open Go.RowKit

set_option maxHeartbeats 2000000 in
set_option maxRecDepth 100000 in
theorem walkLineRequests (a0 a1 a2 : ByteArray) (w : World) (z0 : a0.size ≤ 1048576) (z1 : a1.size ≤ 1048576) (z2 : a2.size ≤ 1048576) (hm : ∃ m, w.cell? ⟨0, 0, none⟩ = some (.int .i64 m)) :
    Calls Tryd.prog 3 #[.string a0, .string a1, .string a2] w fun e w' => e = .returned (.bool true) ∧ Below w.heap.size w w' := by
  obtain ⟨m, hm⟩ := hm
  have HM : Hid (w.cell? ⟨0, 0, none⟩ = some (.int .i64 m)) := hm
  have H0 : Hid (a0.size ≤ maxLen) := by show _ ≤ _; unfold maxLen; omega
  have H1 : Hid (a1.size ≤ maxLen) := by show _ ≤ _; unfold maxLen; omega
  clear hm
  obtain ⟨t, e, hp⟩ : ∃ (t : ByteArray) (e : Int), prR a0.data.toList a1.data.toList = (t.data.toList, e) := ⟨⟨(prR a0.data.toList a1.data.toList).1.toArray⟩, (prR a0.data.toList a1.data.toList).2, rfl⟩
  obtain ⟨x, y, n, c, hq⟩ : ∃ (x y : ByteArray) (n c : Int), paR a2.data.toList = ((x.data.toList, y.data.toList), n, c) := ⟨⟨(paR a2.data.toList).1.1.toArray⟩, ⟨(paR a2.data.toList).1.2.toArray⟩, (paR a2.data.toList).2.1, (paR a2.data.toList).2.2, rfl⟩
  have HP : Hid (prR a0.data.toList a1.data.toList = (t.data.toList, e)) := hp
  have HQ : Hid (paR a2.data.toList = ((x.data.toList, y.data.toList), n, c)) := hq
  clear hp hq
  go_enter Tryd.func3, Tryd.ntmps3
  go_wp2_with fail
  refine (printR_at a0 a1 t e HP.out _ H0.out H1.out).mono ?_
  rintro e' w1 ⟨rfl, rfl⟩
  go_wp2_with fail
  refine (rprintR_at a0 a1 t e HP.out _ H0.out H1.out).mono ?_
  rintro e' w2 ⟨rfl, hb2⟩
  have HM2 : Hid (w2.cell? ⟨0, 0, none⟩ = some (.int .i64 m)) := cell_keep hb2 HM.out
  go_wp2_with fail
  refine (parseR_at a2 x y n c HQ.out m _ HM2.out (by omega)).mono ?_
  rintro e' w3 ⟨rfl, hb3⟩
  have hw3 := hb2.trans (hb3.mono hb2.size)
  have HM3 : Hid (w3.cell? ⟨0, 0, none⟩ = some (.int .i64 m)) := cell_keep hw3 HM.out
  clear hb2 hb3
  go_wp2_with fail
  refine (rparseR_at a2 x y n c HQ.out m _ HM3.out (by omega)).mono ?_
  rintro e' w4 ⟨rfl, hb4⟩
  have hw4 := hw3.trans (hb4.mono hw3.size)
  clear hb4 hw3
  go_wp2_with fail
  go_ret
  exact ⟨ret_bool (by simp), hw4⟩
end Go.Proofs.YtlfdbaggiimnjaaDoor
