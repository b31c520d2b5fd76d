/-
  The walk through DateParses: it answers true, whatever text comes in; the tables that Print and Parse read hold what the program's text lays there, and the variable that strings.Index reads holds some number.
-/
import Derived.Test.YthbbfkbcanjfaaaDoorWDParse
import Derived.Test.YthbbfkbcanjfaaaDoorWRDParse
namespace Go.Proofs.YthbbfkbcanjfaaaDoor
open Go.RowKit

set_option maxHeartbeats 1000000 in
set_option maxRecDepth 100000 in
theorem walkDateParses (a0 : ByteArray) (w : World) (_ : a0.size ≤ 140737488351232) (hm : ∃ m, w.cell? ⟨2, 0, none⟩ = some (.int .i64 m)) (ht : DTabs w) :
    Calls Tryd.prog 4 #[.string a0] w fun e w' => e = .returned (.bool true) ∧ Below w.heap.size w w' := by
  have HT : Hid (DTabs w) := ht
  have HM : Hid (∀ w', Below w.heap.size w w' → ∃ m, w'.cell? ⟨2, 0, none⟩ = some (.int .i64 m)) := by
    intro w' hb
    obtain ⟨m, hm⟩ := hm
    exact ⟨m, by rw [hb.cell (p := ⟨2, 0, none⟩) (lt_of_cell hm)]; exact hm⟩
  clear ht hm
  go_enter Tryd.func4, Tryd.ntmps4
  go_wp2_with fail
  refine (dparse_any _ _ HT.out).mono ?_
  rintro e w1 ⟨n, c, rfl, hp, hb⟩
  have HB : Hid (Below w.heap.size w w1) := hb
  have HP : Hid (PR a0.data.toList n c) := hp
  clear hb hp
  go_wp2_with fail
  refine (rdparse_any _ _ (HM.out _ HB.out)).mono ?_
  rintro e w2 ⟨m, d, rfl, hp, hb⟩
  obtain ⟨rfl, rfl⟩ := PR_one HP.out hp
  have HB2 : Hid (Below w.heap.size w w2) := HB.out.trans (hb.mono HB.out.size)
  clear hb hp HB HP
  go_wp2_with fail
  go_ret
  exact ⟨ret_bool (by simp), HB2.out⟩
end Go.Proofs.YthbbfkbcanjfaaaDoor
