/-
  The walk through DatePrints: it answers true, whatever number comes in; the tables that Print reads hold what the program's text lays there.
-/
import Derived.Test.YthbbfkbcanjfaaaDoorWDPrint
import Derived.Test.YthbbfkbcanjfaaaDoorWRDPrint
import Derived.Test.YthbbfkbcanjfaaaDoorSpecGs
namespace Go.Proofs.YthbbfkbcanjfaaaDoor
open Go.RowKit

set_option maxHeartbeats 2000000 in
set_option maxRecDepth 100000 in
theorem walkDatePrints (a0 : Int) (w : World) (_ : (Lit.int .i64 a0).wf = true) (ht : DTabs w) :
    Calls Tryd.prog 3 #[.int .i64 a0] w fun e w' => e = .returned (.bool true) ∧ Below w.heap.size w w' := by
  have HT : Hid (DTabs w) := ht
  clear ht
  by_cases h : a0 < 0 ∨ 253402300799 < a0
  · have H : Hid (a0 < 0 ∨ 253402300799 < a0) := h
    clear h
    go_enter Tryd.func3, Tryd.ntmps3
    go_wp2_with fail
    refine (dprint_no _ _ H.out).mono ?_
    rintro e w ⟨rfl, rfl⟩
    go_wp2_with fail
    refine (rdprint_no _ _ H.out).mono ?_
    rintro e w ⟨rfl, rfl⟩
    go_wp2_with fail
    go_ret
    exact ⟨ret_bool (by simp), Below.refl _ _⟩
  · have h1 : 0 ≤ a0 := by omega
    have h2 : a0 ≤ 253402300799 := by omega
    clear h
    go_enter Tryd.func3, Tryd.ntmps3
    go_wp2_with fail
    refine (dprint_yes _ _ h1 h2 HT.out).mono ?_
    rintro e w1 ⟨y, m, d, rfl, hv, hn, hb1⟩
    obtain ⟨a, ha⟩ : ∃ a : ByteArray, a = ⟨(dtext a0 y m d).toArray⟩ := ⟨_, rfl⟩
    rw [← ha]
    have HA : Hid (a = ⟨(dtext a0 y m d).toArray⟩) := ha
    have HV : Hid (vldB y m d = true) := hv
    have HN : Hid (num y m d = a0 / 86400) := hn
    have HB : Hid (Below w.heap.size w w1) := hb1
    clear hv hn ha hb1
    go_wp2_with fail
    refine (rdprint_yes _ _ h1 h2).mono ?_
    rintro e w2 ⟨z, k, c, rfl, hv, hn, hb2⟩
    rw [← dt_text HV.out HN.out hv hn, ← HA.out]
    have HB2 : Hid (Below w.heap.size w w2) := HB.out.trans (hb2.mono HB.out.size)
    clear hv hn hb2 HB HA
    go_wp2_with fail
    go_ret
    exact ⟨ret_bool (by simp), HB2.out⟩
end Go.Proofs.YthbbfkbcanjfaaaDoor
