/-
  The walk through DateBack: it answers true, whatever number and text come in; the tables that Print and Parse read hold what the program's text lays there.
-/
import Derived.Test.YthbbfkbcanjfaaaDoorWDParse
namespace Go.Proofs.YthbbfkbcanjfaaaDoor
open Go.RowKit

theorem PR_dt {l : List UInt8} {n c k : Int} (h : PR l n c) (h' : IsDT l k) : c = 0 ∧ n = k := by
  rcases h with ⟨rfl, h⟩ | ⟨rfl, rfl, h⟩
  · exact ⟨rfl, dt_inj h h'⟩
  · exact absurd h' (h _)

set_option maxHeartbeats 1000000 in
set_option maxRecDepth 100000 in
theorem walkDateBack (a0 : Int) (a1 : ByteArray) (w : World) (_ : (Lit.int .i64 a0).wf = true) (_ : a1.size ≤ 140737488351232) (ht : DTabs w) :
    Calls Tryd.prog 5 #[.int .i64 a0, .string a1] w fun e w' => e = .returned (.bool true) ∧ Below w.heap.size w w' := by
  have HT : Hid (DTabs w) := ht
  clear ht
  by_cases h : a0 < 0 ∨ 253402300799 < a0
  · have H : Hid (a0 < 0 ∨ 253402300799 < a0) := h
    clear h
    go_enter Tryd.func5, Tryd.ntmps5
    go_wp2_with fail
    refine (dprint_no _ _ H.out).mono ?_
    rintro e w ⟨rfl, rfl⟩
    go_wp2_with fail
    refine (dparse_any _ _ HT.out).mono ?_
    rintro e w1 ⟨m, c, rfl, hp, hb⟩
    have HB : Hid (Below w.heap.size w w1) := hb
    clear hb
    rcases hp with ⟨rfl, hd⟩ | ⟨rfl, rfl, hd⟩
    · have HD : Hid (IsDT a1.data.toList m) := hd
      clear hd
      go_wp2_with fail
      refine (dprint_yes _ _ HD.out.1 HD.out.2.1 (HT.out.below HB.out)).mono ?_
      rintro e w2 ⟨y, k, d, rfl, hv, hn, hb⟩
      have HB2 : Hid (Below w.heap.size w w2) := HB.out.trans (hb.mono HB.out.size)
      obtain ⟨a, ha⟩ : ∃ a : ByteArray, a = ⟨(dtext m y k d).toArray⟩ := ⟨_, rfl⟩
      rw [← ha]
      have he : a = a1 := ByteArray.ext (Array.toList_inj.1 (dt_same (n := m) ⟨HD.out.1, HD.out.2.1, y, k, d, hv, hn, by rw [ha]⟩ HD.out))
      subst he
      clear hv hn hb ha HB
      rcases H.out with h | h
      · have hd : decide (a0 < 0) = true := decide_eq_true h
        go_wp2_with fail
        go_ret
        exact ⟨ret_bool (by simp), HB2.out⟩
      · have hd : decide (a0 < 0) = false := decide_eq_false (by omega)
        go_wp2_with fail
        go_ret
        exact ⟨ret_bool (by simp), HB2.out⟩
    · clear hd
      rcases H.out with h | h
      · have hd : decide (a0 < 0) = true := decide_eq_true h
        go_wp2_with fail
        go_ret
        exact ⟨ret_bool (by simp), HB.out⟩
      · have hd : decide (a0 < 0) = false := decide_eq_false (by omega)
        go_wp2_with fail
        go_ret
        exact ⟨ret_bool (by simp), HB.out⟩
  · have h1 : 0 ≤ a0 := by omega
    have h2 : a0 ≤ 253402300799 := by omega
    clear h
    go_enter Tryd.func5, Tryd.ntmps5
    go_wp2_with fail
    refine (dprint_yes _ _ h1 h2 HT.out).mono ?_
    rintro e w1 ⟨y, m, d, rfl, hv, hn, hb1⟩
    obtain ⟨t, ha⟩ : ∃ a : ByteArray, a = ⟨(dtext a0 y m d).toArray⟩ := ⟨_, rfl⟩
    rw [← ha]
    have HD : Hid (IsDT t.data.toList a0) := ⟨h1, h2, y, m, d, hv, hn, by rw [ha]⟩
    have hz : t.size = 29 := by rw [← size_list, dt_len HD.out]
    have HB1 : Hid (Below w.heap.size w w1) := hb1
    clear hv hn ha hb1
    go_wp2_with fail
    refine (dparse_any _ _ (HT.out.below HB1.out)).mono ?_
    rintro e w2 ⟨m, c, rfl, hp, hb⟩
    have HB : Hid (Below w.heap.size w w2) := HB1.out.trans (hb.mono HB1.out.size)
    clear hb HB1
    rcases hp with ⟨rfl, hd⟩ | ⟨rfl, rfl, hd⟩
    · have HE : Hid (IsDT a1.data.toList m) := hd
      clear hd
      go_wp2_with fail
      refine (dprint_yes _ _ HE.out.1 HE.out.2.1 (HT.out.below HB.out)).mono ?_
      rintro e w3 ⟨y, k, d, rfl, hv, hn, hb⟩
      have HB2 : Hid (Below w.heap.size w w3) := HB.out.trans (hb.mono HB.out.size)
      obtain ⟨a, ha⟩ : ∃ a : ByteArray, a = ⟨(dtext m y k d).toArray⟩ := ⟨_, rfl⟩
      rw [← ha]
      have he : a = a1 := ByteArray.ext (Array.toList_inj.1 (dt_same (n := m) ⟨HE.out.1, HE.out.2.1, y, k, d, hv, hn, by rw [ha]⟩ HE.out))
      subst he
      clear hv hn hb ha HB
      go_wp2_with fail
      refine (dparse_any _ _ (HT.out.below HB2.out)).mono ?_
      rintro e w4 ⟨x, c, rfl, hp, hb⟩
      have HB3 : Hid (Below w.heap.size w w4) := HB2.out.trans (hb.mono HB2.out.size)
      obtain ⟨rfl, rfl⟩ := PR_dt hp HD.out
      clear hp hb HB2
      go_wp2_with fail
      go_ret
      exact ⟨ret_bool (by simp), HB3.out⟩
    · clear hd
      go_wp2_with fail
      refine (dparse_any _ _ (HT.out.below HB.out)).mono ?_
      rintro e w4 ⟨x, c, rfl, hp, hb⟩
      have HB3 : Hid (Below w.heap.size w w4) := HB.out.trans (hb.mono HB.out.size)
      obtain ⟨rfl, rfl⟩ := PR_dt hp HD.out
      clear hp hb HB
      go_wp2_with fail
      go_ret
      exact ⟨ret_bool (by simp), HB3.out⟩
end Go.Proofs.YthbbfkbcanjfaaaDoor
