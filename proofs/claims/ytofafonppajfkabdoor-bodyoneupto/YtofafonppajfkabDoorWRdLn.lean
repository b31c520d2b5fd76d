/-
  What readLength and neverHasBody of package body compute; a text has at most 100000 bytes, and the listed variables of package strconv hold what their text lays.
-/
import Derived.Test.YtofafonppajfkabDoorSpecKd
import Derived.Test.YtofafonppajfkabDoorSpecF
import Derived.Test.YtofafonppajfkabDoorWSTabs
import Derived.Test.YtofafonppajfkabDoorWCutT
import Derived.Lib.AtoiErrMem
namespace Go.Proofs.YtofafonppajfkabDoor
open Go.RowKit

theorem eq_bool (a b : ByteArray) (l : List UInt8) (hb : b.data.toList = l) : (a.toList == b.toList) = (a.data.toList == l) := by
  rw [ByteArray.toList_eq, ByteArray.toList_eq, hb]

set_option maxRecDepth 100000 in
theorem neverHas_any (m : ByteArray) (c : Int) (w : World) :
    Calls Tryd.prog 16 #[.string m, .int .i64 c] w fun e w' => e = .returned (.bool (never m.data.toList c)) ∧ w' = w := by
  have he : (m.toList == [72, 69, 65, 68]) = (m.data.toList == headM) := by rw [ByteArray.toList_eq]; rfl
  cases h1 : m.data.toList == headM
  · rw [h1] at he
    have HN : Hid (never m.data.toList c = (decide (c < 200) || decide (c = 204) || decide (c = 304))) := by show _ = _; unfold never; rw [h1, Bool.false_or]
    clear h1
    rcases (show c < 200 ∨ (200 ≤ c ∧ c = 204) ∨ (200 ≤ c ∧ c ≠ 204 ∧ c = 304) ∨ (200 ≤ c ∧ c ≠ 204 ∧ c ≠ 304) by omega) with h | ⟨h, h'⟩ | ⟨h, h', h''⟩ | ⟨h, h', h''⟩
    all_goals
      go_enter Tryd.func16, Tryd.ntmps16
      go_wp2
      go_ret
      refine ⟨ret_bool ?_, rfl⟩
      rw [HN.out, Bool.eq_iff_iff]
      first | (simp; done) | (simp; omega) | (simp_all; done)
  · rw [h1] at he
    have HN : Hid (never m.data.toList c = true) := by show _ = _; unfold never; rw [h1]; rfl
    clear h1
    go_enter Tryd.func16, Tryd.ntmps16
    go_wp2
    go_ret
    refine ⟨ret_bool ?_, rfl⟩
    rw [HN.out]

theorem grow_belowK (w : World) (k : Nat) (os : Array Obj) : Below w.heap.size w (Sort.grow (w.drewN k) os) := by
  have h1 := drewN_below w.heap.size w k
  refine ⟨h1.os, h1.tape, h1.output, ?_, fun j hj => ?_⟩
  · rw [Sort.size_grow]; have := h1.size; omega
  · rw [Sort.heap_grow_old _ _ (by have := h1.size; omega)]
    exact h1.block j hj
theorem itoaK_at (n : Int) (t : ByteArray) (h1 : 0 ≤ n) (h2 : n ≤ 9223372036854775807) (ht : t.data.toList = Lib.itoa n) (w : World) (hT : STabs w) :
    Calls Tryd.prog 47 #[.int .i64 n] w fun e w' => e = .returned (.string t) ∧ Below w.heap.size w w' := by
  refine (Tryd.strconv_Itoa n (by omega) (by omega) w hT.pow).mono ?_
  rintro e w' ⟨rfl, k, os, rfl⟩
  refine ⟨ret_str ?_, grow_belowK w k os⟩
  exact mk_self t _ ht

set_option maxHeartbeats 1000000 in
set_option maxRecDepth 100000 in
theorem readLn_at (s : ByteArray) (v : Int) (b : Bool) (h : rdLn s.data.toList = (v, b)) (w : World) (hs : s.size ≤ 100000) (hT : STabs w) :
    Calls Tryd.prog 32 #[.string s] w fun e w' => e = .returned (.tuple #[.int .i64 v, .bool b]) ∧ Below w.heap.size w w' := by
  have HT : Hid (STabs w) := hT
  clear hT
  unfold rdLn at h
  split at h
  · rename_i u hu
    simp only [Prod.mk.injEq] at h
    obtain ⟨rfl, hb⟩ := h
    have HU : Hid (Lib.atoiAll s.data.toList = .ok u) := hu
    rw [size_list] at hb
    rcases (show u < 0 ∨ (0 ≤ u ∧ (4 : Int) < s.size) ∨ (0 ≤ u ∧ (s.size : Int) ≤ 4) by omega) with h0 | ⟨h0, h4⟩ | ⟨h0, h4⟩
    · rw [decide_eq_false (by omega), Bool.false_and, Bool.false_and] at hb
      subst hb
      clear hu
      go_enter Tryd.func32, Tryd.ntmps32
      go_wp2_with fail
      refine (Tryd.strconv_Atoi_ok s (by omega) u HU.out _).mono ?_
      rintro e w1 ⟨rfl, hw1⟩
      have hb1 : Below w.heap.size w w1 := by
        rcases hw1 with rfl | ⟨t, rfl⟩
        · exact Below.refl _ _
        · exact Lib.bytesWorld_below _ _ _
      clear hw1
      go_wp2_with fail
      go_ret2
      exact ⟨rfl, hb1⟩
    · rw [decide_eq_true h0, decide_eq_false (by omega), Bool.and_false, Bool.false_and] at hb
      subst hb
      clear hu
      go_enter Tryd.func32, Tryd.ntmps32
      go_wp2_with fail
      refine (Tryd.strconv_Atoi_ok s (by omega) u HU.out _).mono ?_
      rintro e w1 ⟨rfl, hw1⟩
      have hb1 : Below w.heap.size w w1 := by
        rcases hw1 with rfl | ⟨t, rfl⟩
        · exact Below.refl _ _
        · exact Lib.bytesWorld_below _ _ _
      clear hw1
      go_wp2_with fail
      go_ret2
      exact ⟨rfl, hb1⟩
    · rw [decide_eq_true h0, decide_eq_true (by omega), Bool.true_and, Bool.true_and] at hb
      obtain ⟨t, ht⟩ : ∃ t : ByteArray, t.data.toList = Lib.itoa u := ⟨⟨(Lib.itoa u).toArray⟩, rfl⟩
      have HD : Hid (t.data.toList = Lib.itoa u) := ht
      have heq : (t.toList == s.toList) = b := by
        rw [← hb, ← ht, ByteArray.toList_eq, ByteArray.toList_eq, Bool.eq_iff_iff]; simp
      have hbd := (Lib.atoiAll_bounds hu).2
      clear hu hb ht
      go_enter Tryd.func32, Tryd.ntmps32
      go_wp2_with fail
      refine (Tryd.strconv_Atoi_ok s (by omega) u HU.out _).mono ?_
      rintro e w1 ⟨rfl, hw1⟩
      have hb1 : Below w.heap.size w w1 := by
        rcases hw1 with rfl | ⟨t, rfl⟩
        · exact Below.refl _ _
        · exact Lib.bytesWorld_below _ _ _
      clear hw1
      go_wp2_with fail
      refine (itoaK_at u t h0 hbd HD.out _ (HT.out.below hb1)).mono ?_
      rintro e w2 ⟨rfl, hb2⟩
      have hb3 := hb1.trans (hb2.mono hb1.size)
      clear hb1 hb2
      go_wp2_with fail
      go_ret2
      exact ⟨rfl, hb3⟩
  · rename_i hu
    simp only [Prod.mk.injEq] at h
    obtain ⟨rfl, rfl⟩ := h
    have HU : Hid (Lib.atoiAll s.data.toList = .«syntax») := hu
    obtain ⟨te, pe, hev⟩ := HT.out.syn
    have HV : Hid (w.cell? ⟨1, 0, none⟩ = some (.iface te pe)) := hev
    clear hu hev
    go_enter Tryd.func32, Tryd.ntmps32
    go_wp2_with fail
    refine (Tryd.strconv_Atoi_syntax s (by omega) HU.out _ _ HV.out (.inr ⟨_, _, rfl⟩)).mono ?_
    rintro e w1 ⟨N, rfl, _, _, hb⟩
    go_wp2_with fail
    go_ret2
    exact ⟨rfl, hb⟩
  · rename_i hu
    simp only [Prod.mk.injEq] at h
    obtain ⟨rfl, rfl⟩ := h
    have HU : Hid (Lib.atoiAll s.data.toList = .range) := hu
    obtain ⟨te, pe, hev⟩ := HT.out.rng
    have HV : Hid (w.cell? ⟨2, 0, none⟩ = some (.iface te pe)) := hev
    clear hu hev
    go_enter Tryd.func32, Tryd.ntmps32
    go_wp2_with fail
    refine (Tryd.strconv_Atoi_range s (by omega) HU.out _ _ HV.out (.inr ⟨_, _, rfl⟩)).mono ?_
    rintro e w1 ⟨N, rfl, _, _, hb⟩
    go_wp2_with fail
    go_ret2
    exact ⟨rfl, hb⟩
end Go.Proofs.YtofafonppajfkabDoor
