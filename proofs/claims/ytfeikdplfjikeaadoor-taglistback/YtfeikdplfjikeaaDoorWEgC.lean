/-
  What mayStand and check of package etag compute; a text is no longer than Go allows.
-/
import Derived.Test.YtfeikdplfjikeaaDoorSpecEp
import Derived.Test.YtfeikdplfjikeaaDoorShelf
import Derived.Test.YtfeikdplfjikeaaDoorRows
import Derived.Handy
namespace Go.Proofs.YtfeikdplfjikeaaDoor
open Go.RowKit

theorem etB_iff (c : UInt8) : etB c = decide (33 ≤ (c.toNat : Int) ∧ (c.toNat : Int) ≤ 126 ∧ (c.toNat : Int) ≠ 34) := by
  have := byAll (fun c => decide (etB c = decide (33 ≤ (c.toNat : Int) ∧ (c.toNat : Int) ≤ 126 ∧ (c.toNat : Int) ≠ 34))) (by decide +kernel) c
  exact of_decide_eq_true this
set_option maxHeartbeats 400000 in
set_option maxRecDepth 100000 in
theorem emay_any (c : UInt8) (w : World) :
    Calls Tryd.prog 25 #[.int .u8 (c.toNat : Int)] w fun e w' => e = .returned (.bool (etB c)) ∧ w' = w := by
  have hlt : (c.toNat : Int) < 256 := by have := c.toNat_lt; omega
  rw [etB_iff]
  rcases (show (c.toNat : Int) < 33 ∨ (c.toNat : Int) = 33 ∨ (c.toNat : Int) = 34 ∨ (35 ≤ (c.toNat : Int) ∧ (c.toNat : Int) ≤ 126) ∨ 127 ≤ (c.toNat : Int) from by omega) with h | h | h | ⟨h, h'⟩ | h
  · rw [decide_eq_false (by omega)]
    go_enter Tryd.func25, Tryd.ntmps25
    go_wp2
    go_ret
    exact ⟨ret_bool (by simp; try omega), rfl⟩
  · rw [decide_eq_true (by omega)]
    go_enter Tryd.func25, Tryd.ntmps25
    go_wp2
    go_ret
    exact ⟨ret_bool (by simp; try omega), rfl⟩
  · rw [decide_eq_false (by omega)]
    go_enter Tryd.func25, Tryd.ntmps25
    go_wp2
    go_ret
    exact ⟨ret_bool (by simp; try omega), rfl⟩
  · rw [decide_eq_true (by omega)]
    have hn : ¬ (c.toNat : Int) = 34 := by omega
    go_enter Tryd.func25, Tryd.ntmps25
    go_wp2
    go_ret
    exact ⟨ret_bool (by simp; try omega), rfl⟩
  · rw [decide_eq_false (by omega)]
    go_enter Tryd.func25, Tryd.ntmps25
    go_wp2
    go_ret
    exact ⟨ret_bool (by simp; try omega), rfl⟩
set_option maxHeartbeats 1000000 in
set_option maxRecDepth 100000 in
theorem echeck_any (s : ByteArray) (w : World) :
    Calls Tryd.prog 15 #[.string s] w fun e w' => e = .returned (.int .i64 (chE s.data.toList)) ∧ w' = w := by
  by_cases hs : s.size ≤ 100
  · have hsi : ¬ (100 : Int) < (s.size : Int) := by omega
    have HL : Hid (chE s.data.toList = if s.data.toList.all etB = true then 0 else 3) := by
      show _ = _
      unfold chE; rw [if_neg (by rw [size_list]; omega)]
    go_enter Tryd.func15, Tryd.ntmps15
    go_wp2_with fail
    go_loop [9] (fun i => ∃ k : Nat, k ≤ s.size ∧ i = .int .i64 k ∧ (s.data.toList.take k).all etB = true) (fun i => s.size - (intOf i).toNat)
    case atStart => exact ⟨0, Nat.zero_le _, rfl, rfl⟩
    case round =>
      obtain ⟨k, hk, rfl, hall⟩ := hrel
      have HA : Hid ((s.data.toList.take k).all etB = true) := hall
      clear hall
      by_cases hlt : k < s.size
      · cases ht : etB s[k]
        · have HT : Hid (etB s[k] = false) := ht
          clear ht
          go_wp2_with fail
          refine (emay_any _ _).mono ?_
          rintro e w' ⟨rfl, rfl⟩
          rw [HT.out]
          go_wp2_with fail
          go_ret
          refine ⟨?_, rfl⟩
          rw [HL.out, all_false s etB k hlt HT.out]; rfl
        · have HT : Hid (etB s[k] = true) := ht
          clear ht
          go_wp2_with fail
          refine (emay_any _ _).mono ?_
          rintro e w' ⟨rfl, rfl⟩
          rw [HT.out]
          go_wp2_with fail
          go_round
          case rel => exact ⟨k + 1, by omega, by go_num, by rw [take_snoc s k hlt, List.all_append, HA.out, Bool.true_and, List.all_cons, HT.out]; rfl⟩
          case measure => simp [intOf]; omega
      · obtain rfl : k = s.size := by omega
        go_wp2_with fail
        go_ret
        have h := HA.out
        rw [take_all] at h
        refine ⟨?_, rfl⟩
        rw [HL.out, h]; rfl
  · have hsi : (100 : Int) < (s.size : Int) := by omega
    have HL : Hid (chE s.data.toList = 2) := by
      show _ = _
      unfold chE; rw [if_pos (by rw [size_list]; omega)]
    go_enter Tryd.func15, Tryd.ntmps15
    go_wp2_with fail
    go_ret
    rw [HL.out]
    exact ⟨rfl, rfl⟩
theorem echeck_is (s : ByteArray) (c : Int) (h : chE s.data.toList = c) (w : World) :
    Calls Tryd.prog 15 #[.string s] w fun e w' => e = .returned (.int .i64 c) ∧ w' = w := by
  rw [← h]; exact echeck_any s w
end Go.Proofs.YtfeikdplfjikeaaDoor
