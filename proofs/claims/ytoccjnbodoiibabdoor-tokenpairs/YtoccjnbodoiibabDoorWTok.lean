/-
  What IsToken and inToken compute, each a contract over the program's text; no condition but that a string is no longer than Go allows.
-/
import Derived.Test.YtoccjnbodoiibabDoorSpec
import Derived.Test.YtoccjnbodoiibabDoorShelf
import Derived.Test.YtoccjnbodoiibabDoorRows
namespace Go.Proofs.YtoccjnbodoiibabDoor
open Go.RowKit

def signs : List UInt8 := [33, 35, 36, 37, 38, 39, 42, 43, 45, 46, 94, 95, 96, 124, 126]

theorem isTok_a (c : UInt8) (h : 97 ≤ (c.toNat : Int) ∧ (c.toNat : Int) ≤ 122) : isTok c = true := by
  unfold isTok; simp [UInt8.le_iff_toNat_le]; omega
theorem isTok_b (c : UInt8) (h : 65 ≤ (c.toNat : Int) ∧ (c.toNat : Int) ≤ 90) : isTok c = true := by
  unfold isTok; simp [UInt8.le_iff_toNat_le]; omega
theorem isTok_c (c : UInt8) (h : 48 ≤ (c.toNat : Int) ∧ (c.toNat : Int) ≤ 57) : isTok c = true := by
  unfold isTok; simp [UInt8.le_iff_toNat_le]; omega
theorem isTok_d (c : UInt8) (ha : ¬ (97 ≤ (c.toNat : Int) ∧ (c.toNat : Int) ≤ 122)) (hb : ¬ (65 ≤ (c.toNat : Int) ∧ (c.toNat : Int) ≤ 90)) (hc : ¬ (48 ≤ (c.toNat : Int) ∧ (c.toNat : Int) ≤ 57)) :
    isTok c = decide (0 ≤ Lib.indexByte [33, 35, 36, 37, 38, 39, 42, 43, 45, 46, 94, 95, 96, 124, 126] c) := by
  rw [← Lib.contains_iff_indexByte]
  have a : (97 ≤ c && c ≤ 122) = false := by rw [Bool.eq_false_iff]; simp [UInt8.le_iff_toNat_le]; omega
  have b : (65 ≤ c && c ≤ 90) = false := by rw [Bool.eq_false_iff]; simp [UInt8.le_iff_toNat_le]; omega
  have d : (48 ≤ c && c ≤ 57) = false := by rw [Bool.eq_false_iff]; simp [UInt8.le_iff_toNat_le]; omega
  unfold isTok
  rw [a, b, d]; rfl

set_option maxHeartbeats 400000 in
set_option maxRecDepth 100000 in
theorem inToken_any (c : UInt8) (w : World) :
    Calls Tryd.prog 24 #[.int .u8 (c.toNat : Int)] w fun e w' => e = .returned (.bool (isTok c)) ∧ w' = w := by
  have hlt : (c.toNat : Int) < 256 := by have := c.toNat_lt; omega
  have hge : 0 ≤ (c.toNat : Int) := by omega
  rcases (show (c.toNat : Int) < 48 ∨ (48 ≤ (c.toNat : Int) ∧ (c.toNat : Int) ≤ 57) ∨ (58 ≤ (c.toNat : Int) ∧ (c.toNat : Int) ≤ 64) ∨ (65 ≤ (c.toNat : Int) ∧ (c.toNat : Int) ≤ 90) ∨ (91 ≤ (c.toNat : Int) ∧ (c.toNat : Int) ≤ 96) ∨ (97 ≤ (c.toNat : Int) ∧ (c.toNat : Int) ≤ 122) ∨ 123 ≤ (c.toNat : Int) from by omega) with h | ⟨h, h'⟩ | ⟨h, h'⟩ | ⟨h, h'⟩ | ⟨h, h'⟩ | ⟨h, h'⟩ | h
  all_goals first
    | rw [isTok_a c (by omega)]
    | rw [isTok_b c (by omega)]
    | rw [isTok_c c (by omega)]
    | rw [isTok_d c (by omega) (by omega) (by omega)]
  all_goals
    go_enter Tryd.func24, Tryd.ntmps24
    go_wp2_with (go_at_call 33; refine (Tryd.strings_IndexByte _ _ _).mono ?_; rintro e w' ⟨rfl, rfl⟩)
    go_ret
    exact ⟨rfl, rfl⟩

set_option maxHeartbeats 400000 in
set_option maxRecDepth 100000 in
theorem isToken_any (s : ByteArray) (w : World) (hs : s.size ≤ maxLen) :
    Calls Tryd.prog 10 #[.string s] w fun e w' => e = .returned (.bool (token s.data.toList)) ∧ w' = w := by
  unfold maxLen at hs
  go_enter Tryd.func10, Tryd.ntmps10
  go_wp2_with fail
  go_loop [6] (fun i => ∃ k : Nat, k ≤ s.size ∧ i = .int .i64 k ∧ (s.data.toList.take k).all isTok = true) (fun i => s.size - (intOf i).toNat)
  case atStart => exact ⟨0, Nat.zero_le _, rfl, rfl⟩
  case round =>
    obtain ⟨k, hk, rfl, hall⟩ := hrel
    have HA : Hid ((s.data.toList.take k).all isTok = true) := hall
    clear hall
    by_cases hlt : k < s.size
    · cases ht : isTok s[k]
      · have HT : Hid (isTok s[k] = false) := ht
        clear ht
        go_wp2_with fail
        refine (inToken_any _ _).mono ?_
        rintro e w' ⟨rfl, rfl⟩
        rw [HT.out]
        go_wp2_with fail
        go_ret
        refine ⟨ret_bool ?_, rfl⟩
        rw [token, all_false s isTok k hlt HT.out, Bool.and_false]
      · have HT : Hid (isTok s[k] = true) := ht
        clear ht
        go_wp2_with fail
        refine (inToken_any _ _).mono ?_
        rintro e w' ⟨rfl, rfl⟩
        rw [HT.out]
        go_wp2_with fail
        go_round
        case rel => exact ⟨k + 1, by omega, by go_num, by rw [take_snoc s k hlt, List.all_append, HA.out]; simp [HT.out]⟩
        case measure => simp [intOf]; omega
    · obtain rfl : k = s.size := by omega
      go_wp2_with fail
      go_ret
      refine ⟨ret_bool ?_, rfl⟩
      have h := HA.out
      rw [take_all] at h
      rw [token, h, ByteArray.toList_eq, Bool.and_true]
end Go.Proofs.YtoccjnbodoiibabDoor
