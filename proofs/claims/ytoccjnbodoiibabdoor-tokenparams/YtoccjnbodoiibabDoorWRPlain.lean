/-
  What the functions plain and outside of the document's answers compute; a string is no longer than Go allows.
-/
import Derived.Test.YtoccjnbodoiibabDoorSpecQ
import Derived.Test.YtoccjnbodoiibabDoorWROut
import Derived.Test.YtoccjnbodoiibabDoorShelf
import Derived.Test.YtoccjnbodoiibabDoorRows
namespace Go.Proofs.YtoccjnbodoiibabDoor
open Go.RowKit

set_option maxHeartbeats 400000 in
set_option maxRecDepth 100000 in
theorem rplain_any (s : ByteArray) (w : World) (hs : s.size ≤ maxLen) :
    Calls Tryd.prog 32 #[.string s] w fun e w' => e = .returned (.bool (allPlain s.data.toList)) ∧ w' = w := by
  unfold maxLen at hs
  go_enter Tryd.func32, Tryd.ntmps32
  go_wp2_with fail
  go_loop [6] (fun i => ∃ k : Nat, k ≤ s.size ∧ i = .int .i64 k ∧ allPlain (s.data.toList.take k) = true) (fun i => s.size - (intOf i).toNat)
  case atStart => exact ⟨0, Nat.zero_le _, rfl, rfl⟩
  case round =>
    obtain ⟨k, hk, rfl, hall⟩ := hrel
    have HA : Hid (allPlain (s.data.toList.take k) = true) := hall
    clear hall
    by_cases hlt : k < s.size
    · have hc1 : (s[k].toNat : Int) < 256 := by have := s[k].toNat_lt; omega
      by_cases h9 : (s[k].toNat : Int) = 9
      · have hd : ((s[k].toNat : Int) != 9) = false := by simp [h9]
        have HP : Hid (plainB s[k] = true) := by show plainB s[k] = true; rw [plainB_iff]; simp [h9]
        clear h9
        go_wp2_with fail
        go_round
        case rel => exact ⟨k + 1, by omega, by go_num, by rw [take_snoc s k hlt]; exact allPlain_snoc _ _ HA.out HP.out⟩
        case measure => simp [intOf]; omega
      · have hd : ((s[k].toNat : Int) != 9) = true := by simp [h9]
        by_cases ho : (s[k].toNat : Int) < 32 ∨ 126 < (s[k].toNat : Int)
        · have HP : Hid (plainB s[k] = false) := by show plainB s[k] = false; rw [plainB_iff, decide_eq_false]; omega
          have HO : Hid ((s[k].toNat : Int) < 32 ∨ 126 < (s[k].toNat : Int)) := ho
          clear h9 ho
          go_wp2_with fail
          refine (outside_any _ _ _ _).mono ?_
          rintro e w' ⟨rfl, rfl⟩
          rw [decide_eq_true HO.out]
          go_wp2_with fail
          go_ret
          exact ⟨ret_bool (allPlain_dead s k hlt HP.out).symm, rfl⟩
        · have HP : Hid (plainB s[k] = true) := by show plainB s[k] = true; rw [plainB_iff, decide_eq_true]; omega
          have HO : Hid (¬ ((s[k].toNat : Int) < 32 ∨ 126 < (s[k].toNat : Int))) := ho
          clear h9 ho
          go_wp2_with fail
          refine (outside_any _ _ _ _).mono ?_
          rintro e w' ⟨rfl, rfl⟩
          rw [decide_eq_false HO.out]
          go_wp2_with fail
          go_round
          case rel => exact ⟨k + 1, by omega, by go_num, by rw [take_snoc s k hlt]; exact allPlain_snoc _ _ HA.out HP.out⟩
          case measure => simp [intOf]; omega
    · obtain rfl : k = s.size := by omega
      go_wp2_with fail
      go_ret
      have h := HA.out
      rw [take_all] at h
      exact ⟨ret_bool h.symm, rfl⟩
end Go.Proofs.YtoccjnbodoiibabDoor
