/-
  What allOf of the document's answers computes; no condition but that a string is no longer than Go allows.
-/
import Derived.Test.YtoccjnbodoiibabDoorSpec
import Derived.Test.YtoccjnbodoiibabDoorShelf
namespace Go.Proofs.YtoccjnbodoiibabDoor
open Go.RowKit

set_option maxHeartbeats 400000 in
set_option maxRecDepth 100000 in
theorem allOf_any (s f : ByteArray) (w : World) (hs : s.size ≤ maxLen) :
    Calls Tryd.prog 31 #[.string s, .string f] w fun e w' => e = .returned (.bool (allIn f.data.toList s.data.toList)) ∧ w' = w := by
  unfold maxLen at hs
  go_enter Tryd.func31, Tryd.ntmps31
  go_wp2_with fail
  go_loop [8] (fun i => ∃ k : Nat, k ≤ s.size ∧ i = .int .i64 k ∧ allIn f.data.toList (s.data.toList.take k) = true) (fun i => s.size - (intOf i).toNat)
  case atStart => exact ⟨0, Nat.zero_le _, rfl, rfl⟩
  case round =>
    obtain ⟨k, hk, rfl, hall⟩ := hrel
    have HA : Hid (allIn f.data.toList (s.data.toList.take k) = true) := hall
    clear hall
    by_cases hlt : k < s.size
    · cases ht : f.data.toList.contains s[k]
      · have HT : Hid (f.data.toList.contains s[k] = false) := ht
        clear ht
        go_wp2_with fail
        rw [extract_one s k hlt]
        refine (Tryd.strings_Contains_one _ _ _).mono ?_
        rintro e w' ⟨rfl, rfl⟩
        rw [← Lib.contains_iff_indexByte, HT.out]
        go_wp2_with fail
        go_ret
        refine ⟨ret_bool ?_, rfl⟩
        rw [allIn, all_false s (fun c => f.data.toList.contains c) k hlt HT.out]
      · have HT : Hid (f.data.toList.contains s[k] = true) := ht
        clear ht
        go_wp2_with fail
        rw [extract_one s k hlt]
        refine (Tryd.strings_Contains_one _ _ _).mono ?_
        rintro e w' ⟨rfl, rfl⟩
        rw [← Lib.contains_iff_indexByte, HT.out]
        go_wp2_with fail
        go_round
        case rel => exact ⟨k + 1, by omega, by go_num, by rw [take_snoc s k hlt, allIn, List.all_append, List.all_cons, HT.out, Bool.true_and, List.all_nil, Bool.and_true]; exact HA.out⟩
        case measure => simp [intOf]; omega
    · obtain rfl : k = s.size := by omega
      go_wp2_with fail
      go_ret
      refine ⟨ret_bool ?_, rfl⟩
      have h := HA.out
      rw [take_all] at h
      rw [h]
end Go.Proofs.YtoccjnbodoiibabDoor
