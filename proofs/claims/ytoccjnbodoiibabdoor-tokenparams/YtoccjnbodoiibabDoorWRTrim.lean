/-
  What Trim of the document's answers computes, by recursion on the text's length; a text is no longer than Go allows.
-/
import Derived.Test.YtoccjnbodoiibabDoorSpecT
import Derived.Test.YtoccjnbodoiibabDoorShelf
import Derived.Test.YtoccjnbodoiibabDoorRows
namespace Go.Proofs.YtoccjnbodoiibabDoor
open Go.RowKit

theorem drop_data (s : ByteArray) : (s.extract 1 s.size).data.toList = s.data.toList.drop 1 := by
  rw [Lib.extract_data, List.take_of_length_le (by rw [List.length_drop, size_list]; omega)]
theorem take_data (s : ByteArray) : (s.extract 0 (s.size - 1)).data.toList = s.data.toList.take (s.data.toList.length - 1) := by
  rw [Lib.extract_data, List.drop_zero, size_list]; rfl

set_option maxHeartbeats 2000000 in
set_option maxRecDepth 100000 in
theorem rtrim_at (n : Nat) : ∀ (s t : ByteArray) (w : World), s.size ≤ n → n ≤ 9223372036854775807 → t.data.toList = trimL s.data.toList →
    Calls Tryd.prog 29 #[.string s] w fun e w' => e = .returned (.string t) ∧ Below w.heap.size w w' := by
  induction n using Nat.strongRecOn with
  | _ n ih =>
    intro s t w hn hN ht
    have IH : Hid (∀ m, m < n → ∀ (s t : ByteArray) (w : World), s.size ≤ m → m ≤ 9223372036854775807 → t.data.toList = trimL s.data.toList → Calls Tryd.prog 29 #[.string s] w fun e w' => e = .returned (.string t) ∧ Below w.heap.size w w') :=
      ih
    clear ih
    have HT : Hid (t.data.toList = trimL s.data.toList) := ht
    clear ht
    go_enter Tryd.func29, Tryd.ntmps29
    go_wp2_with fail
    go_loop [7] (fun i => ∃ k : Nat, k ≤ 2 ∧ i = .int .i64 k ∧ (1 ≤ k → Lib.hasPrefix s.data.toList [32] = false ∧ Lib.hasSuffix s.data.toList [32] = false) ∧ (2 ≤ k → Lib.hasPrefix s.data.toList [9] = false ∧ Lib.hasSuffix s.data.toList [9] = false)) (fun i => 2 - (intOf i).toNat)
    case atStart => exact ⟨0, by omega, rfl, fun h => absurd h (by omega), fun h => absurd h (by omega)⟩
    case round =>
      obtain ⟨k, hk, rfl, h1, h2⟩ := hrel
      have HH1 : Hid (1 ≤ k → Lib.hasPrefix s.data.toList [32] = false ∧ Lib.hasSuffix s.data.toList [32] = false) := h1
      have HH2 : Hid (2 ≤ k → Lib.hasPrefix s.data.toList [9] = false ∧ Lib.hasSuffix s.data.toList [9] = false) := h2
      clear h1 h2
      rcases (show k = 0 ∨ k = 1 ∨ k = 2 from by omega) with rfl | rfl | rfl
      · cases hp : Lib.hasPrefix s.data.toList [32]
        · cases hq : Lib.hasSuffix s.data.toList [32]
          · have HP : Hid (Lib.hasPrefix s.data.toList [32] = false) := hp
            have HQ : Hid (Lib.hasSuffix s.data.toList [32] = false) := hq
            clear hp hq
            go_wp2_with fail
            refine (Tryd.strings_HasPrefix s ⟨#[32]⟩ _).mono ?_
            rintro e w1 ⟨rfl, rfl⟩
            rw [show Lib.hasPrefix s.data.toList (⟨#[32]⟩ : ByteArray).data.toList = false from HP.out]
            go_wp2_with fail
            refine (Tryd.strings_HasSuffix s ⟨#[32]⟩ _ (by omega)).mono ?_
            rintro e w1 ⟨rfl, rfl⟩
            rw [show Lib.hasSuffix s.data.toList (⟨#[32]⟩ : ByteArray).data.toList = false from HQ.out]
            go_wp2_with fail
            go_round
            case rel => exact ⟨1, by omega, rfl, fun _ => by first | exact ⟨HP.out, HQ.out⟩ | simp, fun h => absurd h (by omega)⟩
            case measure => simp [intOf]
          · obtain ⟨e1, e2⟩ := trimL_suf _ 32 rfl hq
            rw [size_list] at e2
            have HP : Hid (Lib.hasPrefix s.data.toList [32] = false) := hp
            have HQ : Hid (Lib.hasSuffix s.data.toList [32] = true) := hq
            have HR : Hid (t.data.toList = trimL (s.extract 0 (s.size - 1)).data.toList) := by show _ = _; rw [take_data, e1]; exact HT.out
            have hz : (s.extract 0 (s.size - 1)).size ≤ n - 1 := by rw [ByteArray.size_extract]; omega
            clear hp hq e1
            go_wp2_with fail
            refine (Tryd.strings_HasPrefix s ⟨#[32]⟩ _).mono ?_
            rintro e w1 ⟨rfl, rfl⟩
            rw [show Lib.hasPrefix s.data.toList (⟨#[32]⟩ : ByteArray).data.toList = false from HP.out]
            go_wp2_with fail
            refine (Tryd.strings_HasSuffix s ⟨#[32]⟩ _ (by omega)).mono ?_
            rintro e w1 ⟨rfl, rfl⟩
            rw [show Lib.hasSuffix s.data.toList (⟨#[32]⟩ : ByteArray).data.toList = true from HQ.out]
            go_wp2_with fail
            refine (IH.out (n - 1) (by omega) _ t _ hz (by omega) HR.out).mono ?_
            rintro e w2 ⟨rfl, hb⟩
            go_wp2_with fail
            go_ret
            exact ⟨rfl, ((Below.refl _ w).alloc (Nat.le_refl _) _).trans (hb.mono (by simp))⟩
        · obtain ⟨e1, e2⟩ := trimL_pre _ 32 rfl hp
          rw [size_list] at e2
          have HP : Hid (Lib.hasPrefix s.data.toList [32] = true) := hp
          have HR : Hid (t.data.toList = trimL (s.extract 1 s.size).data.toList) := by show _ = _; rw [drop_data, e1]; exact HT.out
          have hz : (s.extract 1 s.size).size ≤ n - 1 := by rw [ByteArray.size_extract]; omega
          clear hp e1
          go_wp2_with fail
          refine (Tryd.strings_HasPrefix s ⟨#[32]⟩ _).mono ?_
          rintro e w1 ⟨rfl, rfl⟩
          rw [show Lib.hasPrefix s.data.toList (⟨#[32]⟩ : ByteArray).data.toList = true from HP.out]
          go_wp2_with fail
          refine (IH.out (n - 1) (by omega) _ t _ hz (by omega) HR.out).mono ?_
          rintro e w2 ⟨rfl, hb⟩
          go_wp2_with fail
          go_ret
          exact ⟨rfl, ((Below.refl _ w).alloc (Nat.le_refl _) _).trans (hb.mono (by simp))⟩
      · cases hp : Lib.hasPrefix s.data.toList [9]
        · cases hq : Lib.hasSuffix s.data.toList [9]
          · have HP : Hid (Lib.hasPrefix s.data.toList [9] = false) := hp
            have HQ : Hid (Lib.hasSuffix s.data.toList [9] = false) := hq
            clear hp hq
            go_wp2_with fail
            refine (Tryd.strings_HasPrefix s ⟨#[9]⟩ _).mono ?_
            rintro e w1 ⟨rfl, rfl⟩
            rw [show Lib.hasPrefix s.data.toList (⟨#[9]⟩ : ByteArray).data.toList = false from HP.out]
            go_wp2_with fail
            refine (Tryd.strings_HasSuffix s ⟨#[9]⟩ _ (by omega)).mono ?_
            rintro e w1 ⟨rfl, rfl⟩
            rw [show Lib.hasSuffix s.data.toList (⟨#[9]⟩ : ByteArray).data.toList = false from HQ.out]
            go_wp2_with fail
            go_round
            case rel => exact ⟨2, by omega, rfl, fun _ => HH1.out (by omega), fun _ => by first | exact ⟨HP.out, HQ.out⟩ | simp⟩
            case measure => simp [intOf]
          · obtain ⟨e1, e2⟩ := trimL_suf _ 9 rfl hq
            rw [size_list] at e2
            have HP : Hid (Lib.hasPrefix s.data.toList [9] = false) := hp
            have HQ : Hid (Lib.hasSuffix s.data.toList [9] = true) := hq
            have HR : Hid (t.data.toList = trimL (s.extract 0 (s.size - 1)).data.toList) := by show _ = _; rw [take_data, e1]; exact HT.out
            have hz : (s.extract 0 (s.size - 1)).size ≤ n - 1 := by rw [ByteArray.size_extract]; omega
            clear hp hq e1
            go_wp2_with fail
            refine (Tryd.strings_HasPrefix s ⟨#[9]⟩ _).mono ?_
            rintro e w1 ⟨rfl, rfl⟩
            rw [show Lib.hasPrefix s.data.toList (⟨#[9]⟩ : ByteArray).data.toList = false from HP.out]
            go_wp2_with fail
            refine (Tryd.strings_HasSuffix s ⟨#[9]⟩ _ (by omega)).mono ?_
            rintro e w1 ⟨rfl, rfl⟩
            rw [show Lib.hasSuffix s.data.toList (⟨#[9]⟩ : ByteArray).data.toList = true from HQ.out]
            go_wp2_with fail
            refine (IH.out (n - 1) (by omega) _ t _ hz (by omega) HR.out).mono ?_
            rintro e w2 ⟨rfl, hb⟩
            go_wp2_with fail
            go_ret
            exact ⟨rfl, ((Below.refl _ w).alloc (Nat.le_refl _) _).trans (hb.mono (by simp))⟩
        · obtain ⟨e1, e2⟩ := trimL_pre _ 9 rfl hp
          rw [size_list] at e2
          have HP : Hid (Lib.hasPrefix s.data.toList [9] = true) := hp
          have HR : Hid (t.data.toList = trimL (s.extract 1 s.size).data.toList) := by show _ = _; rw [drop_data, e1]; exact HT.out
          have hz : (s.extract 1 s.size).size ≤ n - 1 := by rw [ByteArray.size_extract]; omega
          clear hp e1
          go_wp2_with fail
          refine (Tryd.strings_HasPrefix s ⟨#[9]⟩ _).mono ?_
          rintro e w1 ⟨rfl, rfl⟩
          rw [show Lib.hasPrefix s.data.toList (⟨#[9]⟩ : ByteArray).data.toList = true from HP.out]
          go_wp2_with fail
          refine (IH.out (n - 1) (by omega) _ t _ hz (by omega) HR.out).mono ?_
          rintro e w2 ⟨rfl, hb⟩
          go_wp2_with fail
          go_ret
          exact ⟨rfl, ((Below.refl _ w).alloc (Nat.le_refl _) _).trans (hb.mono (by simp))⟩
      · go_wp2_with fail
        go_ret
        obtain ⟨p1, p2⟩ := HH1.out (by omega)
        obtain ⟨p3, p4⟩ := HH2.out (by omega)
        refine ⟨ret_str ?_, (Below.refl _ w).alloc (Nat.le_refl _) _⟩
        apply ByteArray.ext
        apply Array.ext'
        rw [HT.out, trimL_none _ p1 p2 p3 p4]
end Go.Proofs.YtoccjnbodoiibabDoor
