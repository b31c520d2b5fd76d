/-
  What count of the document's answers computes, a contract over the program's text; no condition but that a string is no longer than Go allows.
-/
import Derived.Test.YtkmbhgbmdeoppaaDoorMc
import Derived.Test.YtkmbhgbmdeoppaaDoorShelf
import Derived.Test.YtkmbhgbmdeoppaaDoorRows
import Derived.Deep.RegionHeld3
import Derived.Lib.Bytes2
import Derived.BigQuiet
import Derived.Deep.QuietTactic
namespace Go.Proofs.YtkmbhgbmdeoppaaDoor
open Go.RowKit

theorem ret_in {a b : Int} (h : a = b) : Ending.returned (.int .i64 a) = .returned (.int .i64 b) := by rw [h]
theorem head_at (s : ByteArray) (h : 0 < s.size) : s.data.toList.head? = some s[0] := by
  have h' : 0 < s.data.toList.length := by rw [size_list]; exact h
  rw [List.head?_eq_getElem?, List.getElem?_eq_getElem h']
  rfl
theorem numb_18 (l : List UInt8) (h : l.all isDig = true) (hl : l.length ≤ 18) : 0 ≤ numb l ∧ numb l < 1000000000000000000 := by
  obtain ⟨a, b⟩ := numb_dig l h
  refine ⟨a, Int.lt_of_lt_of_le b ?_⟩
  have : (10 : Nat) ^ l.length ≤ 10 ^ 18 := Nat.pow_le_pow_right (by decide) hl
  have e : ((10 : Nat) ^ l.length : Int) = (10 : Int) ^ l.length := rfl
  omega

theorem cnt_no (l : List UInt8) (most : Int) (h : l.length = 0 ∨ 18 < l.length ∨ (1 < l.length ∧ l.head? = some 48) ∨ l.all isDig = false) : cnt l most = -1 := if_pos h
theorem cnt_big (l : List UInt8) (most : Int) (h : most < numb l) : cnt l most = -1 := by
  unfold cnt; split <;> first | rfl | exact if_pos h
theorem cnt_yes (l : List UInt8) (most : Int) (h : ¬ (l.length = 0 ∨ 18 < l.length ∨ (1 < l.length ∧ l.head? = some 48) ∨ l.all isDig = false)) (h' : ¬ most < numb l) : cnt l most = numb l := by
  unfold cnt; rw [if_neg h, if_neg h']

set_option maxHeartbeats 1000000 in
set_option maxRecDepth 100000 in
theorem count_go (s : ByteArray) (most : Int) (w : World) (h0 : s.size ≠ 0) (h18 : s.size ≤ 18) (hh : ¬ (1 < s.size ∧ s.data.toList.head? = some 48)) :
    Calls Tryd.prog 31 #[.string s, .int .i64 most] w fun e w' => e = .returned (.int .i64 (cnt s.data.toList most)) ∧ w' = w := by
  have hp : 0 < s.size := by omega
  have hl : s.data.toList.length = s.size := size_list s
  have HN : Hid (s.data.toList.all isDig = true → ¬ (s.data.toList.length = 0 ∨ 18 < s.data.toList.length ∨ (1 < s.data.toList.length ∧ s.data.toList.head? = some 48) ∨ s.data.toList.all isDig = false)) := by
    intro ha
    rintro (g | g | g | g)
    · omega
    · omega
    · exact hh (by rw [hl] at g; exact g)
    · rw [ha] at g; cases g
  have HF : Hid (s.data.toList.all isDig = false → cnt s.data.toList most = -1) := fun h => cnt_no _ _ (.inr (.inr (.inr h)))
  have he : s.toList.isEmpty = false := by rw [ByteArray.toList_eq, isEmpty_size]; simpa using h0
  have hd : decide (18 < (s.size : Int)) = false := decide_eq_false (by omega)
  have HE : Hid (s.size = 1 ∨ 1 < s.size ∧ s[0] ≠ 48) := by
    by_cases h1 : s.size = 1
    · exact .inl h1
    · exact .inr ⟨by omega, fun h => hh ⟨by omega, by rw [head_at s hp, h]⟩⟩
  clear hl hh
  have two : ∀ b : Bool, decide (1 < (s.size : Int)) = b → (b = true → ((s[0].toNat : Int) == 48) = false) → 
    Calls Tryd.prog 31 #[.string s, .int .i64 most] w fun e w' => e = .returned (.int .i64 (cnt s.data.toList most)) ∧ w' = w := by
    intro b hb hz
    cases b
    all_goals
      first | replace hz := hz rfl | clear hz
      go_enter Tryd.func31, Tryd.ntmps31
      go_wp2_with fail
      go_loop [5, 26] (fun n i => ∃ k : Nat, k ≤ s.size ∧ i = .int .i64 k ∧ n = .int .i64 (numb (s.data.toList.take k)) ∧ (s.data.toList.take k).all isDig = true) (fun _ i => s.size - (intOf i).toNat)
      case atStart => exact ⟨0, Nat.zero_le _, rfl, rfl, rfl⟩
      case round =>
        obtain ⟨k, hk, rfl, rfl, ha⟩ := hrel
        have HA : Hid ((s.data.toList.take k).all isDig = true) := ha
        have hbd := numb_18 _ ha (by rw [List.length_take, size_list]; omega)
        clear ha
        by_cases hlt : k < s.size
        · have HS : Hid (numb (s.data.toList.take (k + 1)) = numb (s.data.toList.take k) * 10 + (s[k].toNat : Int) - 48) := by
            show numb _ = _
            rw [take_snoc s k hlt, numb_snoc]
          have hc := s[k].toNat_lt
          by_cases c1 : (s[k].toNat : Int) < 48
          · have HX : Hid (s.data.toList.all isDig = false) := all_false s isDig k hlt (by
              cases h : isDig s[k]
              · rfl
              · have := (dig_iff _).1 h; omega)
            go_wp2_with fail
            go_ret
            exact ⟨ret_in (HF.out HX.out).symm, rfl⟩
          · by_cases c2 : 57 < (s[k].toNat : Int)
            · have HX : Hid (s.data.toList.all isDig = false) := all_false s isDig k hlt (by
                cases h : isDig s[k]
                · rfl
                · have := (dig_iff _).1 h; omega)
              go_wp2_with fail
              go_ret
              exact ⟨ret_in (HF.out HX.out).symm, rfl⟩
            · have hb2 := numb_18 (s.data.toList.take (k + 1)) (by
                rw [take_snoc s k hlt, List.all_append, HA.out, List.all_cons, (dig_iff _).2 (by omega)]; rfl) (by rw [List.length_take, size_list]; omega)
              rw [HS.out] at hb2
              have c3 : 48 ≤ (s[k].toNat : Int) := by omega
              have c4 : (s[k].toNat : Int) ≤ 57 := by omega
              clear c1 c2
              go_wp2_with fail
              go_round
              case rel => exact ⟨k + 1, by omega, by go_num, by rw [HS.out]; go_num, by rw [take_snoc s k hlt, List.all_append, HA.out, List.all_cons, (dig_iff _).2 (by omega)]; rfl⟩
              case measure => simp [intOf]; omega
        · obtain rfl : k = s.size := by omega
          have HA' : Hid (s.data.toList.all isDig = true) := by have := HA.out; rw [take_all] at this; exact this
          by_cases hm : most < numb (s.data.toList.take s.size)
          · have HM : Hid (most < numb s.data.toList) := by rw [take_all] at hm; exact hm
            go_wp2_with fail
            go_ret
            exact ⟨ret_in (cnt_big _ _ HM.out).symm, rfl⟩
          · have HM : Hid (numb s.data.toList ≤ most) := by rw [take_all] at hm; exact Int.not_lt.1 hm
            go_wp2_with fail
            go_ret
            exact ⟨ret_in (by rw [cnt_yes _ _ (HN.out HA'.out) (Int.not_lt.2 HM.out), take_all]), rfl⟩
  rcases HE.out with h1 | ⟨h1, h2⟩
  · exact two false (decide_eq_false (by omega)) (fun h => by cases h)
  · refine two true (decide_eq_true (by omega)) (fun _ => ?_)
    rw [beq_eq_false_iff_ne]
    intro h
    apply h2
    apply UInt8.toNat_inj.1
    show s[0].toNat = 48
    omega

set_option maxHeartbeats 1000000 in
theorem count_any (s : ByteArray) (most : Int) (w : World) (hs : s.size ≤ maxLen) :
    Calls Tryd.prog 31 #[.string s, .int .i64 most] w fun e w' => e = .returned (.int .i64 (cnt s.data.toList most)) ∧ w' = w := by
  unfold maxLen at hs
  have hl : s.data.toList.length = s.size := size_list s
  by_cases h0 : s.size = 0
  · have HC : Hid (cnt s.data.toList most = -1) := cnt_no _ _ (.inl (by omega))
    have he : s.toList.isEmpty = true := by rw [ByteArray.toList_eq, isEmpty_size]; simpa using h0
    clear hl
    go_enter Tryd.func31, Tryd.ntmps31
    go_wp2_with fail
    go_ret
    exact ⟨ret_in HC.out.symm, rfl⟩
  by_cases h18 : 18 < s.size
  · have HC : Hid (cnt s.data.toList most = -1) := cnt_no _ _ (.inr (.inl (by omega)))
    have he : s.toList.isEmpty = false := by rw [ByteArray.toList_eq, isEmpty_size]; simpa using h0
    have hd : decide (18 < (s.size : Int)) = true := decide_eq_true (by omega)
    clear hl
    go_enter Tryd.func31, Tryd.ntmps31
    go_wp2_with fail
    go_ret
    exact ⟨ret_in HC.out.symm, rfl⟩
  by_cases hh : 1 < s.size ∧ s.data.toList.head? = some 48
  · have HC : Hid (cnt s.data.toList most = -1) := cnt_no _ _ (.inr (.inr (.inl (by rw [hl]; exact hh))))
    have he : s.toList.isEmpty = false := by rw [ByteArray.toList_eq, isEmpty_size]; simpa using h0
    have hd : decide (18 < (s.size : Int)) = false := decide_eq_false (by omega)
    have h1 := hh.1
    have hp : 0 < s.size := by omega
    have hd1 : decide (1 < (s.size : Int)) = true := decide_eq_true (by omega)
    have hz : s[0] = 48 := by have := hh.2; rw [head_at s hp] at this; exact Option.some.inj this
    have hq : ((s[0].toNat : Int) == 48) = true := by rw [hz]; rfl
    clear hl hh hz
    go_enter Tryd.func31, Tryd.ntmps31
    go_wp2_with fail
    go_ret
    exact ⟨ret_in HC.out.symm, rfl⟩
  exact count_go s most w h0 (by omega) hh
end Go.Proofs.YtkmbhgbmdeoppaaDoor

/-
  What Trim of the document's answers computes, by recursion on the text's length; a text is no longer than Go allows.
-/
namespace Go.Proofs.YtkmbhgbmdeoppaaDoor
open Go.RowKit

theorem drop_data (s : ByteArray) : (s.extract 1 s.size).data.toList = s.data.toList.drop 1 := by
  rw [Lib.extract_data, List.take_of_length_le (by rw [List.length_drop, size_list]; omega)]
theorem take_data (s : ByteArray) : (s.extract 0 (s.size - 1)).data.toList = s.data.toList.take (s.data.toList.length - 1) := by
  rw [Lib.extract_data, List.drop_zero, size_list]; rfl

set_option maxHeartbeats 2000000 in
set_option maxRecDepth 100000 in
theorem rtrim_at (n : Nat) : ∀ (s t : ByteArray) (w : World), s.size ≤ n → n ≤ 9223372036854775807 → t.data.toList = trimL s.data.toList →
    Calls Tryd.prog 29 #[.string s] w fun e w' => e = .returned (.string t) ∧ Below w.heap.size w w' := by
  induction n using Nat.strongRecOn with
  | _ n ih =>
    intro s t w hn hN ht
    have IH : Hid (∀ m, m < n → ∀ (s t : ByteArray) (w : World), s.size ≤ m → m ≤ 9223372036854775807 → t.data.toList = trimL s.data.toList → Calls Tryd.prog 29 #[.string s] w fun e w' => e = .returned (.string t) ∧ Below w.heap.size w w') :=
      ih
    clear ih
    have HT : Hid (t.data.toList = trimL s.data.toList) := ht
    clear ht
    go_enter Tryd.func29, Tryd.ntmps29
    go_wp2_with fail
    go_loop [7] (fun i => ∃ k : Nat, k ≤ 2 ∧ i = .int .i64 k ∧ (1 ≤ k → Lib.hasPrefix s.data.toList [32] = false ∧ Lib.hasSuffix s.data.toList [32] = false) ∧ (2 ≤ k → Lib.hasPrefix s.data.toList [9] = false ∧ Lib.hasSuffix s.data.toList [9] = false)) (fun i => 2 - (intOf i).toNat)
    case atStart => exact ⟨0, by omega, rfl, fun h => absurd h (by omega), fun h => absurd h (by omega)⟩
    case round =>
      obtain ⟨k, hk, rfl, h1, h2⟩ := hrel
      have HH1 : Hid (1 ≤ k → Lib.hasPrefix s.data.toList [32] = false ∧ Lib.hasSuffix s.data.toList [32] = false) := h1
      have HH2 : Hid (2 ≤ k → Lib.hasPrefix s.data.toList [9] = false ∧ Lib.hasSuffix s.data.toList [9] = false) := h2
      clear h1 h2
      rcases (show k = 0 ∨ k = 1 ∨ k = 2 from by omega) with rfl | rfl | rfl
      · cases hp : Lib.hasPrefix s.data.toList [32]
        · cases hq : Lib.hasSuffix s.data.toList [32]
          · have HP : Hid (Lib.hasPrefix s.data.toList [32] = false) := hp
            have HQ : Hid (Lib.hasSuffix s.data.toList [32] = false) := hq
            clear hp hq
            go_wp2_with fail
            refine (Tryd.strings_HasPrefix s ⟨#[32]⟩ _).mono ?_
            rintro e w1 ⟨rfl, rfl⟩
            rw [show Lib.hasPrefix s.data.toList (⟨#[32]⟩ : ByteArray).data.toList = false from HP.out]
            go_wp2_with fail
            refine (Tryd.strings_HasSuffix s ⟨#[32]⟩ _ (by omega)).mono ?_
            rintro e w1 ⟨rfl, rfl⟩
            rw [show Lib.hasSuffix s.data.toList (⟨#[32]⟩ : ByteArray).data.toList = false from HQ.out]
            go_wp2_with fail
            go_round
            case rel => exact ⟨1, by omega, rfl, fun _ => by first | exact ⟨HP.out, HQ.out⟩ | simp, fun h => absurd h (by omega)⟩
            case measure => simp [intOf]
          · obtain ⟨e1, e2⟩ := trimL_suf _ 32 rfl hq
            rw [size_list] at e2
            have HP : Hid (Lib.hasPrefix s.data.toList [32] = false) := hp
            have HQ : Hid (Lib.hasSuffix s.data.toList [32] = true) := hq
            have HR : Hid (t.data.toList = trimL (s.extract 0 (s.size - 1)).data.toList) := by show _ = _; rw [take_data, e1]; exact HT.out
            have hz : (s.extract 0 (s.size - 1)).size ≤ n - 1 := by rw [ByteArray.size_extract]; omega
            clear hp hq e1
            go_wp2_with fail
            refine (Tryd.strings_HasPrefix s ⟨#[32]⟩ _).mono ?_
            rintro e w1 ⟨rfl, rfl⟩
            rw [show Lib.hasPrefix s.data.toList (⟨#[32]⟩ : ByteArray).data.toList = false from HP.out]
            go_wp2_with fail
            refine (Tryd.strings_HasSuffix s ⟨#[32]⟩ _ (by omega)).mono ?_
            rintro e w1 ⟨rfl, rfl⟩
            rw [show Lib.hasSuffix s.data.toList (⟨#[32]⟩ : ByteArray).data.toList = true from HQ.out]
            go_wp2_with fail
            refine (IH.out (n - 1) (by omega) _ t _ hz (by omega) HR.out).mono ?_
            rintro e w2 ⟨rfl, hb⟩
            go_wp2_with fail
            go_ret
            exact ⟨rfl, ((Below.refl _ w).alloc (Nat.le_refl _) _).trans (hb.mono (by simp))⟩
        · obtain ⟨e1, e2⟩ := trimL_pre _ 32 rfl hp
          rw [size_list] at e2
          have HP : Hid (Lib.hasPrefix s.data.toList [32] = true) := hp
          have HR : Hid (t.data.toList = trimL (s.extract 1 s.size).data.toList) := by show _ = _; rw [drop_data, e1]; exact HT.out
          have hz : (s.extract 1 s.size).size ≤ n - 1 := by rw [ByteArray.size_extract]; omega
          clear hp e1
          go_wp2_with fail
          refine (Tryd.strings_HasPrefix s ⟨#[32]⟩ _).mono ?_
          rintro e w1 ⟨rfl, rfl⟩
          rw [show Lib.hasPrefix s.data.toList (⟨#[32]⟩ : ByteArray).data.toList = true from HP.out]
          go_wp2_with fail
          refine (IH.out (n - 1) (by omega) _ t _ hz (by omega) HR.out).mono ?_
          rintro e w2 ⟨rfl, hb⟩
          go_wp2_with fail
          go_ret
          exact ⟨rfl, ((Below.refl _ w).alloc (Nat.le_refl _) _).trans (hb.mono (by simp))⟩
      · cases hp : Lib.hasPrefix s.data.toList [9]
        · cases hq : Lib.hasSuffix s.data.toList [9]
          · have HP : Hid (Lib.hasPrefix s.data.toList [9] = false) := hp
            have HQ : Hid (Lib.hasSuffix s.data.toList [9] = false) := hq
            clear hp hq
            go_wp2_with fail
            refine (Tryd.strings_HasPrefix s ⟨#[9]⟩ _).mono ?_
            rintro e w1 ⟨rfl, rfl⟩
            rw [show Lib.hasPrefix s.data.toList (⟨#[9]⟩ : ByteArray).data.toList = false from HP.out]
            go_wp2_with fail
            refine (Tryd.strings_HasSuffix s ⟨#[9]⟩ _ (by omega)).mono ?_
            rintro e w1 ⟨rfl, rfl⟩
            rw [show Lib.hasSuffix s.data.toList (⟨#[9]⟩ : ByteArray).data.toList = false from HQ.out]
            go_wp2_with fail
            go_round
            case rel => exact ⟨2, by omega, rfl, fun _ => HH1.out (by omega), fun _ => by first | exact ⟨HP.out, HQ.out⟩ | simp⟩
            case measure => simp [intOf]
          · obtain ⟨e1, e2⟩ := trimL_suf _ 9 rfl hq
            rw [size_list] at e2
            have HP : Hid (Lib.hasPrefix s.data.toList [9] = false) := hp
            have HQ : Hid (Lib.hasSuffix s.data.toList [9] = true) := hq
            have HR : Hid (t.data.toList = trimL (s.extract 0 (s.size - 1)).data.toList) := by show _ = _; rw [take_data, e1]; exact HT.out
            have hz : (s.extract 0 (s.size - 1)).size ≤ n - 1 := by rw [ByteArray.size_extract]; omega
            clear hp hq e1
            go_wp2_with fail
            refine (Tryd.strings_HasPrefix s ⟨#[9]⟩ _).mono ?_
            rintro e w1 ⟨rfl, rfl⟩
            rw [show Lib.hasPrefix s.data.toList (⟨#[9]⟩ : ByteArray).data.toList = false from HP.out]
            go_wp2_with fail
            refine (Tryd.strings_HasSuffix s ⟨#[9]⟩ _ (by omega)).mono ?_
            rintro e w1 ⟨rfl, rfl⟩
            rw [show Lib.hasSuffix s.data.toList (⟨#[9]⟩ : ByteArray).data.toList = true from HQ.out]
            go_wp2_with fail
            refine (IH.out (n - 1) (by omega) _ t _ hz (by omega) HR.out).mono ?_
            rintro e w2 ⟨rfl, hb⟩
            go_wp2_with fail
            go_ret
            exact ⟨rfl, ((Below.refl _ w).alloc (Nat.le_refl _) _).trans (hb.mono (by simp))⟩
        · obtain ⟨e1, e2⟩ := trimL_pre _ 9 rfl hp
          rw [size_list] at e2
          have HP : Hid (Lib.hasPrefix s.data.toList [9] = true) := hp
          have HR : Hid (t.data.toList = trimL (s.extract 1 s.size).data.toList) := by show _ = _; rw [drop_data, e1]; exact HT.out
          have hz : (s.extract 1 s.size).size ≤ n - 1 := by rw [ByteArray.size_extract]; omega
          clear hp e1
          go_wp2_with fail
          refine (Tryd.strings_HasPrefix s ⟨#[9]⟩ _).mono ?_
          rintro e w1 ⟨rfl, rfl⟩
          rw [show Lib.hasPrefix s.data.toList (⟨#[9]⟩ : ByteArray).data.toList = true from HP.out]
          go_wp2_with fail
          refine (IH.out (n - 1) (by omega) _ t _ hz (by omega) HR.out).mono ?_
          rintro e w2 ⟨rfl, hb⟩
          go_wp2_with fail
          go_ret
          exact ⟨rfl, ((Below.refl _ w).alloc (Nat.le_refl _) _).trans (hb.mono (by simp))⟩
      · go_wp2_with fail
        go_ret
        obtain ⟨p1, p2⟩ := HH1.out (by omega)
        obtain ⟨p3, p4⟩ := HH2.out (by omega)
        refine ⟨ret_str ?_, (Below.refl _ w).alloc (Nat.le_refl _) _⟩
        apply ByteArray.ext
        apply Array.ext'
        rw [HT.out, trimL_none _ p1 p2 p3 p4]
end Go.Proofs.YtkmbhgbmdeoppaaDoor

/-
  Parts of a text, as laws of the slice operation.
-/
namespace Go.Proofs.YtkmbhgbmdeoppaaDoor
open Go.RowKit

theorem slice_from (s : ByteArray) (a : Nat) (ha : a ≤ s.size) : ∃ r : ByteArray, r.data.toList = s.data.toList.drop a ∧ r.size = s.size - a ∧ ∀ w, (Instr.slice 9 (.string s) (some (.int .i64 (a : Int))) none none).run Tryd.prog w = .ok (.string r) w := by
  refine ⟨s.extract a s.size, ?_, ?_, fun w => ?_⟩
  · rw [Lib.extract_data, List.take_of_length_le (by rw [List.length_drop, size_list]; omega)]
  · rw [ByteArray.size_extract]; omega
  · rw [run_slice_string_l w 9 s Tryd.underlying9 .i64 (a : Int) (by omega) (by omega)]; rfl
theorem slice_part (s : ByteArray) (a b : Nat) (ha : a ≤ b) (hb : b ≤ s.size) : ∃ r : ByteArray, r.data.toList = (s.data.toList.drop a).take (b - a) ∧ r.size = b - a ∧ ∀ w, (Instr.slice 9 (.string s) (some (.int .i64 (a : Int))) (some (.int .i64 (b : Int))) none).run Tryd.prog w = .ok (.string r) w := by
  refine ⟨s.extract a b, ?_, ?_, fun w => ?_⟩
  · rw [Lib.extract_data]
  · rw [ByteArray.size_extract]; omega
  · rw [run_slice_string w 9 s .i64 .i64 _ _ Tryd.underlying9 (by omega) (by omega) (by omega)]; rfl
theorem slice_to (s : ByteArray) (b : Nat) (hb : b ≤ s.size) : ∃ r : ByteArray, r.data.toList = s.data.toList.take b ∧ r.size = b ∧ ∀ w, (Instr.slice 9 (.string s) none (some (.int .i64 (b : Int))) none).run Tryd.prog w = .ok (.string r) w := by
  refine ⟨s.extract 0 b, ?_, ?_, fun w => ?_⟩
  · rw [Lib.extract_data]; simp
  · rw [ByteArray.size_extract]; omega
  · rw [run_slice_string_h w 9 s Tryd.underlying9 .i64 (b : Int) (by omega) (by omega)]; rfl
end Go.Proofs.YtkmbhgbmdeoppaaDoor

/-
  A slice of texts that can be read, as a plain list; no program is named here.
-/
namespace Go.Proofs.YtkmbhgbmdeoppaaDoor
open Go.RowKit

def strsV (ss : List (List UInt8)) : List Value := ss.map fun s => .string ⟨s.toArray⟩
def Sl (w : World) (v : Value) (ss : List (List UInt8)) : Prop :=
  ∃ g off cap, v = .slice (some ⟨g, off, none⟩) ss.length cap ∧ ss.length ≤ cap ∧ cap ≤ maxLen ∧ g < w.heap.size ∧ ∀ (k : Nat) (h : k < ss.length), w.cell? ⟨g, off + k, none⟩ = some (.string ⟨ss[k].toArray⟩)
theorem Sl.below {w w' : World} {v : Value} {ss : List (List UInt8)} (h : Sl w v ss) (hb : Below w.heap.size w w') : Sl w' v ss := by
  obtain ⟨g, off, cap, hv, h1, h2, hg, hc⟩ := h
  exact ⟨g, off, cap, hv, h1, h2, Nat.lt_of_lt_of_le hg hb.size, fun k hk => (hb.cell (p := ⟨g, off + k, none⟩) hg).trans (hc k hk)⟩
theorem strsV_get (ss : List (List UInt8)) (k : Nat) (h : k < ss.length) : (strsV ss)[k]? = some (.string ⟨ss[k].toArray⟩) := by
  unfold strsV; rw [List.getElem?_map, List.getElem?_eq_getElem h]; rfl
theorem strsV_one (ss : List (List UInt8)) : ∀ u ∈ strsV ss, u.oneCell' = true := by
  intro u hu
  obtain ⟨x, _, rfl⟩ := List.mem_map.1 hu
  rfl
theorem strsV_len (ss : List (List UInt8)) : (strsV ss).length = ss.length * 1 := by simp [strsV]
theorem Sl.own {w : World} {B : Nat} {e : TypeId} {v : Value} {ss : List (List UInt8)} (h : w.ownsRow B e 1 v ss.length (strsV ss)) (h0 : 0 < ss.length) : Sl w v ss := by
  obtain ⟨ad, cap, hv, h2, h1, h3⟩ := own_form2 h
  obtain ⟨g, ha, _, hg, hc⟩ := h3 h0
  subst ha
  refine ⟨g, 0, cap, hv, h1, h2, hg, fun k hk => ?_⟩
  rw [Nat.zero_add, hc k (by omega), strsV_get ss k hk]
theorem Sl.cells {w : World} {a : Addr} {n c : Nat} {ss : List (List UInt8)} (h : Sl w (.slice (some a) n c) ss) : ∀ j u, (strsV ss)[j]? = some u → w.cell? (a.add j) = some u := by
  obtain ⟨g, off, cap, hv, h1, h2, hg, hc⟩ := h
  obtain ⟨ha, _, _⟩ := Value.slice.inj hv
  obtain rfl := Option.some.inj ha
  intro j u hj
  have hjl : j < ss.length := by have := (List.getElem?_eq_some_iff.1 hj).1; simpa [strsV] using this
  rw [strsV_get ss j hjl] at hj
  have hform : (⟨g, off, none⟩ : Addr).add j = ⟨g, off + j, none⟩ := by
    by_cases h0 : j = 0
    · subst h0; simp [Addr.add]
    · simp [Addr.add, h0]
  rw [hform, hc j hjl]; exact hj
end Go.Proofs.YtkmbhgbmdeoppaaDoor

/-
  What the document's SpanParse answers; a text is shorter than 2^32 - 15 bytes.
-/
namespace Go.Proofs.YtkmbhgbmdeoppaaDoor
open Go.RowKit

theorem wordsB_mem (d : UInt8) (ws : List (List UInt8)) : ∀ x ∈ ws, x.length ≤ (wordsB d ws).length := by
  induction ws with
  | nil => intro x hx; cases hx
  | cons y ws ih =>
    intro x hx
    rw [wordsB_cons, List.length_cons, List.length_append]
    rcases List.mem_cons.1 hx with rfl | hx
    · omega
    · have := ih x hx; omega
theorem wordsB_count (d : UInt8) (ws : List (List UInt8)) : ws.length ≤ (wordsB d ws).length := by
  induction ws with
  | nil => simp
  | cons y ws ih => rw [wordsB_cons, List.length_cons, List.length_cons, List.length_append]; omega
theorem spl_small (d : UInt8) (l : List UInt8) : (∀ x ∈ spl d l, x.length ≤ l.length) ∧ (spl d l).length ≤ l.length + 1 ∧ 1 ≤ (spl d l).length := by
  obtain ⟨w, ws, h1, h2, _, _⟩ := spl_form d l
  have hc := wordsB_count d ws
  have hl := congrArg List.length h2
  rw [List.length_append] at hl
  rw [h1]
  refine ⟨fun x hx => ?_, by rw [List.length_cons]; omega, by simp⟩
  rcases List.mem_cons.1 hx with rfl | hx
  · omega
  · have := wordsB_mem d ws x hx; omega
theorem rsplit_spl (s : ByteArray) (m : Int) (w : World) (hm : w.cell? ⟨0, 0, none⟩ = some (.int .i64 m)) (hs : s.size < 4294967281) :
    Calls Tryd.prog 28 #[.string s, .string ⟨#[44]⟩] w fun e w' => ∃ v, e = .returned v ∧ Sl w' v (spl 44 s.data.toList) ∧ Below w.heap.size w w' := by
  obtain ⟨x, ws, h1, h2, h3, h4⟩ := spl_form 44 s.data.toList
  obtain ⟨hc, hb⟩ := splitB_words 44 s x ws h2 h3 h4
  have hl := (spl_small 44 s.data.toList).2.1
  rw [h1, List.length_cons, size_list] at hl
  refine (Tryd.strings_Split s ⟨#[44]⟩ m w hs hm (by decide)).mono ?_
  rintro e w' ⟨rfl, rfl⟩
  rw [hb, hc, h1]
  refine ⟨_, rfl, ⟨w.heap.size, 0, ws.length + 1, rfl, Nat.le_refl _, by unfold maxLen; omega, by simp, fun k hk => ?_⟩, below_alloc _ _⟩
  rw [Nat.zero_add, World.cell?_alloc_at _ _ _ _ (by simp)]
  simp only [List.getElem?_toArray, List.getElem?_map, List.getElem?_eq_getElem hk, Option.map_some]
theorem prSp_one {w : Wn} {u : ByteArray} {d : Int} (h : prSp [w] = (u.data.toList, d)) (t : List UInt8) : (d = 0 ∧ u.data.toList = bytesB ++ t) ↔ (okW w = true ∧ prW w = t) := by
  by_cases ho : okW w = true
  · have hc : chkW [w] = 0 := chkW_of (by simp [ho]) (by simp) (by simp)
    rw [prSp_ok hc, List.map_cons, List.map_nil, Lib.join_one] at h
    obtain ⟨h1, h2⟩ := Prod.mk.inj h
    rw [← h1, ← h2]
    constructor
    · rintro ⟨_, h3⟩
      exact ⟨ho, List.append_cancel_left h3⟩
    · rintro ⟨_, h3⟩
      rw [h3]; exact ⟨rfl, rfl⟩
  · have hc : chkW [w] = 1 := by
      unfold chkW
      rw [if_pos (by simpa using ho)]
    rw [prSp_bad (by rw [hc]; decide), hc] at h
    obtain ⟨_, h2⟩ := Prod.mk.inj h
    constructor
    · rintro ⟨h3, _⟩; rw [h3] at h2; cases h2
    · rintro ⟨h3, _⟩; exact absurd h3 ho
set_option maxHeartbeats 8000000 in
set_option maxRecDepth 100000 in
theorem rsparse_at (s : ByteArray) (m : Int) (w : World) (hm : w.cell? ⟨0, 0, none⟩ = some (.int .i64 m)) (hs : s.size < 4294967281) :
    Calls Tryd.prog 10 #[.string s] w fun e w' => ∃ v, e = .returned (.tuple #[v, .int .i64 (paSp s.data.toList).2]) ∧
      w'.ownsRow w.heap.size 31 2 v (paSp s.data.toList).1.length (wns (paSp s.data.toList).1) ∧ Below w.heap.size w w' := by
  obtain ⟨i1, hi1, hy0, hy1, hy2⟩ := info_parts infoWn
  cases hpre : Lib.hasPrefix s.data.toList bytesB
  · have HR : Hid (paSp s.data.toList = ([], 3)) := by show _ = _; unfold paSp; rw [if_pos hpre]
    have HPRE : Hid (Lib.hasPrefix s.data.toList (⟨#[98, 121, 116, 101, 115, 61]⟩ : ByteArray).data.toList = false) := hpre
    clear hpre
    go_enter Tryd.func10, Tryd.ntmps10
    go_wp2_with fail
    refine (Tryd.strings_HasPrefix s ⟨#[98, 121, 116, 101, 115, 61]⟩ _).mono ?_
    rintro e w1 ⟨rfl, rfl⟩
    rw [HPRE.out]
    go_wp2_with fail
    go_ret2
    exact ⟨_, by rw [HR.out]; rfl, by rw [HR.out]; exact World.ownsRow_nil _ _ _ _, Below.refl _ _⟩
  · have HPRE : Hid (Lib.hasPrefix s.data.toList (⟨#[98, 121, 116, 101, 115, 61]⟩ : ByteArray).data.toList = true) := hpre
    have h6 : 6 ≤ s.size := by
      have := Lib.hasPrefix_le hpre
      rw [size_list] at this
      exact this
    obtain ⟨r, hrl, hrs, hsl⟩ := slice_from s 6 h6
    have sl6 : ∀ W, (Instr.slice 9 (.string s) (some (.int .i64 6)) none none).run Tryd.prog W = .ok (.string r) W := hsl
    obtain ⟨P, hP⟩ : ∃ P, P = spl 44 r.data.toList := ⟨_, rfl⟩
    have HSP : Hid (spl 44 r.data.toList = P) := hP.symm
    obtain ⟨hpx, hpl, hp1⟩ := spl_small 44 r.data.toList
    rw [← hP, size_list] at hpx hpl
    rw [← hP] at hp1
    have HPX : Hid (∀ x ∈ P, x.length ≤ r.size) := hpx
    have HRR : Hid (paSp s.data.toList = match wnE (P.map trimL) with | none => ([], 3) | some ws => if 20 < ws.length then ([], 2) else (ws, 0)) := by
      show _ = _
      unfold paSp
      rw [if_neg (by rw [hpre]; simp), ← hrl, ← hP]; rfl
    clear hpre hrl hsl hP hpx
    go_enter Tryd.func10, Tryd.ntmps10
    go_wp2_with fail
    refine (Tryd.strings_HasPrefix s ⟨#[98, 121, 116, 101, 115, 61]⟩ _).mono ?_
    rintro e w0 ⟨rfl, hww⟩
    rw [hww, HPRE.out]
    clear hww w0
    go_wp2_with fail
    refine (rsplit_spl r m _ hm (by omega)).mono ?_
    rintro e w1 ⟨vp, rfl, hsl1, hb1⟩
    rw [HSP.out] at hsl1
    have HSL : Hid (Sl w1 vp P) := hsl1
    have HB1 : Hid (Below w.heap.size w w1) := hb1
    have hsz1 := hb1.size
    obtain ⟨pg, po, pc, rfl, hpc, hpm, hpg, _⟩ := id hsl1
    unfold maxLen at hpm
    clear hsl1 hb1
    go_wp2_with fail
    go_loopw [4, 18] (fun o i wr => ∃ (k : Nat) (ws : List Wn), k ≤ P.length ∧ i = .int .i64 k ∧ Hid (wnE ((P.take k).map trimL) = some ws) ∧ wr.ownsRow w1.heap.size 31 2 o ws.length (wns ws) ∧ Below w1.heap.size w1 wr) (fun _ i _ => P.length - (intOf i).toNat)
    case atStart => exact ⟨0, [], Nat.zero_le _, rfl, rfl, World.ownsRow_nil _ _ _ _, Below.refl _ _⟩
    case round =>
      obtain ⟨k, ws, hk, rfl, hws, hown, hw⟩ := hrel
      have hszr := hw.size
      have hwl : ws.length ≤ P.length := by
        have h1 := wn_len _ _ hws.out
        rw [List.length_map, List.length_take] at h1
        omega
      by_cases hlt : k < P.length
      · obtain ⟨pg', po', pc', hv', _, _, _, hce⟩ := HSL.out
        simp only [Value.slice.injEq, Option.some.injEq, Addr.mk.injEq] at hv'
        obtain ⟨⟨rfl, rfl, _⟩, _, rfl⟩ := hv'
        have c1 := (hw.cell (p := ⟨pg, po + k, none⟩) hpg).trans (hce k hlt)
        obtain ⟨x, hx⟩ : ∃ x : ByteArray, x = ⟨(P[k]).toArray⟩ := ⟨_, rfl⟩
        obtain ⟨t, ht⟩ : ∃ t : ByteArray, t.data.toList = trimL x.data.toList := ⟨⟨(trimL x.data.toList).toArray⟩, rfl⟩
        have HT : Hid (t.data.toList = trimL x.data.toList) := ht
        have hxs : x.size ≤ r.size := by rw [← size_list, hx]; exact HPX.out _ (List.getElem_mem hlt)
        have hts : t.size ≤ x.size := by
          have := trimL_len x.data.toList
          rw [← ht, size_list, size_list] at this; exact this
        rw [← hx] at c1
        have hstep := wn_take (P.map trimL) k (by simpa using hlt)
        have hmt : (P.map trimL).take k = (P.take k).map trimL := by rw [List.map_take]
        have hmt1 : (P.map trimL).take (k + 1) = (P.take (k + 1)).map trimL := by rw [List.map_take]
        have hxe : trimL P[k] = t.data.toList := by rw [ht, hx]
        rw [hmt, hmt1, hws.out, List.getElem_map, hxe] at hstep
        have HDEAD : Hid (wstep (some ws) t.data.toList = none → paSp s.data.toList = ([], 3)) := by
          intro h
          have hd := wn_dead (P.map trimL) k (by simpa using hlt) (by rw [hmt, hws.out, List.getElem_map, hxe]; exact h)
          rw [HRR.out, hd]
        have HSTEP : Hid (wnE ((P.take (k + 1)).map trimL) = wstep (some ws) t.data.toList) := hstep
        have hki : (k : Int) < (P.length : Int) := by omega
        have hk0 : (0 : Int) ≤ (k : Int) := by omega
        have hpgr : pg < wr.heap.size := by omega
        obtain ⟨ii, hii⟩ : ∃ ii, Lib.indexByte t.data.toList 45 = ii := ⟨_, rfl⟩
        have HII : Hid (Lib.indexByte t.data.toList 45 = ii) := hii
        obtain ⟨oad, oc, hov, hom, honc, _⟩ := own_form2 hown
        subst hov
        unfold maxLen at hom
        clear hce hstep hmt hmt1 hx hxe ht
        rcases idx_one_is t.data.toList 45 with hneg | ⟨n, hn, hnt⟩
        · obtain rfl : ii = -1 := hii.symm.trans hneg
          have HF : Hid (paSp s.data.toList = ([], 3)) := by
            refine HDEAD.out ?_
            have : paW t.data.toList = none := by
              unfold paW
              rw [Lib.index_one, hneg, if_pos (by omega)]
            unfold wstep
            simp [this]
          clear hii hneg
          go_wp2_with fail
          refine (rtrim_at x.size x t _ (Nat.le_refl _) (by omega) HT.out).mono ?_
          rintro e w3 ⟨rfl, hb3⟩
          go_wp2_with fail
          refine (Tryd.strings_Index_one t 45 _).mono ?_
          rintro e w4 ⟨rfl, hww⟩
          rw [hww, HII.out]
          clear hww w4
          go_wp2_with fail
          go_ret2
          exact ⟨_, by rw [HF.out]; rfl, by rw [HF.out]; exact World.ownsRow_nil _ _ _ _, HB1.out.trans ((hw.trans (hb3.mono hszr)).mono hsz1)⟩
        · obtain rfl : ii = n := hii.symm.trans hn
          rw [size_list] at hnt
          obtain ⟨p, hpl', hps, hslp⟩ := slice_to t n (by omega)
          obtain ⟨q, hql, hqs, hslq⟩ := slice_from t (n + 1) (by omega)
          have slq : ∀ W, (Instr.slice 9 (.string t) (some (.int .i64 ((n : Int) + 1))) none none).run Tryd.prog W = .ok (.string q) W := fun W => by
            have := hslq W
            rwa [show ((n + 1 : Nat) : Int) = (n : Int) + 1 by omega] at this
          obtain ⟨y1, hy1'⟩ : ∃ y1, cnt p.data.toList 99999 = y1 := ⟨_, rfl⟩
          obtain ⟨y2, hy2'⟩ : ∃ y2, cnt q.data.toList 99999 = y2 := ⟨_, rfl⟩
          have HCP : Hid (∀ W, Calls Tryd.prog 31 #[.string p, .int .i64 99999] W fun e w' => e = .returned (.int .i64 y1) ∧ w' = W) := fun W => by
            have := count_any p 99999 W (by unfold maxLen; omega)
            rwa [hy1'] at this
          have HCQ : Hid (∀ W, Calls Tryd.prog 31 #[.string q, .int .i64 99999] W fun e w' => e = .returned (.int .i64 y2) ∧ w' = W) := fun W => by
            have := count_any q 99999 W (by unfold maxLen; omega)
            rwa [hy2'] at this
          obtain ⟨u, d, hpr⟩ := pair_bi (prSp [(y1, y2)])
          have HPR : Hid (prSp [(y1, y2)] = (u.data.toList, d)) := hpr
          have hpw : paW t.data.toList = if okW (y1, y2) = true ∧ prW (y1, y2) = t.data.toList then some (y1, y2) else none := by
            unfold paW
            rw [Lib.index_one, hn, if_neg (by omega)]
            simp only [Int.toNat_natCast, ← hpl', ← hql, hy1', hy2']
          obtain ⟨bt, hbt⟩ : ∃ bt : ByteArray, (⟨#[98, 121, 116, 101, 115, 61]⟩ : ByteArray) ++ t = bt := ⟨_, rfl⟩
          have hbl : bt.data.toList = bytesB ++ t.data.toList := by rw [← hbt, ByteArray.data_append, Array.toList_append]; rfl
          have hbs : bt.size = t.size + 6 := by rw [← size_list, hbl, List.length_append, size_list]; show 6 + _ = _; omega
          have HBT : Hid ((⟨#[98, 121, 116, 101, 115, 61]⟩ : ByteArray) ++ t = bt) := hbt
          have hwr : IntKind.i64.wrap ((n : Int) + 1) = (n : Int) + 1 := by rw [IntKind.wrap_i64]; omega
          have hn0 : ¬ (n : Int) < 0 := by omega
          have hiff := prSp_one hpr t.data.toList
          rw [← hbl] at hiff
          have HGOOD : Hid (d = 0 → u = bt → wnE ((P.take (k + 1)).map trimL) = some (ws ++ [(y1, y2)])) := by
            intro h1 h2
            have := hiff.1 ⟨h1, by rw [h2]⟩
            rw [HSTEP.out]
            unfold wstep
            simp only [hpw, if_pos this]
          have HBAD : Hid (¬ (d = 0 ∧ u = bt) → paSp s.data.toList = ([], 3)) := by
            intro h1
            refine HDEAD.out ?_
            unfold wstep
            have : ¬ (okW (y1, y2) = true ∧ prW (y1, y2) = t.data.toList) := fun h2 => by
              obtain ⟨h3, h4⟩ := hiff.2 h2
              exact h1 ⟨h3, by apply ByteArray.ext; apply Array.ext'; exact h4⟩
            simp only [hpw, if_neg this]
          clear hii hn hpl' hslq hql hy1' hy2' hpr hpw hbl hiff
          go_wp2_with fail
          refine (rtrim_at x.size x t _ (Nat.le_refl _) (by omega) HT.out).mono ?_
          rintro e w3 ⟨rfl, hb3⟩
          have hw3 := hw.trans (hb3.mono hszr)
          have hown3 := own_below3 hown hb3
          have hsz3 := hw3.size
          clear hb3 hown
          go_wp2_with fail
          refine (Tryd.strings_Index_one t 45 _).mono ?_
          rintro e w4 ⟨rfl, hww⟩
          rw [hww, HII.out]
          clear hww w4
          have HWL : Hid (Wl (((w3.alloc (.cells #[.int .i64 y1, .int .i64 y2] 31)).alloc (.cells #[.int .i64 y1, .int .i64 y2] 31)).drew) (.slice (some ⟨w3.heap.size + 1, 0, none⟩) 1 1) [(y1, y2)]) := by
            have h := (Wl.one y1 y2 (w3.alloc (.cells #[.int .i64 y1, .int .i64 y2] 31)) 31).below (Below.refl _ _).drew
            have e : (w3.alloc (.cells #[.int .i64 y1, .int .i64 y2] 31)).heap.size = w3.heap.size + 1 := by simp
            rw [e] at h
            exact h
          go_wp2_with fail
          go_region_held3 (fun _ => True) (trivial) (first | (go_at_call 31; first | (with_reducible refine (HCP.out _).mono ?_; rintro e w5 ⟨rfl, rfl⟩) | (with_reducible refine (HCQ.out _).mono ?_; rintro e w5 ⟨rfl, rfl⟩)))
          all_goals
            go_wp2_with fail
            refine (rsprint_at _ [(y1, y2)] u d HPR.out _ HWL.out).mono ?_
            rintro e w6 ⟨rfl, hb6⟩
            have hbq : Below w3.heap.size w3 w6 := (((Below.refl _ w3).alloc (Nat.le_refl _) _).alloc (by simp) _).drew.trans (hb6.mono (by simp; omega))
            have q0 : w6.cell? ⟨w3.heap.size, 0, none⟩ = some (.int .i64 y1) := (hb6.cell (p := ⟨w3.heap.size, 0, none⟩) (by simp; omega)).trans (by simp)
            have q1 : w6.cell? ⟨w3.heap.size, 1, none⟩ = some (.int .i64 y2) := (hb6.cell (p := ⟨w3.heap.size, 1, none⟩) (by simp; omega)).trans (by simp)
            have qs : w3.heap.size < w6.heap.size := by have := hb6.size; simp at this; omega
            have hown6 := own_below3 hown3 hbq
            have hw6 := hw3.trans (hbq.mono hsz3)
            have hsz6 := hw6.size
            clear hb6 hbq hown3 hw3
            by_cases hd : d = 0
            · subst hd
              by_cases hub : u = bt
              · have HN := HGOOD.out rfl hub
                have hue : (u.toList == bt.toList) = true := by rw [hub]; exact beq_self_eq_true _
                clear hub
                go_wp2_with (at_builtin; refine wpList_append_own _ rfl _ _ 22 rfl w1.heap.size 31 i1 (.agg #[.int .i64 0, .int .i64 0]) 2 16 Tryd.underlying22 hi1 hy0 hy1 hy2 rfl (by decide) _ _ _ rfl (hown6.alloc _) ⟨w6.heap.size, 0, none⟩ 1 1 [.int .i64 y1, .int .i64 y2] rfl rfl ?c1 ?c2 ?c3 ?c4 ?c5 ?_)
                case c1 =>
                  intro j z h
                  match j, h with
                  | 0, h => simp at h; subst h; simp [Addr.add]
                  | 1, h => simp at h; subst h; simp [Addr.add]
                case c2 => intro z hx; simp at hx; rcases hx with rfl | rfl <;> rfl
                case c3 => unfold maxLen; omega
                case c4 => omega
                case c5 => simp; omega
                · intro v' w7 hown' hgrow _
                  have hB : Below w1.heap.size w1 w7 := (hw6.alloc hsz6 _).grown hgrow (by simp; omega) (fun bb hb => ((hown6.alloc (.cells #[.int .i64 y1, .int .i64 y2] 31)).lt bb hb).1)
                  have hown7 : w7.ownsRow w1.heap.size 31 2 v' (ws ++ [(y1, y2)]).length (wns (ws ++ [(y1, y2)])) := by
                    rw [← wns_snoc, List.length_append]; exact hown'
                  clear hown' hgrow hown6 hw6
                  go_wp2_with fail
                  go_roundw
                  case rel => exact ⟨k + 1, _, by omega, by go_num, HN, hown7, hB⟩
                  case measure => simp [intOf]; omega
              · have hue : (u.toList == bt.toList) = false := by
                  rw [beq_eq_false_iff_ne, ByteArray.toList_eq, ByteArray.toList_eq]
                  intro e; apply hub; apply ByteArray.ext; apply Array.ext'; exact e
                have HF := HBAD.out (fun h => hub h.2)
                clear hub
                go_wp2_with fail
                go_ret2
                exact ⟨_, by rw [HF]; rfl, by rw [HF]; exact World.ownsRow_nil _ _ _ _, HB1.out.trans (hw6.mono hsz1)⟩
            · have hdb : (d != 0) = true := by simpa using hd
              have HF := HBAD.out (fun h => hd h.1)
              go_wp2_with fail
              go_ret2
              exact ⟨_, by rw [HF]; rfl, by rw [HF]; exact World.ownsRow_nil _ _ _ _, HB1.out.trans (hw6.mono hsz1)⟩
      · have HWS : Hid (wnE (P.map trimL) = some ws) := by
          have := hws.out
          rw [List.take_of_length_le (by omega)] at this
          exact this
        have HR : Hid (paSp s.data.toList = if 20 < ws.length then ([], 2) else (ws, 0)) := by
          show _ = _
          rw [HRR.out, HWS.out]
        have HO : Hid (wr.ownsRow w1.heap.size 31 2 _ ws.length (wns ws)) := hown
        have HB2 := HB1.out.trans (hw.mono hsz1)
        obtain ⟨oad, oc, hov, hom, honc, _⟩ := own_form2 hown
        subst hov
        unfold maxLen at hom
        clear hown hws
        by_cases h20 : 20 < ws.length
        · have h20i : (20 : Int) < (ws.length : Int) := by omega
          have HF : Hid (paSp s.data.toList = ([], 2)) := by show _ = _; rw [HR.out, if_pos h20]
          go_wp2_with fail
          go_ret2
          exact ⟨_, by rw [HF.out]; rfl, by rw [HF.out]; exact World.ownsRow_nil _ _ _ _, HB2⟩
        · have h20i : ¬ (20 : Int) < (ws.length : Int) := by omega
          have HF : Hid (paSp s.data.toList = (ws, 0)) := by show _ = _; rw [HR.out, if_neg h20]
          go_wp2_with fail
          go_ret2
          exact ⟨_, by rw [HF.out]; rfl, by rw [HF.out]; exact own_le HO.out hsz1, HB2⟩
end Go.Proofs.YtkmbhgbmdeoppaaDoor

/-
  Eq of the document's answers on two lists of the same wants answers true and turns nothing that was there.
-/
namespace Go.Proofs.YtkmbhgbmdeoppaaDoor
open Go.RowKit

set_option maxHeartbeats 1000000 in
set_option maxRecDepth 100000 in
theorem eqW_same (v v' : Value) (ts : List Wn) (w : World) (h : Wl w v ts) (h' : Wl w v' ts) :
    Calls Tryd.prog 11 #[v, v'] w fun e w' => e = .returned (.bool true) ∧ Below w.heap.size w w' := by
  obtain ⟨ad, cap, hv, hnc, hcm, hc⟩ := h
  obtain ⟨ad', cap', hv', hnc', hcm', hc'⟩ := h'
  subst hv hv'
  unfold maxLen at hcm hcm'
  have HC : Hid (0 < ts.length → ∃ g off, ad = some ⟨g, off, none⟩ ∧ g < w.heap.size ∧
    ∀ (k : Nat) (h : k < ts.length), w.cell? ⟨g, off + k * 2, none⟩ = some (.int .i64 (ts[k]).1) ∧ w.cell? ⟨g, off + k * 2 + 1, none⟩ = some (.int .i64 (ts[k]).2)) := hc
  have HC' : Hid (0 < ts.length → ∃ g off, ad' = some ⟨g, off, none⟩ ∧ g < w.heap.size ∧
    ∀ (k : Nat) (h : k < ts.length), w.cell? ⟨g, off + k * 2, none⟩ = some (.int .i64 (ts[k]).1) ∧ w.cell? ⟨g, off + k * 2 + 1, none⟩ = some (.int .i64 (ts[k]).2)) := hc'
  clear hc hc'
  go_enter Tryd.func11, Tryd.ntmps11
  go_wp2_with fail
  go_loopw [14] (fun i wr => ∃ k : Nat, k ≤ ts.length ∧ i = .int .i64 k ∧ Below w.heap.size w wr) (fun i _ => ts.length - (intOf i).toNat)
  case atStart => exact ⟨0, Nat.zero_le _, rfl, Below.refl _ _⟩
  case round =>
    obtain ⟨k, hk, rfl, hw⟩ := hrel
    by_cases hlt : k < ts.length
    · obtain ⟨g, off, rfl, hgs, hce⟩ := HC.out (by omega)
      obtain ⟨g', off', rfl, hgs', hce'⟩ := HC'.out (by omega)
      obtain ⟨p1, p2⟩ := hce k hlt
      obtain ⟨q1, q2⟩ := hce' k hlt
      have c1 : wr.cell? ⟨g, off + k * 2, none⟩ = some (.int .i64 (ts[k]).1) := by rw [hw.cell (p := ⟨g, off + k * 2, none⟩) hgs]; exact p1
      have c2 : wr.cell? ⟨g, off + k * 2 + 1, none⟩ = some (.int .i64 (ts[k]).2) := by rw [hw.cell (p := ⟨g, off + k * 2 + 1, none⟩) hgs]; exact p2
      have d1 : wr.cell? ⟨g', off' + k * 2, none⟩ = some (.int .i64 (ts[k]).1) := by rw [hw.cell (p := ⟨g', off' + k * 2, none⟩) hgs']; exact q1
      have d2 : wr.cell? ⟨g', off' + k * 2 + 1, none⟩ = some (.int .i64 (ts[k]).2) := by rw [hw.cell (p := ⟨g', off' + k * 2 + 1, none⟩) hgs']; exact q2
      generalize (ts[k]).1 = x at c1 d1
      generalize (ts[k]).2 = y at c2 d2
      have hsz := hw.size
      have hgr : g < wr.heap.size := by omega
      have hgr' : g' < wr.heap.size := by omega
      clear hce hce' p1 p2 q1 q2
      have hki : (k : Int) < (ts.length : Int) := by omega
      have hk0 : (0 : Int) ≤ (k : Int) := by omega
      go_wp2_with fail
      go_quiet (fail)
      go_wp2_with fail
      go_roundw
      case rel => exact ⟨k + 1, by omega, by go_num, (hw.alloc (by omega) _).trans (drewN_below _ _ _)⟩
      case measure => simp [intOf]; omega
    · go_wp2_with fail
      go_ret
      exact ⟨rfl, hw⟩
end Go.Proofs.YtkmbhgbmdeoppaaDoor

/-
  The walk through SpanParses: it answers true and turns nothing that was there.
-/
namespace Go.Proofs.YtkmbhgbmdeoppaaDoor
open Go.RowKit

set_option maxHeartbeats 2000000 in
set_option maxRecDepth 100000 in
theorem walkSpanParses (a0 : ByteArray) (w : World) (z0 : a0.size ≤ 1048576) (hm : ∃ m, w.cell? ⟨0, 0, none⟩ = some (.int .i64 m)) (ht : STabs w) :
    Calls Tryd.prog 4 #[.string a0] w fun e w' => e = .returned (.bool true) ∧ Below w.heap.size w w' := by
  obtain ⟨m, hm⟩ := hm
  have HT : Hid (STabs w) := ht
  have HM : Hid (w.cell? ⟨0, 0, none⟩ = some (.int .i64 m)) := hm
  have HZ : Hid (a0.size ≤ 1048576) := z0
  clear hm ht z0
  go_enter Tryd.func4, Tryd.ntmps4
  go_wp2_with fail
  refine (sparse_at a0 w (by have := HZ.out; omega) HT.out).mono ?_
  rintro e w1 ⟨v1, rfl, ho1, hb1⟩
  have HW1 : Hid (Wl w1 v1 (paSp a0.data.toList).1) := Wl.own ho1
  clear ho1
  go_wp2_with fail
  refine (rsparse_at a0 m w1 (cell_keep hb1 HM.out) (by have := HZ.out; omega)).mono ?_
  rintro e w2 ⟨v2, rfl, ho2, hb2⟩
  have HW2 : Hid (Wl w2 v2 (paSp a0.data.toList).1) := Wl.own ho2
  have HW1b : Hid (Wl w2 v1 (paSp a0.data.toList).1) := HW1.out.below hb2
  have hb12 := hb1.trans (hb2.mono hb1.size)
  clear ho2 hb1 hb2
  go_wp2_with fail
  refine (eqW_same v1 v2 _ w2 HW1b.out HW2.out).mono ?_
  rintro e w3 ⟨rfl, hb3⟩
  have hb := hb12.trans (hb3.mono hb12.size)
  clear hb3 hb12
  go_wp2_with fail
  go_ret
  exact ⟨by first | rfl | simp, hb⟩
end Go.Proofs.YtkmbhgbmdeoppaaDoor

/-
  What hasBytes of package span computes.
-/
namespace Go.Proofs.YtkmbhgbmdeoppaaDoor
open Go.RowKit

set_option maxRecDepth 100000 in
theorem shas_any (a b : Int) (w : World) :
    Calls Tryd.prog 32 #[.agg #[.int .i64 a, .int .i64 b]] w fun e w' => e = .returned (.bool (decide (a < b))) ∧ Below w.heap.size w w' := by
  have hw0 : Below w.heap.size w (w.alloc (.cells #[.int .i64 a, .int .i64 b] 34)) := (Below.refl _ w).alloc (Nat.le_refl _) _
  go_enter Tryd.func32, Tryd.ntmps32
  go_wp2_with fail
  go_ret
  exact ⟨rfl, hw0⟩
theorem shas_is (a b : Int) (r : Bool) (h : decide (a < b) = r) (w : World) :
    Calls Tryd.prog 32 #[.agg #[.int .i64 a, .int .i64 b]] w fun e w' => e = .returned (.bool r) ∧ Below w.heap.size w w' := by
  subst h; exact shas_any a b w
end Go.Proofs.YtkmbhgbmdeoppaaDoor

/-
  What PrintContent of package span answers; the powers of ten of package strconv hold what their text lays.
-/
namespace Go.Proofs.YtkmbhgbmdeoppaaDoor
open Go.RowKit

theorem prC_no {a b size : Int} {t : ByteArray} {c : Int} (h : prC (a, b) size = (t.data.toList, c)) (hn : ¬ (0 ≤ a ∧ a < b ∧ b ≤ size ∧ size ≤ 99999)) : t = ⟨#[]⟩ ∧ c = 1 := by
  have hf : okC (a, b) size = false := by
    cases ho : okC (a, b) size
    · rfl
    · exact absurd (okC_is ho) hn
  rw [prC_bad hf] at h
  obtain ⟨h1, h2⟩ := Prod.mk.inj h
  exact ⟨by apply ByteArray.ext; apply Array.ext'; exact h1.symm, h2.symm⟩
set_option maxHeartbeats 1000000 in
set_option maxRecDepth 100000 in
theorem scprint_yes (a b size : Int) (t : ByteArray) (ht : t.data.toList = ctB (a, b) size) (h1 : 0 ≤ a) (h2 : a < b) (h3 : b ≤ size) (h4 : size ≤ 99999) (w : World) (hT : PowT w) :
    Calls Tryd.prog 12 #[.agg #[.int .i64 a, .int .i64 b], .int .i64 size] w fun e w' => e = .returned (.tuple #[.string t, .int .i64 0]) ∧ Below w.heap.size w w' := by
  obtain ⟨x, hx⟩ : ∃ x : ByteArray, x.data.toList = Lib.decDigits a.toNat := ⟨⟨(Lib.decDigits a.toNat).toArray⟩, rfl⟩
  obtain ⟨y, hy⟩ : ∃ y : ByteArray, y.data.toList = Lib.decDigits (b - 1).toNat := ⟨⟨(Lib.decDigits (b - 1).toNat).toArray⟩, rfl⟩
  obtain ⟨z, hz⟩ : ∃ z : ByteArray, z.data.toList = Lib.decDigits size.toNat := ⟨⟨(Lib.decDigits size.toNat).toArray⟩, rfl⟩
  have hxs : x.size ≤ 5 := by rw [← size_list, hx]; exact dec_len5 _ (by omega)
  have hys : y.size ≤ 5 := by rw [← size_list, hy]; exact dec_len5 _ (by omega)
  have hzs : z.size ≤ 5 := by rw [← size_list, hz]; exact dec_len5 _ (by omega)
  have HTT : Hid ((⟨#[98, 121, 116, 101, 115, 32]⟩ : ByteArray) ++ x ++ ⟨#[45]⟩ ++ y ++ ⟨#[47]⟩ ++ z = t) := by
    show _ = _
    apply ByteArray.ext; apply Array.ext'
    rw [ht]
    unfold ctB
    simp [hx, hy, hz]
  have hp : ∀ W : World, Below w.heap.size w W → PowT W := fun W h => hT.below h
  have HA : Hid (∀ W : World, Below w.heap.size w W → Calls Tryd.prog 33 #[.int .i64 a] W fun e w' => e = .returned (.string x) ∧ Below W.heap.size W w') := fun W h => pitoa_at a x h1 (by omega) hx W (hp W h)
  have HB : Hid (∀ W : World, Below w.heap.size w W → Calls Tryd.prog 33 #[.int .i64 (b - 1)] W fun e w' => e = .returned (.string y) ∧ Below W.heap.size W w') := fun W h => pitoa_at (b - 1) y (by omega) (by omega) hy W (hp W h)
  have HC : Hid (∀ W : World, Below w.heap.size w W → Calls Tryd.prog 33 #[.int .i64 size] W fun e w' => e = .returned (.string z) ∧ Below W.heap.size W w') := fun W h => pitoa_at size z (by omega) (by omega) hz W (hp W h)
  have g1 : decide (a < 0) = false := decide_eq_false (by omega)
  have g2 : decide (a < b) = true := decide_eq_true h2
  have g3 : decide (b > size) = false := decide_eq_false (by omega)
  have g4 : decide (size > 99999) = false := decide_eq_false (by omega)
  obtain ⟨d, hd⟩ : ∃ d, b - 1 = d := ⟨_, rfl⟩
  rw [hd] at HB
  have e1 : IntKind.i64.wrap (b - 1) = d := by rw [IntKind.wrap_i64]; omega
  have HG2' : Hid (decide (a < b) = true) := g2
  clear h1 h2 h3 h4 hx hy hz hp hT ht hd
  have hw0 : Below w.heap.size w (w.alloc (.cells #[.int .i64 a, .int .i64 b] 34)) := below_alloc w _
  go_enter Tryd.func12, Tryd.ntmps12
  go_wp2_with fail
  refine (shas_is a b true HG2'.out _).mono ?_
  rintro e w1 ⟨rfl, hb1⟩
  obtain ⟨T, G, x0, hG, HG1, HG2, HG3⟩ := below_class w1
  haveI : Nonempty T := ⟨x0⟩
  subst hG
  have hall : ∀ x, (G x).cell? ⟨w.heap.size, 0, none⟩ = some (.int .i64 a) ∧ (G x).cell? ⟨w.heap.size, 1, none⟩ = some (.int .i64 b) ∧ Below w.heap.size w (G x) := by
    intro x
    have h1 := hb1.trans ((HG1.out x).mono hb1.size)
    exact ⟨new_cell h1 0, new_cell h1 1, below_new h1⟩
  have hc0 : ∀ x, (G x).cell? ⟨w.heap.size, 0, none⟩ = some (.int .i64 a) := fun x => (hall x).1
  have hc1 : ∀ x, (G x).cell? ⟨w.heap.size, 1, none⟩ = some (.int .i64 b) := fun x => (hall x).2.1
  have HBW : Hid (∀ x, Below w.heap.size w (G x)) := fun x => (hall x).2.2
  clear hall hb1
  go_wp2_with fail
  refine region_in G (by kernel_rfl) (by kernel_rfl) (HG3.out _) ?_
  repeat (go_big_quiet_step (first | (go_at_call 33; with_reducible first | exact (HA.out _ (HBW.out _)).mono fun e W h => ⟨h.1, HG2.out _ W h.2⟩ | exact (HB.out _ (HBW.out _)).mono fun e W h => ⟨h.1, HG2.out _ W h.2⟩ | exact (HC.out _ (HBW.out _)).mono fun e W h => ⟨h.1, HG2.out _ W h.2⟩)))
  refine wpQuiet_nil ?_
  rintro _ ⟨x1, rfl⟩
  go_wp2_with fail
  go_ret2
  refine ⟨?_, HBW.out _⟩
  rw [← HTT.out]
  rfl
set_option maxHeartbeats 1000000 in
set_option maxRecDepth 100000 in
theorem scprint_no (a b size : Int) (hn : ¬ (0 ≤ a ∧ a < b ∧ b ≤ size ∧ size ≤ 99999)) (w : World) :
    Calls Tryd.prog 12 #[.agg #[.int .i64 a, .int .i64 b], .int .i64 size] w fun e w' => e = .returned (.tuple #[.string ⟨#[]⟩, .int .i64 1]) ∧ Below w.heap.size w w' := by
  have hw0 : Below w.heap.size w (w.alloc (.cells #[.int .i64 a, .int .i64 b] 34)) := below_alloc w _
  by_cases h1 : a < 0
  · have g1 : decide (a < 0) = true := decide_eq_true h1
    clear hn h1
    go_enter Tryd.func12, Tryd.ntmps12
    go_wp2_with fail
    go_ret2
    exact ⟨rfl, hw0⟩
  · have g1 : decide (a < 0) = false := decide_eq_false h1
    obtain ⟨r, hr⟩ : ∃ r, decide (a < b) = r := ⟨_, rfl⟩
    have HR : Hid (decide (a < b) = r) := hr
    have hrest : r = true → b > size ∨ size > 99999 := by
      intro e
      rw [e] at hr
      have := of_decide_eq_true hr
      omega
    clear hr hn h1
    go_enter Tryd.func12, Tryd.ntmps12
    go_wp2_with fail
    refine (shas_is a b r HR.out _).mono ?_
    rintro e w1 ⟨rfl, hb1⟩
    have hc0 := new_cell hb1 0
    have hc1 := new_cell hb1 1
    have hbw := below_new hb1
    have HBW : Hid (Below w.heap.size w w1) := hbw
    clear hb1 hw0 hbw
    cases r
    · clear hrest
      go_wp2_with fail
      go_ret2
      exact ⟨rfl, HBW.out⟩
    · have hrest := hrest rfl
      by_cases h3 : b > size
      · have g3 : decide (b > size) = true := decide_eq_true h3
        clear hrest h3
        go_wp2_with fail
        go_ret2
        exact ⟨rfl, HBW.out⟩
      · have g3 : decide (b > size) = false := decide_eq_false h3
        have g4 : decide (size > 99999) = true := decide_eq_true (by omega)
        clear hrest h3
        go_wp2_with fail
        go_ret2
        exact ⟨rfl, HBW.out⟩
theorem scprint_at (a b size : Int) (t : ByteArray) (c : Int) (h : prC (a, b) size = (t.data.toList, c)) (w : World) (hT : PowT w) :
    Calls Tryd.prog 12 #[.agg #[.int .i64 a, .int .i64 b], .int .i64 size] w fun e w' => e = .returned (.tuple #[.string t, .int .i64 c]) ∧ Below w.heap.size w w' := by
  by_cases hn : 0 ≤ a ∧ a < b ∧ b ≤ size ∧ size ≤ 99999
  · rw [prC_ok (okC_of hn)] at h
    obtain ⟨h1, h2⟩ := Prod.mk.inj h
    subst h2
    exact scprint_yes a b size t h1.symm hn.1 hn.2.1 hn.2.2.1 hn.2.2.2 w hT
  · obtain ⟨rfl, rfl⟩ := prC_no h hn
    exact scprint_no a b size hn w
end Go.Proofs.YtkmbhgbmdeoppaaDoor

/-
  What ParseContent of package span answers; a text is no longer than the claim allows; the listed variables of package strconv hold what their text lays.
-/
namespace Go.Proofs.YtkmbhgbmdeoppaaDoor
open Go.RowKit

theorem cut_lens {s x y : List UInt8} {d : UInt8} {f : Bool} (h : Lib.cut s [d] = (x, y, f)) : x.length ≤ s.length ∧ y.length ≤ s.length := by
  have hl : (Lib.cut s [d]).1.length ≤ s.length ∧ (Lib.cut s [d]).2.1.length ≤ s.length := by
    unfold Lib.cut
    split
    · simp only [List.length_take, List.length_drop]; omega
    · simp
  rw [h] at hl
  exact hl
theorem cut_bi (s : ByteArray) (d : UInt8) : ∃ (x y : ByteArray) (f : Bool), Lib.cut s.data.toList [d] = (x.data.toList, y.data.toList, f) ∧ x.size ≤ s.size ∧ y.size ≤ s.size := by
  refine ⟨⟨(Lib.cut s.data.toList [d]).1.toArray⟩, ⟨(Lib.cut s.data.toList [d]).2.1.toArray⟩, (Lib.cut s.data.toList [d]).2.2, rfl, ?_⟩
  have h := cut_lens (s := s.data.toList) (d := d) (x := (Lib.cut s.data.toList [d]).1) (y := (Lib.cut s.data.toList [d]).2.1) (f := (Lib.cut s.data.toList [d]).2.2) rfl
  rw [size_list] at h
  exact h
set_option maxHeartbeats 2000000 in
set_option maxRecDepth 100000 in
theorem scparse_at (s : ByteArray) (a b z c : Int) (h : paC s.data.toList = (((a, b), z), c)) (w : World) (hs : s.size ≤ 140737488351232) (hT : STabs w) :
    Calls Tryd.prog 14 #[.string s] w fun e w' => e = .returned (.tuple #[.agg #[.int .i64 a, .int .i64 b], .int .i64 z, .int .i64 c]) ∧ Below w.heap.size w w' := by
  obtain ⟨r, f0, hpre⟩ : ∃ (r : ByteArray) (f : Bool), cutPre s.data.toList [98, 121, 116, 101, 115, 32] = (r.data.toList, f) := ⟨⟨(Lib.trimPrefix s.data.toList [98, 121, 116, 101, 115, 32]).toArray⟩, Lib.hasPrefix s.data.toList [98, 121, 116, 101, 115, 32], rfl⟩
  have hrs : r.size ≤ s.size := by
    have h1 := (Prod.mk.inj hpre).1
    rw [← size_list, ← size_list, ← h1]
    unfold Lib.trimPrefix
    split
    · rw [List.length_drop]; omega
    · omega
  obtain ⟨x, B, f1, hc1, hx1, hx2⟩ := cut_bi r 45
  obtain ⟨y, v, f2, hc2, hy1, hy2⟩ := cut_bi B 47
  have hrA : rdA s.data.toList = r.data.toList := by unfold rdA; rw [hpre]
  have hrB : rdB s.data.toList = B.data.toList := by unfold rdB; rw [hrA, hc1]
  obtain ⟨p, hp⟩ : ∃ p, nmb x.data.toList = p := ⟨_, rfl⟩
  obtain ⟨q, hq⟩ : ∃ q, nmb y.data.toList = q := ⟨_, rfl⟩
  obtain ⟨q1, hq1⟩ : ∃ q1, q + 1 = q1 := ⟨_, rfl⟩
  obtain ⟨n, hn⟩ : ∃ n, nmb v.data.toList = n := ⟨_, rfl⟩
  have hrX : rdX s.data.toList = (p, q1) := by unfold rdX; rw [hrA, hrB, hc1, hc2, hp, hq, hq1]
  have hrN : rdN s.data.toList = n := by unfold rdN; rw [hrB, hc2, hn]
  have e1 : IntKind.i64.wrap (q + 1) = q1 := by
    have := nmb_bd y.data.toList
    rw [IntKind.wrap_i64]; omega
  obtain ⟨t, d, ht⟩ := pair_bi (prC (p, q1) n)
  have HPR : Hid (prC (p, q1) n = (t.data.toList, d)) := ht
  have HC0 : Hid (cutPre s.data.toList (⟨#[98, 121, 116, 101, 115, 32]⟩ : ByteArray).data.toList = (r.data.toList, f0)) := hpre
  have HC1 : Hid (Lib.cut r.data.toList [45] = (x.data.toList, B.data.toList, f1)) := hc1
  have HC2 : Hid (Lib.cut B.data.toList [47] = (y.data.toList, v.data.toList, f2)) := hc2
  have HNX : Hid (nmb x.data.toList = p ∧ x.size ≤ 140737488351232) := ⟨hp, by omega⟩
  have HNY : Hid (nmb y.data.toList = q ∧ y.size ≤ 140737488351232) := ⟨hq, by omega⟩
  have HNV : Hid (nmb v.data.toList = n ∧ v.size ≤ 140737488351232) := ⟨hn, by omega⟩
  have HSZ : Hid (r.size ≤ maxLen ∧ B.size ≤ maxLen) := by constructor <;> (unfold maxLen; omega)
  have HT : Hid (STabs w) := hT
  have HANS : Hid ((d = 0 ∧ t = s ∧ ((p, q1), n) = ((a, b), z) ∧ c = 0) ∨ ((d ≠ 0 ∨ t ≠ s) ∧ a = 0 ∧ b = 0 ∧ z = 0 ∧ c = 3)) := by
    show _ ∨ _
    by_cases hok : okC (p, q1) n = true
    · rw [prC_ok hok] at ht
      obtain ⟨h1, h2⟩ := Prod.mk.inj ht
      by_cases he : t = s
      · refine .inl ⟨h2.symm, he, ?_⟩
        have h3 := rdC_yes (s := s.data.toList) (by rw [hrX, hrN]; exact hok) (by rw [hrX, hrN, h1, he])
        rw [hrX, hrN, h] at h3
        obtain ⟨h4, h5⟩ := Prod.mk.inj h3
        exact ⟨h4.symm, h5⟩
      · refine .inr ⟨.inr he, ?_⟩
        have h3 := rdC_bad (s := s.data.toList) (by rw [hrX, hrN]; exact fun hh => he (by apply ByteArray.ext; apply Array.ext'; rw [← h1]; exact hh.2))
        rw [h] at h3
        simpa [and_assoc] using h3
    · have hokf : okC (p, q1) n = false := by simpa using hok
      rw [prC_bad hokf] at ht
      refine .inr ⟨.inl (by have := (Prod.mk.inj ht).2; omega), ?_⟩
      have h3 := rdC_bad (s := s.data.toList) (by rw [hrX, hrN]; exact fun hh => hok hh.1)
      rw [h] at h3
      simpa [and_assoc] using h3
  clear h hs hT hpre hrs hc1 hc2 hx1 hx2 hy1 hy2 hrA hrB hp hq hq1 hn hrX hrN ht
  go_enter Tryd.func14, Tryd.ntmps14
  go_wp2_with fail
  refine (scutPre_at s ⟨#[98, 121, 116, 101, 115, 32]⟩ r f0 HC0.out _).mono ?_
  rintro e w1 ⟨rfl, hw1⟩
  rw [hw1]
  clear hw1 w1
  go_wp2_with fail
  refine (scut1_at r x B 45 f1 HC1.out _ HSZ.out.1).mono ?_
  rintro e w1 ⟨rfl, nq, hw1⟩
  have hb1 : Below (w.alloc (.cells #[.int .i64 0, .int .i64 0] 34)).heap.size (w.alloc (.cells #[.int .i64 0, .int .i64 0] 34)) w1 := by rw [hw1]; exact drewN_below _ _ _
  clear hw1
  go_wp2_with fail
  refine (scut1_at B y v 47 f2 HC2.out _ HSZ.out.2).mono ?_
  rintro e w2 ⟨rfl, nq, hw2⟩
  have hb2 : Below (w.alloc (.cells #[.int .i64 0, .int .i64 0] 34)).heap.size (w.alloc (.cells #[.int .i64 0, .int .i64 0] 34)) w2 := by
    have h2 : Below w1.heap.size w1 w2 := by rw [hw2]; exact drewN_below _ _ _
    exact hb1.trans (h2.mono hb1.size)
  have HB2 : Hid (Below (w.alloc (.cells #[.int .i64 0, .int .i64 0] 34)).heap.size (w.alloc (.cells #[.int .i64 0, .int .i64 0] 34)) w2) := hb2
  have HT2 : Hid (STabs w2) := HT.out.below (below_new hb2)
  clear hw2 hb1 hb2
  go_wp2_with fail
  refine (snum_at x p HNX.out.1 _ HNX.out.2 HT2.out).mono ?_
  rintro e w3 ⟨rfl, hb3⟩
  have HB3 : Hid (Below (w.alloc (.cells #[.int .i64 0, .int .i64 0] 34)).heap.size (w.alloc (.cells #[.int .i64 0, .int .i64 0] 34)) w3) := HB2.out.trans (hb3.mono HB2.out.size)
  have HT3 : Hid (STabs w3) := HT2.out.below hb3
  clear hb3
  go_wp2_with fail
  refine (snum_at y q HNY.out.1 _ HNY.out.2 HT3.out).mono ?_
  rintro e w4 ⟨rfl, hb4⟩
  have HB4 : Hid (Below (w.alloc (.cells #[.int .i64 0, .int .i64 0] 34)).heap.size (w.alloc (.cells #[.int .i64 0, .int .i64 0] 34)) w4) := HB3.out.trans (hb4.mono HB3.out.size)
  have HT4 : Hid (STabs w4) := HT3.out.below hb4
  clear hb4
  go_wp2_with fail
  refine (snum_at v n HNV.out.1 _ HNV.out.2 HT4.out).mono ?_
  rintro e w5 ⟨rfl, hb5⟩
  have HB5 : Hid (Below (w.alloc (.cells #[.int .i64 0, .int .i64 0] 34)).heap.size (w.alloc (.cells #[.int .i64 0, .int .i64 0] 34)) w5) := HB4.out.trans (hb5.mono HB4.out.size)
  have HT5 : Hid (STabs w5) := HT4.out.below hb5
  clear hb5
  go_wp2_with fail
  refine (scprint_at p q1 n t d HPR.out _ (HT5.out.below (below_alloc _ _)).pow).mono ?_
  rintro e w6 ⟨rfl, hb6⟩
  have HB6 : Hid (Below (w.alloc (.cells #[.int .i64 0, .int .i64 0] 34)).heap.size (w.alloc (.cells #[.int .i64 0, .int .i64 0] 34)) w6) := HB5.out.trans ((below_new hb6).mono HB5.out.size)
  have k0 := new_cell hb6 0
  have k1 := new_cell hb6 1
  obtain ⟨r0, r1, rf, rlt, rb⟩ := two_cells HB6.out
  have f0' := rf 0
  have f1' := rf 1
  have hne : w.heap.size ≠ w5.heap.size := by have := HB5.out.size; simp at this; omega
  have HRB : Hid (Below w.heap.size w w6) := rb
  clear hb6 rf rb
  rcases HANS.out with ⟨rfl, rfl, hv, rfl⟩ | ⟨hno, rfl, rfl, rfl, rfl⟩
  · obtain ⟨hv1, hv2⟩ := Prod.mk.inj hv
    obtain ⟨rfl, rfl⟩ := Prod.mk.inj hv1
    subst hv2
    have hg : (t.toList == t.toList) = true := beq_self_eq_true _
    clear hv hv1
    go_wp2_with fail
    obtain ⟨c0, c1⟩ := two_set (.int .i64 p) (.int .i64 q1) r0 r1
    have HB7 : Hid (Below w.heap.size w ((w6.setCell ⟨w.heap.size, 0, none⟩ (.int .i64 p)).setCell ⟨w.heap.size, 1, none⟩ (.int .i64 q1))) := (HRB.out.setCell (p := ⟨w.heap.size, 0, none⟩) (Nat.le_refl _) _).setCell (p := ⟨w.heap.size, 1, none⟩) (Nat.le_refl _) _
    generalize (w6.setCell ⟨w.heap.size, 0, none⟩ (.int .i64 p)).setCell ⟨w.heap.size, 1, none⟩ (.int .i64 q1) = w7 at c0 c1 HB7 ⊢
    refine bodyPost_ret (by simp [results, Tryd.results14, go_sem, c0, c1]; try rfl) rfl ?_
    exact ⟨rfl, HB7.out⟩
  · by_cases hd : d = 0
    · have hts : t ≠ s := by
        rcases hno with h | h
        · exact absurd hd h
        · exact h
      have hg : (t.toList == s.toList) = false := by
        rw [beq_eq_false_iff_ne, ByteArray.toList_eq, ByteArray.toList_eq]
        intro e; apply hts; apply ByteArray.ext; apply Array.ext'; exact e
      subst hd
      clear hts hno
      go_wp2_with fail
      obtain ⟨c0, c1⟩ := two_set (.int .i64 0) (.int .i64 0) r0 r1
      have HB7 : Hid (Below w.heap.size w ((w6.setCell ⟨w.heap.size, 0, none⟩ (.int .i64 0)).setCell ⟨w.heap.size, 1, none⟩ (.int .i64 0))) := (HRB.out.setCell (p := ⟨w.heap.size, 0, none⟩) (Nat.le_refl _) _).setCell (p := ⟨w.heap.size, 1, none⟩) (Nat.le_refl _) _
      generalize (w6.setCell ⟨w.heap.size, 0, none⟩ (.int .i64 0)).setCell ⟨w.heap.size, 1, none⟩ (.int .i64 0) = w7 at c0 c1 HB7 ⊢
      refine bodyPost_ret (by simp [results, Tryd.results14, go_sem, c0, c1]; try rfl) rfl ?_
      exact ⟨rfl, HB7.out⟩
    · have hdb : (d != 0) = true := by simpa using hd
      clear hno hd
      go_wp2_with fail
      obtain ⟨c0, c1⟩ := two_set (.int .i64 0) (.int .i64 0) r0 r1
      have HB7 : Hid (Below w.heap.size w ((w6.setCell ⟨w.heap.size, 0, none⟩ (.int .i64 0)).setCell ⟨w.heap.size, 1, none⟩ (.int .i64 0))) := (HRB.out.setCell (p := ⟨w.heap.size, 0, none⟩) (Nat.le_refl _) _).setCell (p := ⟨w.heap.size, 1, none⟩) (Nat.le_refl _) _
      generalize (w6.setCell ⟨w.heap.size, 0, none⟩ (.int .i64 0)).setCell ⟨w.heap.size, 1, none⟩ (.int .i64 0) = w7 at c0 c1 HB7 ⊢
      refine bodyPost_ret (by simp [results, Tryd.results14, go_sem, c0, c1]; try rfl) rfl ?_
      exact ⟨rfl, HB7.out⟩
end Go.Proofs.YtkmbhgbmdeoppaaDoor

/-
  What the document's ContentPrint answers; all numbers fit.
-/
namespace Go.Proofs.YtkmbhgbmdeoppaaDoor
open Go.RowKit

set_option maxRecDepth 100000 in
theorem rdig_at (n : Int) (h0 : 0 ≤ n) (hn : n ≤ 9223372036854775807) (t : ByteArray) (ht : t.data.toList = Lib.decDigits n.toNat) (w : World) :
    Calls Tryd.prog 34 #[.int .i64 n] w fun e w' => e = .returned (.string t) ∧ Below w.heap.size w w' := by
  obtain ⟨u, hu⟩ : ∃ u : Nat, n = u := ⟨n.toNat, by omega⟩
  have hT : t = ⟨(Lib.decDigits u).toArray⟩ := by
    have e : n.toNat = u := by omega
    rw [e] at ht
    apply ByteArray.ext; apply Array.ext'; exact ht
  subst hu
  rw [hT]
  exact rdigits_any u u (Nat.le_refl _) (by omega) w
set_option maxHeartbeats 2000000 in
set_option maxRecDepth 100000 in
theorem rcprint_at (a b size : Int) (t : ByteArray) (c : Int) (h : prC (a, b) size = (t.data.toList, c)) (w : World) :
    Calls Tryd.prog 13 #[.agg #[.int .i64 a, .int .i64 b], .int .i64 size] w fun e w' => e = .returned (.tuple #[.string t, .int .i64 c]) ∧ Below w.heap.size w w' := by
  have hw0 := below_alloc w (.cells #[.int .i64 a, .int .i64 b] 34)
  by_cases hok : okC (a, b) size = true
  · rw [prC_ok hok] at h
    obtain ⟨ht, rfl⟩ := Prod.mk.inj h
    have hl := ctB_len hok
    obtain ⟨h1, h2, h3, h4⟩ := okC_is hok
    simp only at h1 h2 h3 h4
    have g1 : ¬ a < 0 := by omega
    have g2 : ¬ b ≤ a := by omega
    have g3 : ¬ size < b := by omega
    have g4 : ¬ 99999 < size := by omega
    have hwr : IntKind.i64.wrap (b - 1) = b - 1 := by rw [IntKind.wrap_i64]; omega
    obtain ⟨x, hx⟩ : ∃ x : ByteArray, x.data.toList = Lib.decDigits a.toNat := ⟨⟨(Lib.decDigits a.toNat).toArray⟩, rfl⟩
    obtain ⟨y, hy⟩ : ∃ y : ByteArray, y.data.toList = Lib.decDigits (b - 1).toNat := ⟨⟨(Lib.decDigits (b - 1).toNat).toArray⟩, rfl⟩
    obtain ⟨z, hz⟩ : ∃ z : ByteArray, z.data.toList = Lib.decDigits size.toNat := ⟨⟨(Lib.decDigits size.toNat).toArray⟩, rfl⟩
    have HE : Hid ((⟨#[98, 121, 116, 101, 115, 32]⟩ : ByteArray) ++ x ++ ⟨#[45]⟩ ++ y ++ ⟨#[47]⟩ ++ z = t) := by
      show _ = _
      apply ByteArray.ext; apply Array.ext'
      rw [← ht]
      unfold ctB
      simp [ByteArray.data_append, hx, hy, hz]
    have hxs : x.size ≤ 5 := by rw [← size_list, hx]; exact dec_len5 _ (by omega)
    have hys : y.size ≤ 5 := by rw [← size_list, hy]; exact dec_len5 _ (by omega)
    have hzs : z.size ≤ 5 := by rw [← size_list, hz]; exact dec_len5 _ (by omega)
    have HCA : Hid (∀ W, Calls Tryd.prog 34 #[.int .i64 a] W fun e w' => e = .returned (.string x) ∧ Below W.heap.size W w') := fun W => rdig_at a (by omega) (by omega) x hx W
    have HCB : Hid (∀ W, Calls Tryd.prog 34 #[.int .i64 (b - 1)] W fun e w' => e = .returned (.string y) ∧ Below W.heap.size W w') := fun W => rdig_at (b - 1) (by omega) (by omega) y hy W
    have HCC : Hid (∀ W, Calls Tryd.prog 34 #[.int .i64 size] W fun e w' => e = .returned (.string z) ∧ Below W.heap.size W w') := fun W => rdig_at size (by omega) (by omega) z hz W
    obtain ⟨T, G, x0, hG, HG1, HG2, HG3⟩ := below_class (w.alloc (.cells #[.int .i64 a, .int .i64 b] 34))
    haveI : Nonempty T := ⟨x0⟩
    have HWK : Hid (w.alloc (.cells #[.int .i64 a, .int .i64 b] 34) = G x0) := hG
    have hall : ∀ x, (G x).cell? ⟨w.heap.size, 0, none⟩ = some (.int .i64 a) ∧ (G x).cell? ⟨w.heap.size, 1, none⟩ = some (.int .i64 b) ∧ Below w.heap.size w (G x) := by
      intro x
      have h1 := HG1.out x
      rw [← hG] at h1
      exact ⟨new_cell h1 0, new_cell h1 1, hw0.trans (h1.mono hw0.size)⟩
    have hc0 : ∀ x, (G x).cell? ⟨w.heap.size, 0, none⟩ = some (.int .i64 a) := fun x => (hall x).1
    have hc1 : ∀ x, (G x).cell? ⟨w.heap.size, 1, none⟩ = some (.int .i64 b) := fun x => (hall x).2.1
    have HBW : Hid (∀ x, Below w.heap.size w (G x)) := fun x => (hall x).2.2
    clear hall hG hw0 h hx hy hz hok ht h1 h2 h3 h4 hl
    go_enter Tryd.func13, Tryd.ntmps13
    go_wp2_with fail
    rw [HWK.out]
    refine region_in G (by kernel_rfl) (by kernel_rfl) (HG3.out _) ?_
    repeat (go_big_quiet_step (first | (go_at_call 34; with_reducible first | exact (HCA.out _).mono fun e W h => ⟨h.1, HG2.out _ W h.2⟩ | exact (HCB.out _).mono fun e W h => ⟨h.1, HG2.out _ W h.2⟩ | exact (HCC.out _).mono fun e W h => ⟨h.1, HG2.out _ W h.2⟩)))
    refine wpQuiet_nil ?_
    rintro _ ⟨x1, rfl⟩
    go_wp2_with fail
    go_ret2
    exact ⟨by rw [← HE.out]; rfl, HBW.out _⟩
  · have hok2 : okC (a, b) size = false := by simpa using hok
    rw [prC_bad hok2] at h
    obtain ⟨ht, rfl⟩ := Prod.mk.inj h
    have HT : Hid (t = ⟨#[]⟩) := by apply ByteArray.ext; apply Array.ext'; exact ht.symm
    have hn : ¬ (0 ≤ a ∧ a < b ∧ b ≤ size ∧ size ≤ 99999) := fun h => by rw [okC_of h] at hok2; cases hok2
    have hcs : a < 0 ∨ (¬ a < 0 ∧ b ≤ a) ∨ (¬ a < 0 ∧ ¬ b ≤ a ∧ size < b) ∨ (¬ a < 0 ∧ ¬ b ≤ a ∧ ¬ size < b ∧ 99999 < size) := by omega
    clear hn hok hok2 h ht
    rcases hcs with g1 | ⟨g1, g2⟩ | ⟨g1, g2, g3⟩ | ⟨g1, g2, g3, g4⟩
    all_goals
      go_enter Tryd.func13, Tryd.ntmps13
      go_wp2_with fail
      go_ret2
      exact ⟨by rw [HT.out]; rfl, hw0⟩
end Go.Proofs.YtkmbhgbmdeoppaaDoor

/-
  What the document's ContentParse answers; a text is no longer than Go allows.
-/
namespace Go.Proofs.YtkmbhgbmdeoppaaDoor
open Go.RowKit

set_option maxHeartbeats 4000000 in
set_option maxRecDepth 100000 in
theorem rcparse_at (s : ByteArray) (a b z c : Int) (h : paC s.data.toList = (((a, b), z), c)) (w : World) (hs : s.size ≤ maxLen) :
    Calls Tryd.prog 15 #[.string s] w fun e w' => e = .returned (.tuple #[.agg #[.int .i64 a, .int .i64 b], .int .i64 z, .int .i64 c]) ∧ Below w.heap.size w w' := by
  obtain ⟨i, hi⟩ : ∃ i, Lib.indexByte s.data.toList 45 = i := ⟨_, rfl⟩
  obtain ⟨j, hj⟩ : ∃ j, Lib.indexByte s.data.toList 47 = j := ⟨_, rfl⟩
  have HI : Hid (Lib.indexByte s.data.toList 45 = i) := hi
  have HJ : Hid (Lib.indexByte s.data.toList 47 = j) := hj
  have e1 : Lib.index s.data.toList [45] = i := by rw [Lib.index_one]; exact hi
  have e2 : Lib.index s.data.toList [47] = j := by rw [Lib.index_one]; exact hj
  have hw0 := below_alloc w (.cells #[.int .i64 0, .int .i64 0] 34)
  have hsz0 : (w.alloc (.cells #[.int .i64 0, .int .i64 0] 34)).heap.size = w.heap.size + 1 := by simp
  obtain ⟨k0, k1, kf, kg, _⟩ := two_cells (Below.refl _ (w.alloc (.cells #[.int .i64 0, .int .i64 0] 34)))
  have kf0 := kf 0
  have kf1 := kf 1
  unfold maxLen at hs
  by_cases hbad : i < 6 ∨ j < i
  · have hr : a = 0 ∧ b = 0 ∧ z = 0 ∧ c = 3 := by
      unfold paC at h
      rw [e1, e2, if_pos hbad] at h
      simp only [Prod.mk.injEq] at h
      obtain ⟨⟨⟨h1, h2⟩, h3⟩, h4⟩ := h
      exact ⟨h1.symm, h2.symm, h3.symm, h4.symm⟩
    obtain ⟨rfl, rfl, rfl, rfl⟩ := hr
    have hcs : (s.size : Int) < 6 ∨ (¬ (s.size : Int) < 6 ∧ i < 6) ∨ (¬ (s.size : Int) < 6 ∧ ¬ i < 6 ∧ j < i) := by omega
    clear h hi hj e1 e2 hbad kf
    rcases hcs with g1 | ⟨g1, g2⟩ | ⟨g1, g2, g3⟩
    all_goals
      go_enter Tryd.func15, Tryd.ntmps15
      go_wp2_with fail
      refine (Tryd.strings_Index_one s 45 _).mono ?_
      rintro e w1 ⟨rfl, rfl⟩
      rw [HI.out]
      go_wp2_with fail
      refine (Tryd.strings_Index_one s 47 _).mono ?_
      rintro e w1 ⟨rfl, rfl⟩
      rw [HJ.out]
      go_wp2_with fail
      refine bodyPost_ret (by simp [results, Tryd.results15, go_sem, k0, k1]; try rfl) rfl ?_
      exact ⟨rfl, hw0⟩
  · obtain ⟨m, rfl⟩ : ∃ m : Nat, i = m := ⟨i.toNat, by omega⟩
    obtain ⟨n, rfl⟩ : ∃ n : Nat, j = n := ⟨j.toNat, by omega⟩
    have hns : n < s.size := by
      rcases idx_one_is s.data.toList 47 with h1 | ⟨k, h1, h2⟩
      · rw [hj] at h1; omega
      · rw [hj] at h1; rw [size_list] at h2; omega
    have hmn : m < n := by
      have : m ≠ n := by
        intro e
        have q1 := (Lib.indexByte_some hi).1
        have q2 := (Lib.indexByte_some hj).1
        rw [e, q2] at q1; simp at q1
      omega
    have hm6 : 6 ≤ m := by omega
    obtain ⟨p, hpl, hps, hsl1⟩ := slice_part s 6 m hm6 (by omega)
    obtain ⟨q, hql, hqs, hsl2⟩ := slice_part s (m + 1) n (by omega) (by omega)
    obtain ⟨r, hrl, hrs, hsl3⟩ := slice_from s (n + 1) (by omega)
    have sl1 : ∀ W, (Instr.slice 9 (.string s) (some (.int .i64 6)) (some (.int .i64 (m : Int))) none).run Tryd.prog W = .ok (.string p) W := hsl1
    have sl2 : ∀ W, (Instr.slice 9 (.string s) (some (.int .i64 ((m : Int) + 1))) (some (.int .i64 (n : Int))) none).run Tryd.prog W = .ok (.string q) W := fun W => by
      have := hsl2 W
      rwa [show ((m + 1 : Nat) : Int) = (m : Int) + 1 by omega] at this
    have sl3 : ∀ W, (Instr.slice 9 (.string s) (some (.int .i64 ((n : Int) + 1))) none none).run Tryd.prog W = .ok (.string r) W := fun W => by
      have := hsl3 W
      rwa [show ((n + 1 : Nat) : Int) = (n : Int) + 1 by omega] at this
    obtain ⟨x1, hx1⟩ : ∃ x1, cnt p.data.toList 99999 = x1 := ⟨_, rfl⟩
    obtain ⟨x2, hx2⟩ : ∃ x2, cnt q.data.toList 99999 = x2 := ⟨_, rfl⟩
    obtain ⟨x3, hx3⟩ : ∃ x3, cnt r.data.toList 99999 = x3 := ⟨_, rfl⟩
    have b1 := cnt_most p.data.toList 99999 (by omega)
    have b2 := cnt_most q.data.toList 99999 (by omega)
    rw [hx1] at b1
    rw [hx2] at b2
    have hX : paX s.data.toList = (x1, x2 + 1) := by
      unfold paX
      rw [e1, e2, ← hx1, ← hx2, hpl, hql]
      simp only [Int.toNat_natCast, List.drop_take]
    have hN : paN s.data.toList = x3 := by
      unfold paN
      rw [e2, ← hx3, hrl]; rfl
    obtain ⟨t, d, hpr⟩ := pair_bi (prC (x1, x2 + 1) x3)
    have HPR : Hid (prC (x1, x2 + 1) x3 = (t.data.toList, d)) := hpr
    have hgood : d = 0 → t = s → a = x1 ∧ b = x2 + 1 ∧ z = x3 ∧ c = 0 := by
      intro hd ht
      subst hd ht
      have hok : okC (x1, x2 + 1) x3 = true := by
        cases hq : okC (x1, x2 + 1) x3 with
        | true => rfl
        | false => rw [prC_bad hq] at hpr; cases (Prod.mk.inj hpr).2
      rw [prC_ok hok] at hpr
      unfold paC at h
      rw [e1, e2, if_neg hbad, hX, hN, if_pos ⟨hok, (Prod.mk.inj hpr).1⟩] at h
      simp only [Prod.mk.injEq] at h
      obtain ⟨⟨⟨h1, h2⟩, h3⟩, h4⟩ := h
      exact ⟨h1.symm, h2.symm, h3.symm, h4.symm⟩
    have hno : ¬ (d = 0 ∧ t = s) → a = 0 ∧ b = 0 ∧ z = 0 ∧ c = 3 := by
      intro hn
      have : ¬ (okC (x1, x2 + 1) x3 = true ∧ ctB (x1, x2 + 1) x3 = s.data.toList) := by
        rintro ⟨hok, hct⟩
        rw [prC_ok hok] at hpr
        exact hn ⟨(Prod.mk.inj hpr).2.symm, by apply ByteArray.ext; apply Array.ext'; rw [← (Prod.mk.inj hpr).1, hct]⟩
      unfold paC at h
      rw [e1, e2, if_neg hbad, hX, hN, if_neg this] at h
      simp only [Prod.mk.injEq] at h
      obtain ⟨⟨⟨h1, h2⟩, h3⟩, h4⟩ := h
      exact ⟨h1.symm, h2.symm, h3.symm, h4.symm⟩
    have HGOOD : Hid (d = 0 → t = s → a = x1 ∧ b = x2 + 1 ∧ z = x3 ∧ c = 0) := hgood
    have HNO : Hid (¬ (d = 0 ∧ t = s) → a = 0 ∧ b = 0 ∧ z = 0 ∧ c = 3) := hno
    have HX1 : Hid (cnt p.data.toList 99999 = x1) := hx1
    have HX2 : Hid (cnt q.data.toList 99999 = x2) := hx2
    have HX3 : Hid (cnt r.data.toList 99999 = x3) := hx3
    have hw1 : IntKind.i64.wrap ((m : Int) + 1) = (m : Int) + 1 := by rw [IntKind.wrap_i64]; omega
    have hw2 : IntKind.i64.wrap ((n : Int) + 1) = (n : Int) + 1 := by rw [IntKind.wrap_i64]; omega
    have hw3 : IntKind.i64.wrap (x2 + 1) = x2 + 1 := by rw [IntKind.wrap_i64]; omega
    have hpz : p.size ≤ maxLen := by unfold maxLen; omega
    have hqz : q.size ≤ maxLen := by unfold maxLen; omega
    have hrz : r.size ≤ maxLen := by unfold maxLen; omega
    have HCP : Hid (∀ W, Calls Tryd.prog 31 #[.string p, .int .i64 99999] W fun e w' => e = .returned (.int .i64 x1) ∧ w' = W) := fun W => by
      have := count_any p 99999 W hpz
      rwa [HX1.out] at this
    have HCQ : Hid (∀ W, Calls Tryd.prog 31 #[.string q, .int .i64 99999] W fun e w' => e = .returned (.int .i64 x2) ∧ w' = W) := fun W => by
      have := count_any q 99999 W hqz
      rwa [HX2.out] at this
    have HCR : Hid (∀ W, Calls Tryd.prog 31 #[.string r, .int .i64 99999] W fun e w' => e = .returned (.int .i64 x3) ∧ w' = W) := fun W => by
      have := count_any r 99999 W hrz
      rwa [HX3.out] at this
    have g1 : ¬ (s.size : Int) < 6 := by omega
    have g2 : ¬ (m : Int) < 6 := by omega
    have g3 : ¬ (n : Int) < (m : Int) := by omega
    clear h hi hj e1 e2 hbad kf hpl hql hrl hsl1 hsl2 hsl3 hx1 hx2 hx3 hX hN hpr hgood hno hpz hqz hrz HX1 HX2 HX3
    go_enter Tryd.func15, Tryd.ntmps15
    go_wp2_with fail
    refine (Tryd.strings_Index_one s 45 _).mono ?_
    rintro e w1 ⟨rfl, rfl⟩
    rw [HI.out]
    go_wp2_with fail
    refine (Tryd.strings_Index_one s 47 _).mono ?_
    rintro e w1 ⟨rfl, rfl⟩
    rw [HJ.out]
    go_wp2_with fail
    go_region_held3 (fun _ => True) (trivial) (first | (go_at_call 31; first | (with_reducible refine (HCP.out _).mono ?_; rintro e w3 ⟨rfl, rfl⟩) | (with_reducible refine (HCQ.out _).mono ?_; rintro e w3 ⟨rfl, rfl⟩)))
    all_goals
      go_wp2_with fail
      refine (HCR.out _).mono ?_
      rintro e w3 ⟨rfl, rfl⟩
      go_wp2_with fail
      refine (rcprint_at x1 (x2 + 1) x3 t d HPR.out _).mono ?_
      rintro e w3 ⟨rfl, hb3⟩
      have hf0 : w3.cell? ⟨w.heap.size, 0, none⟩ = some (.int .i64 0) := (hb3.cell (p := ⟨w.heap.size, 0, none⟩) (by simp; omega)).trans (by simp)
      have hf1 : w3.cell? ⟨w.heap.size, 1, none⟩ = some (.int .i64 0) := (hb3.cell (p := ⟨w.heap.size, 1, none⟩) (by simp; omega)).trans (by simp)
      have hf2 : w3.cell? ⟨w.heap.size + 1, 0, none⟩ = some (.int .i64 x1) := (hb3.cell (p := ⟨w.heap.size + 1, 0, none⟩) (by simp)).trans (by simp)
      have hf3 : w3.cell? ⟨w.heap.size + 1, 1, none⟩ = some (.int .i64 (x2 + 1)) := (hb3.cell (p := ⟨w.heap.size + 1, 1, none⟩) (by simp)).trans (by simp)
      have hfz : ∀ o, w3.frozen? ⟨w.heap.size, o, none⟩ = false := fun o => (hb3.frozen (p := ⟨w.heap.size, o, none⟩) (by simp; omega)).trans (by simp)
      have hz0 := hfz 0
      have hz1 := hfz 1
      have hbel : Below w.heap.size w w3 := (((Below.refl _ w).alloc (Nat.le_refl _) _).alloc (by simp) _).drew.trans (hb3.mono (by simp; omega))
      have hgs3 : w.heap.size + 1 < w3.heap.size := by have := hb3.size; simp at this; omega
      clear hb3 hfz
      by_cases hd : d = 0
      · subst hd
        by_cases hus : t = s
        · subst hus
          obtain ⟨rfl, rfl, rfl, rfl⟩ := HGOOD.out rfl rfl
          go_wp2_with fail
          obtain ⟨c0, c1⟩ := two_set (.int .i64 a) (.int .i64 (x2 + 1)) hf0 hf1
          obtain ⟨w4, hw4⟩ : ∃ w4, w4 = (w3.setCell ⟨w.heap.size, 0, none⟩ (.int .i64 a)).setCell ⟨w.heap.size, 1, none⟩ (.int .i64 (x2 + 1)) := ⟨_, rfl⟩
          have hb4 : Below w.heap.size w w4 := by rw [hw4]; exact (hbel.setCell (p := ⟨w.heap.size, 0, none⟩) (Nat.le_refl _) _).setCell (p := ⟨w.heap.size, 1, none⟩) (Nat.le_refl _) _
          rw [← hw4] at c0 c1 ⊢
          clear hw4
          refine bodyPost_ret (by simp [results, Tryd.results15, go_sem, c0, c1]; try rfl) rfl ?_
          exact ⟨rfl, hb4⟩
        · have hne : (t.toList == s.toList) = false := by
            rw [beq_eq_false_iff_ne, ByteArray.toList_eq, ByteArray.toList_eq]
            intro e; apply hus; apply ByteArray.ext; apply Array.ext'; exact e
          obtain ⟨rfl, rfl, rfl, rfl⟩ := HNO.out (fun e => hus e.2)
          go_wp2_with fail
          obtain ⟨c0, c1⟩ := two_set (.int .i64 0) (.int .i64 0) hf0 hf1
          obtain ⟨w4, hw4⟩ : ∃ w4, w4 = (w3.setCell ⟨w.heap.size, 0, none⟩ (.int .i64 0)).setCell ⟨w.heap.size, 1, none⟩ (.int .i64 0) := ⟨_, rfl⟩
          have hb4 : Below w.heap.size w w4 := by rw [hw4]; exact (hbel.setCell (p := ⟨w.heap.size, 0, none⟩) (Nat.le_refl _) _).setCell (p := ⟨w.heap.size, 1, none⟩) (Nat.le_refl _) _
          rw [← hw4] at c0 c1 ⊢
          clear hw4
          refine bodyPost_ret (by simp [results, Tryd.results15, go_sem, c0, c1]; try rfl) rfl ?_
          exact ⟨rfl, hb4⟩
      · have hdb : (d != 0) = true := by simpa using hd
        obtain ⟨rfl, rfl, rfl, rfl⟩ := HNO.out (fun e => hd e.1)
        go_wp2_with fail
        obtain ⟨c0, c1⟩ := two_set (.int .i64 0) (.int .i64 0) hf0 hf1
        obtain ⟨w4, hw4⟩ : ∃ w4, w4 = (w3.setCell ⟨w.heap.size, 0, none⟩ (.int .i64 0)).setCell ⟨w.heap.size, 1, none⟩ (.int .i64 0) := ⟨_, rfl⟩
        have hb4 : Below w.heap.size w w4 := by rw [hw4]; exact (hbel.setCell (p := ⟨w.heap.size, 0, none⟩) (Nat.le_refl _) _).setCell (p := ⟨w.heap.size, 1, none⟩) (Nat.le_refl _) _
        rw [← hw4] at c0 c1 ⊢
        clear hw4
        refine bodyPost_ret (by simp [results, Tryd.results15, go_sem, c0, c1]; try rfl) rfl ?_
        exact ⟨rfl, hb4⟩
end Go.Proofs.YtkmbhgbmdeoppaaDoor

/-
  The walk through SpanContents: it answers true and turns nothing that was there; a text is no longer than the claim allows; the listed variables of package strconv hold what their text lays.
-/
namespace Go.Proofs.YtkmbhgbmdeoppaaDoor
open Go.RowKit

set_option maxHeartbeats 4000000 in
set_option maxRecDepth 100000 in
theorem walkSpanContents (a0 b0 a1 : Int) (a2 : ByteArray) (w : World) (_z0 : (Lit.int .i64 a0).wf = true) (_y0 : (Lit.int .i64 b0).wf = true) (_z1 : (Lit.int .i64 a1).wf = true) (z2 : a2.size ≤ 140737488351232) (ht : STabs w) :
    Calls Tryd.prog 5 #[.agg #[.int .i64 a0, .int .i64 b0], .int .i64 a1, .string a2] w fun e w' => e = .returned (.bool true) ∧ Below w.heap.size w w' := by
  obtain ⟨t, c, hp⟩ := pair_bi (prC (a0, b0) a1)
  obtain ⟨p, q, n, f, hr⟩ : ∃ p q n f, paC a2.data.toList = (((p, q), n), f) := ⟨_, _, _, _, rfl⟩
  have HP : Hid (prC (a0, b0) a1 = (t.data.toList, c)) := hp
  have HR : Hid (paC a2.data.toList = (((p, q), n), f)) := hr
  have HZ : Hid (a2.size ≤ 140737488351232 ∧ a2.size ≤ maxLen) := ⟨z2, by unfold maxLen; omega⟩
  have HT : Hid (STabs w) := ht
  clear hp hr z2 ht
  go_enter Tryd.func5, Tryd.ntmps5
  go_wp2_with fail
  refine (scprint_at a0 b0 a1 t c HP.out _ (HT.out.below (below_alloc _ _)).pow).mono ?_
  rintro e w1 ⟨rfl, hb1⟩
  have HB1 : Hid (Below (w.alloc (.cells #[.int .i64 a0, .int .i64 b0] 34)).heap.size (w.alloc (.cells #[.int .i64 a0, .int .i64 b0] 34)) w1) := hb1
  have k0 := new_cell hb1 0
  have k1 := new_cell hb1 1
  clear hb1
  go_wp2_with fail
  refine (rcprint_at a0 b0 a1 t c HP.out _).mono ?_
  rintro e w2 ⟨rfl, hb2⟩
  have HB2 : Hid (Below (w.alloc (.cells #[.int .i64 a0, .int .i64 b0] 34)).heap.size (w.alloc (.cells #[.int .i64 a0, .int .i64 b0] 34)) w2) := HB1.out.trans (hb2.mono HB1.out.size)
  clear hb2 HB1 k0 k1
  have HW2 : Hid (Below w.heap.size w w2) := below_new HB2.out
  go_wp2_with fail
  refine (scparse_at a2 p q n f HR.out _ HZ.out.1 (HT.out.below HW2.out)).mono ?_
  rintro e w3 ⟨rfl, hb3⟩
  have HW3 : Hid (Below w.heap.size w w3) := HW2.out.trans (hb3.mono HW2.out.size)
  clear hb3
  go_wp2_with fail
  refine (rcparse_at a2 p q n f HR.out _ HZ.out.2).mono ?_
  rintro e w4 ⟨rfl, hb4⟩
  have k0 := new_cell hb4 0
  have k1 := new_cell hb4 1
  have hw4 : Below w3.heap.size w3 w4 := below_new hb4
  have hlt : w3.heap.size < w4.heap.size := by have := hb4.size; simp at this; omega
  have HW4 : Hid (Below w.heap.size w w4) := HW3.out.trans (hw4.mono HW3.out.size)
  clear hb4 hw4
  go_wp2_with fail
  go_ret
  exact ⟨by first | rfl | simp, HW4.out.alloc HW4.out.size _⟩
end Go.Proofs.YtkmbhgbmdeoppaaDoor

/-
  What IsToken and inToken compute, each a contract over the program's text; no condition but that a string is no longer than Go allows.
-/
namespace Go.Proofs.YtkmbhgbmdeoppaaDoor
open Go.RowKit

def signs : List UInt8 := [33, 35, 36, 37, 38, 39, 42, 43, 45, 46, 94, 95, 96, 124, 126]

theorem isTok_a (c : UInt8) (h : 97 ≤ (c.toNat : Int) ∧ (c.toNat : Int) ≤ 122) : isTok c = true := by
  unfold isTok; simp [UInt8.le_iff_toNat_le]; omega
theorem isTok_b (c : UInt8) (h : 65 ≤ (c.toNat : Int) ∧ (c.toNat : Int) ≤ 90) : isTok c = true := by
  unfold isTok; simp [UInt8.le_iff_toNat_le]; omega
theorem isTok_c (c : UInt8) (h : 48 ≤ (c.toNat : Int) ∧ (c.toNat : Int) ≤ 57) : isTok c = true := by
  unfold isTok; simp [UInt8.le_iff_toNat_le]; omega
theorem isTok_d (c : UInt8) (ha : ¬ (97 ≤ (c.toNat : Int) ∧ (c.toNat : Int) ≤ 122)) (hb : ¬ (65 ≤ (c.toNat : Int) ∧ (c.toNat : Int) ≤ 90)) (hc : ¬ (48 ≤ (c.toNat : Int) ∧ (c.toNat : Int) ≤ 57)) :
    isTok c = decide (0 ≤ Lib.indexByte [33, 35, 36, 37, 38, 39, 42, 43, 45, 46, 94, 95, 96, 124, 126] c) := by
  rw [← Lib.contains_iff_indexByte]
  have a : (97 ≤ c && c ≤ 122) = false := by rw [Bool.eq_false_iff]; simp [UInt8.le_iff_toNat_le]; omega
  have b : (65 ≤ c && c ≤ 90) = false := by rw [Bool.eq_false_iff]; simp [UInt8.le_iff_toNat_le]; omega
  have d : (48 ≤ c && c ≤ 57) = false := by rw [Bool.eq_false_iff]; simp [UInt8.le_iff_toNat_le]; omega
  unfold isTok
  rw [a, b, d]; rfl

set_option maxHeartbeats 400000 in
set_option maxRecDepth 100000 in
theorem inToken_any (c : UInt8) (w : World) :
    Calls Tryd.prog 58 #[.int .u8 (c.toNat : Int)] w fun e w' => e = .returned (.bool (isTok c)) ∧ w' = w := by
  have hlt : (c.toNat : Int) < 256 := by have := c.toNat_lt; omega
  have hge : 0 ≤ (c.toNat : Int) := by omega
  rcases (show (c.toNat : Int) < 48 ∨ (48 ≤ (c.toNat : Int) ∧ (c.toNat : Int) ≤ 57) ∨ (58 ≤ (c.toNat : Int) ∧ (c.toNat : Int) ≤ 64) ∨ (65 ≤ (c.toNat : Int) ∧ (c.toNat : Int) ≤ 90) ∨ (91 ≤ (c.toNat : Int) ∧ (c.toNat : Int) ≤ 96) ∨ (97 ≤ (c.toNat : Int) ∧ (c.toNat : Int) ≤ 122) ∨ 123 ≤ (c.toNat : Int) from by omega) with h | ⟨h, h'⟩ | ⟨h, h'⟩ | ⟨h, h'⟩ | ⟨h, h'⟩ | ⟨h, h'⟩ | h
  all_goals first
    | rw [isTok_a c (by omega)]
    | rw [isTok_b c (by omega)]
    | rw [isTok_c c (by omega)]
    | rw [isTok_d c (by omega) (by omega) (by omega)]
  all_goals
    go_enter Tryd.func58, Tryd.ntmps58
    go_wp2_with (go_at_call 81; refine (Tryd.strings_IndexByte _ _ _).mono ?_; rintro e w' ⟨rfl, rfl⟩)
    go_ret
    exact ⟨rfl, rfl⟩

set_option maxHeartbeats 400000 in
set_option maxRecDepth 100000 in
theorem isToken_any (s : ByteArray) (w : World) (hs : s.size ≤ maxLen) :
    Calls Tryd.prog 37 #[.string s] w fun e w' => e = .returned (.bool (token s.data.toList)) ∧ w' = w := by
  unfold maxLen at hs
  go_enter Tryd.func37, Tryd.ntmps37
  go_wp2_with fail
  go_loop [6] (fun i => ∃ k : Nat, k ≤ s.size ∧ i = .int .i64 k ∧ (s.data.toList.take k).all isTok = true) (fun i => s.size - (intOf i).toNat)
  case atStart => exact ⟨0, Nat.zero_le _, rfl, rfl⟩
  case round =>
    obtain ⟨k, hk, rfl, hall⟩ := hrel
    have HA : Hid ((s.data.toList.take k).all isTok = true) := hall
    clear hall
    by_cases hlt : k < s.size
    · cases ht : isTok s[k]
      · have HT : Hid (isTok s[k] = false) := ht
        clear ht
        go_wp2_with fail
        refine (inToken_any _ _).mono ?_
        rintro e w' ⟨rfl, rfl⟩
        rw [HT.out]
        go_wp2_with fail
        go_ret
        refine ⟨ret_bool ?_, rfl⟩
        rw [token, all_false s isTok k hlt HT.out, Bool.and_false]
      · have HT : Hid (isTok s[k] = true) := ht
        clear ht
        go_wp2_with fail
        refine (inToken_any _ _).mono ?_
        rintro e w' ⟨rfl, rfl⟩
        rw [HT.out]
        go_wp2_with fail
        go_round
        case rel => exact ⟨k + 1, by omega, by go_num, by rw [take_snoc s k hlt, List.all_append, HA.out]; simp [HT.out]⟩
        case measure => simp [intOf]; omega
    · obtain rfl : k = s.size := by omega
      go_wp2_with fail
      go_ret
      refine ⟨ret_bool ?_, rfl⟩
      have h := HA.out
      rw [take_all] at h
      rw [token, h, ByteArray.toList_eq, Bool.and_true]
end Go.Proofs.YtkmbhgbmdeoppaaDoor
