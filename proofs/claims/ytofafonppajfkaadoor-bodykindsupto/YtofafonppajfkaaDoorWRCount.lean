/-
  What count of the document's answers computes, a contract over the program's text; no condition but that a string is no longer than Go allows.
-/
import Derived.Test.YtofafonppajfkaaDoorSpecCn
import Derived.Test.YtofafonppajfkaaDoorShelf
namespace Go.Proofs.YtofafonppajfkaaDoor
open Go.RowKit

theorem ret_in {a b : Int} (h : a = b) : Ending.returned (.int .i64 a) = .returned (.int .i64 b) := by rw [h]
theorem head_at (s : ByteArray) (h : 0 < s.size) : s.data.toList.head? = some s[0] := by
  have h' : 0 < s.data.toList.length := by rw [size_list]; exact h
  rw [List.head?_eq_getElem?, List.getElem?_eq_getElem h']
  rfl
theorem numb_18 (l : List UInt8) (h : l.all isDig = true) (hl : l.length ≤ 18) : 0 ≤ numb l ∧ numb l < 1000000000000000000 := by
  obtain ⟨a, b⟩ := numb_dig l h
  refine ⟨a, Int.lt_of_lt_of_le b ?_⟩
  have : (10 : Nat) ^ l.length ≤ 10 ^ 18 := Nat.pow_le_pow_right (by decide) hl
  have e : ((10 : Nat) ^ l.length : Int) = (10 : Int) ^ l.length := rfl
  omega

theorem cnt_no (l : List UInt8) (most : Int) (h : l.length = 0 ∨ 18 < l.length ∨ (1 < l.length ∧ l.head? = some 48) ∨ l.all isDig = false) : cnt l most = -1 := if_pos h
theorem cnt_big (l : List UInt8) (most : Int) (h : most < numb l) : cnt l most = -1 := by
  unfold cnt; split <;> first | rfl | exact if_pos h
theorem cnt_yes (l : List UInt8) (most : Int) (h : ¬ (l.length = 0 ∨ 18 < l.length ∨ (1 < l.length ∧ l.head? = some 48) ∨ l.all isDig = false)) (h' : ¬ most < numb l) : cnt l most = numb l := by
  unfold cnt; rw [if_neg h, if_neg h']

set_option maxHeartbeats 1000000 in
set_option maxRecDepth 100000 in
theorem count_go (s : ByteArray) (most : Int) (w : World) (h0 : s.size ≠ 0) (h18 : s.size ≤ 18) (hh : ¬ (1 < s.size ∧ s.data.toList.head? = some 48)) :
    Calls Tryd.prog 27 #[.string s, .int .i64 most] w fun e w' => e = .returned (.int .i64 (cnt s.data.toList most)) ∧ w' = w := by
  have hp : 0 < s.size := by omega
  have hl : s.data.toList.length = s.size := size_list s
  have HN : Hid (s.data.toList.all isDig = true → ¬ (s.data.toList.length = 0 ∨ 18 < s.data.toList.length ∨ (1 < s.data.toList.length ∧ s.data.toList.head? = some 48) ∨ s.data.toList.all isDig = false)) := by
    intro ha
    rintro (g | g | g | g)
    · omega
    · omega
    · exact hh (by rw [hl] at g; exact g)
    · rw [ha] at g; cases g
  have HF : Hid (s.data.toList.all isDig = false → cnt s.data.toList most = -1) := fun h => cnt_no _ _ (.inr (.inr (.inr h)))
  have he : s.toList.isEmpty = false := by rw [ByteArray.toList_eq, isEmpty_size]; simpa using h0
  have hd : decide (18 < (s.size : Int)) = false := decide_eq_false (by omega)
  have HE : Hid (s.size = 1 ∨ 1 < s.size ∧ s[0] ≠ 48) := by
    by_cases h1 : s.size = 1
    · exact .inl h1
    · exact .inr ⟨by omega, fun h => hh ⟨by omega, by rw [head_at s hp, h]⟩⟩
  clear hl hh
  have two : ∀ b : Bool, decide (1 < (s.size : Int)) = b → (b = true → ((s[0].toNat : Int) == 48) = false) → 
    Calls Tryd.prog 27 #[.string s, .int .i64 most] w fun e w' => e = .returned (.int .i64 (cnt s.data.toList most)) ∧ w' = w := by
    intro b hb hz
    cases b
    all_goals
      first | replace hz := hz rfl | clear hz
      go_enter Tryd.func27, Tryd.ntmps27
      go_wp2_with fail
      go_loop [5, 26] (fun n i => ∃ k : Nat, k ≤ s.size ∧ i = .int .i64 k ∧ n = .int .i64 (numb (s.data.toList.take k)) ∧ (s.data.toList.take k).all isDig = true) (fun _ i => s.size - (intOf i).toNat)
      case atStart => exact ⟨0, Nat.zero_le _, rfl, rfl, rfl⟩
      case round =>
        obtain ⟨k, hk, rfl, rfl, ha⟩ := hrel
        have HA : Hid ((s.data.toList.take k).all isDig = true) := ha
        have hbd := numb_18 _ ha (by rw [List.length_take, size_list]; omega)
        clear ha
        by_cases hlt : k < s.size
        · have HS : Hid (numb (s.data.toList.take (k + 1)) = numb (s.data.toList.take k) * 10 + (s[k].toNat : Int) - 48) := by
            show numb _ = _
            rw [take_snoc s k hlt, numb_snoc]
          have hc := s[k].toNat_lt
          by_cases c1 : (s[k].toNat : Int) < 48
          · have HX : Hid (s.data.toList.all isDig = false) := all_false s isDig k hlt (by
              cases h : isDig s[k]
              · rfl
              · have := (dig_iff _).1 h; omega)
            go_wp2_with fail
            go_ret
            exact ⟨ret_in (HF.out HX.out).symm, rfl⟩
          · by_cases c2 : 57 < (s[k].toNat : Int)
            · have HX : Hid (s.data.toList.all isDig = false) := all_false s isDig k hlt (by
                cases h : isDig s[k]
                · rfl
                · have := (dig_iff _).1 h; omega)
              go_wp2_with fail
              go_ret
              exact ⟨ret_in (HF.out HX.out).symm, rfl⟩
            · have hb2 := numb_18 (s.data.toList.take (k + 1)) (by
                rw [take_snoc s k hlt, List.all_append, HA.out, List.all_cons, (dig_iff _).2 (by omega)]; rfl) (by rw [List.length_take, size_list]; omega)
              rw [HS.out] at hb2
              have c3 : 48 ≤ (s[k].toNat : Int) := by omega
              have c4 : (s[k].toNat : Int) ≤ 57 := by omega
              clear c1 c2
              go_wp2_with fail
              go_round
              case rel => exact ⟨k + 1, by omega, by go_num, by rw [HS.out]; go_num, by rw [take_snoc s k hlt, List.all_append, HA.out, List.all_cons, (dig_iff _).2 (by omega)]; rfl⟩
              case measure => simp [intOf]; omega
        · obtain rfl : k = s.size := by omega
          have HA' : Hid (s.data.toList.all isDig = true) := by have := HA.out; rw [take_all] at this; exact this
          by_cases hm : most < numb (s.data.toList.take s.size)
          · have HM : Hid (most < numb s.data.toList) := by rw [take_all] at hm; exact hm
            go_wp2_with fail
            go_ret
            exact ⟨ret_in (cnt_big _ _ HM.out).symm, rfl⟩
          · have HM : Hid (numb s.data.toList ≤ most) := by rw [take_all] at hm; exact Int.not_lt.1 hm
            go_wp2_with fail
            go_ret
            exact ⟨ret_in (by rw [cnt_yes _ _ (HN.out HA'.out) (Int.not_lt.2 HM.out), take_all]), rfl⟩
  rcases HE.out with h1 | ⟨h1, h2⟩
  · exact two false (decide_eq_false (by omega)) (fun h => by cases h)
  · refine two true (decide_eq_true (by omega)) (fun _ => ?_)
    rw [beq_eq_false_iff_ne]
    intro h
    apply h2
    apply UInt8.toNat_inj.1
    show s[0].toNat = 48
    omega

set_option maxHeartbeats 1000000 in
theorem count_any (s : ByteArray) (most : Int) (w : World) (hs : s.size ≤ maxLen) :
    Calls Tryd.prog 27 #[.string s, .int .i64 most] w fun e w' => e = .returned (.int .i64 (cnt s.data.toList most)) ∧ w' = w := by
  unfold maxLen at hs
  have hl : s.data.toList.length = s.size := size_list s
  by_cases h0 : s.size = 0
  · have HC : Hid (cnt s.data.toList most = -1) := cnt_no _ _ (.inl (by omega))
    have he : s.toList.isEmpty = true := by rw [ByteArray.toList_eq, isEmpty_size]; simpa using h0
    clear hl
    go_enter Tryd.func27, Tryd.ntmps27
    go_wp2_with fail
    go_ret
    exact ⟨ret_in HC.out.symm, rfl⟩
  by_cases h18 : 18 < s.size
  · have HC : Hid (cnt s.data.toList most = -1) := cnt_no _ _ (.inr (.inl (by omega)))
    have he : s.toList.isEmpty = false := by rw [ByteArray.toList_eq, isEmpty_size]; simpa using h0
    have hd : decide (18 < (s.size : Int)) = true := decide_eq_true (by omega)
    clear hl
    go_enter Tryd.func27, Tryd.ntmps27
    go_wp2_with fail
    go_ret
    exact ⟨ret_in HC.out.symm, rfl⟩
  by_cases hh : 1 < s.size ∧ s.data.toList.head? = some 48
  · have HC : Hid (cnt s.data.toList most = -1) := cnt_no _ _ (.inr (.inr (.inl (by rw [hl]; exact hh))))
    have he : s.toList.isEmpty = false := by rw [ByteArray.toList_eq, isEmpty_size]; simpa using h0
    have hd : decide (18 < (s.size : Int)) = false := decide_eq_false (by omega)
    have h1 := hh.1
    have hp : 0 < s.size := by omega
    have hd1 : decide (1 < (s.size : Int)) = true := decide_eq_true (by omega)
    have hz : s[0] = 48 := by have := hh.2; rw [head_at s hp] at this; exact Option.some.inj this
    have hq : ((s[0].toNat : Int) == 48) = true := by rw [hz]; rfl
    clear hl hh hz
    go_enter Tryd.func27, Tryd.ntmps27
    go_wp2_with fail
    go_ret
    exact ⟨ret_in HC.out.symm, rfl⟩
  exact count_go s most w h0 (by omega) hh
end Go.Proofs.YtofafonppajfkaaDoor
