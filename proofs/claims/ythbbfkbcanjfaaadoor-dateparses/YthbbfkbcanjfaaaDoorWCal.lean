/-
  What the calendar of package date computes: isLeap, monthLength, leapsAhead, daysAhead, yearOf and Civil, each a contract over the program's text.
-/
import Derived.Test.YthbbfkbcanjfaaaDoorSpecCal
import Derived.Test.YthbbfkbcanjfaaaDoorRows
namespace Go.Proofs.YthbbfkbcanjfaaaDoor
open Go.RowKit

theorem ret_int {k : IntKind} {a b : Int} (h : a = b) : Ending.returned (.int k a) = .returned (.int k b) := by rw [h]
theorem ret_ie {a b c d : Int} (h : a = b) (h' : c = d) : Ending.returned (.tuple #[.int .i64 a, .int .i64 c]) = .returned (.tuple #[.int .i64 b, .int .i64 d]) := by rw [h, h']

theorem lpB_yes {y : Int} (h4 : y % 4 = 0) (h : y % 100 ≠ 0 ∨ y % 400 = 0) : lpB y = true := by
  unfold lpB lp; rw [if_pos ⟨h4, h⟩]; rfl
theorem lpB_no {y : Int} (h : ¬ (y % 4 = 0 ∧ (y % 100 ≠ 0 ∨ y % 400 = 0))) : lpB y = false := by
  unfold lpB lp; rw [if_neg h]; rfl
theorem lp_of_true {y : Int} (h : lpB y = true) : lp y = 1 := by unfold lpB at h; simpa using h
theorem lp_of_false {y : Int} (h : lpB y = false) : lp y = 0 := by
  have := lp_or y; unfold lpB at h; simp at h; omega

set_option maxHeartbeats 400000 in
theorem isLeap_any (y : Int) (w : World) (h1 : 1970 ≤ y) (h2 : y ≤ 10000) :
    Calls Tryd.prog 43 #[.int .i64 y] w fun e w' => e = .returned (.bool (lpB y)) ∧ w' = w := by
  have h0 : 0 ≤ y := by omega
  by_cases a : y % 4 = 0
  · by_cases b : y % 100 = 0
    · by_cases c : y % 400 = 0
      · have HL : Hid (lpB y = true) := lpB_yes a (.inr c)
        go_enter Tryd.func43, Tryd.ntmps43
        go_wp2
        go_ret
        exact ⟨ret_bool (by rw [HL.out]), rfl⟩
      · have HL : Hid (lpB y = false) := lpB_no (by omega)
        go_enter Tryd.func43, Tryd.ntmps43
        go_wp2
        go_ret
        exact ⟨ret_bool (by rw [HL.out]; simpa using c), rfl⟩
    · have HL : Hid (lpB y = true) := lpB_yes a (.inl b)
      go_enter Tryd.func43, Tryd.ntmps43
      go_wp2
      go_ret
      exact ⟨ret_bool (by rw [HL.out]), rfl⟩
  · have HL : Hid (lpB y = false) := lpB_no (by omega)
    go_enter Tryd.func43, Tryd.ntmps43
    go_wp2
    go_ret
    exact ⟨ret_bool (by rw [HL.out]), rfl⟩

set_option maxHeartbeats 400000 in
theorem dim_any (y m : Int) (w : World) (h1 : 1970 ≤ y) (h2 : y ≤ 10000) (h3 : 1 ≤ m) (h4 : m ≤ 12) :
    Calls Tryd.prog 25 #[.int .i64 y, .int .i64 m] w fun e w' => e = .returned (.int .i64 (dim y m)) ∧ w' = w := by
  by_cases hm : m = 2
  · subst hm
    cases hl : lpB y
    · have HL : Hid (lpB y = false) := hl
      have HD : Hid (dim y 2 = 28) := by show dim y 2 = 28; unfold dim; rw [if_pos rfl, lp_of_false hl]; rfl
      clear hl
      go_enter Tryd.func25, Tryd.ntmps25
      go_wp2_with fail
      refine (isLeap_any _ _ h1 h2).mono ?_
      rintro e w' ⟨rfl, rfl⟩
      rw [HL.out]
      go_wp2_with fail
      go_ret
      exact ⟨ret_int (by rw [HD.out]), rfl⟩
    · have HL : Hid (lpB y = true) := hl
      have HD : Hid (dim y 2 = 29) := by show dim y 2 = 29; unfold dim; rw [if_pos rfl, lp_of_true hl]; rfl
      clear hl
      go_enter Tryd.func25, Tryd.ntmps25
      go_wp2_with fail
      refine (isLeap_any _ _ h1 h2).mono ?_
      rintro e w' ⟨rfl, rfl⟩
      rw [HL.out]
      go_wp2_with fail
      go_ret
      exact ⟨ret_int (by rw [HD.out]), rfl⟩
  · have HD : Hid (dim y m = if m = 4 ∨ m = 6 ∨ m = 9 ∨ m = 11 then 30 else 31) := by show dim y m = _; unfold dim; rw [if_neg hm]
    rcases m12 h3 h4 with rfl | rfl | rfl | rfl | rfl | rfl | rfl | rfl | rfl | rfl | rfl | rfl
    all_goals first
      | (exact absurd rfl hm)
      | (clear hm
         go_enter Tryd.func25, Tryd.ntmps25
         go_wp2_with fail
         go_ret
         exact ⟨ret_int (by rw [HD.out]; rfl), rfl⟩)

set_option maxHeartbeats 400000 in
theorem leaps_any (y : Int) (w : World) (h1 : 1970 ≤ y) (h2 : y ≤ 10000) :
    Calls Tryd.prog 42 #[.int .i64 y] w fun e w' => e = .returned (.int .i64 ((y - 1) / 4 - (y - 1) / 100 + (y - 1) / 400)) ∧ w' = w := by
  go_enter Tryd.func42, Tryd.ntmps42
  go_wp2
  go_ret
  exact ⟨rfl, rfl⟩

set_option maxHeartbeats 400000 in
theorem dby_any (y : Int) (w : World) (h1 : 1970 ≤ y) (h2 : y ≤ 10000) :
    Calls Tryd.prog 24 #[.int .i64 y] w fun e w' => e = .returned (.int .i64 (dby y)) ∧ w' = w := by
  have hd : dby y = (y - 1970) * 365 + ((y - 1) / 4 - (y - 1) / 100 + (y - 1) / 400) - 477 := rfl
  have HD : Hid (dby y = (y - 1970) * 365 + ((y - 1) / 4 - (y - 1) / 100 + (y - 1) / 400) - 477) := hd
  clear hd
  go_enter Tryd.func24, Tryd.ntmps24
  go_wp2_with fail
  refine (leaps_any _ _ h1 h2).mono ?_
  rintro e w' ⟨rfl, rfl⟩
  go_wp2_with fail
  refine (leaps_any _ _ (by omega) (by omega)).mono ?_
  rintro e w' ⟨rfl, rfl⟩
  go_wp2_with fail
  go_ret
  exact ⟨ret_int (by rw [HD.out]), rfl⟩

set_option maxHeartbeats 400000 in
theorem yearOf_any (n : Int) (w : World) (h1 : 0 ≤ n) (h2 : n ≤ 2932896) :
    Calls Tryd.prog 23 #[.int .i64 n] w fun e w' => ∃ y : Int, e = .returned (.int .i64 y) ∧ 1970 ≤ y ∧ y ≤ 9999 ∧ dby y ≤ n ∧ n < dby (y + 1) ∧ w' = w := by
  have g0 := dby_guess n h1
  have G0 : Hid (dby (1970 + n / 366) ≤ n) := g0
  clear g0
  go_enter Tryd.func23, Tryd.ntmps23
  go_wp2_with fail
  go_loop [3] (fun t => ∃ y : Int, 1970 ≤ y ∧ y ≤ 9999 ∧ dby y ≤ n ∧ t = .int .i64 y) (fun t => (9999 - intOf t).toNat)
  case atStart => exact ⟨_, by omega, by omega, G0.out, rfl⟩
  case round =>
    obtain ⟨y, hy1, hy2, hy3, rfl⟩ := hrel
    have hb := dby_bd (y + 1) (by omega) (by omega)
    by_cases hc : dby (y + 1) ≤ n
    · have hlt : y < 9999 := by
        by_cases hlt : y < 9999
        · exact hlt
        · obtain rfl : y = 9999 := by omega
          have := dby_max
          have e : dby (9999 + 1) = 2932897 := dby_max
          omega
      go_wp2_with fail
      refine (dby_any _ _ (by omega) (by omega)).mono ?_
      rintro e w' ⟨rfl, rfl⟩
      go_wp2_with fail
      go_round
      case rel => exact ⟨y + 1, by omega, by omega, hc, rfl⟩
      case measure => simp [intOf]; omega
    · go_wp2_with fail
      refine (dby_any _ _ (by omega) (by omega)).mono ?_
      rintro e w' ⟨rfl, rfl⟩
      go_wp2_with fail
      go_ret
      exact ⟨y, rfl, hy1, hy2, hy3, by omega, rfl⟩

theorem civil_no (n : Int) (w : World) (h : n < 0 ∨ 2932896 < n) :
    Calls Tryd.prog 10 #[.int .i64 n] w fun e w' => e = .returned (.tuple #[.int .i64 0, .int .i64 0, .int .i64 0, .int .i64 1]) ∧ w' = w := by
  rcases h with h | h
  · go_enter Tryd.func10, Tryd.ntmps10
    go_wp2_with fail
    exact bodyPost_ret (v := .tuple #[.int .i64 0, .int .i64 0, .int .i64 0, .int .i64 1]) (by simp [results, Tryd.results10, go_sem]) rfl ⟨rfl, rfl⟩
  · have h' : ¬ n < 0 := by omega
    go_enter Tryd.func10, Tryd.ntmps10
    go_wp2_with fail
    exact bodyPost_ret (v := .tuple #[.int .i64 0, .int .i64 0, .int .i64 0, .int .i64 1]) (by simp [results, Tryd.results10, go_sem]) rfl ⟨rfl, rfl⟩

set_option maxHeartbeats 1000000 in
theorem civil_yes (n : Int) (w : World) (h1 : 0 ≤ n) (h2 : n ≤ 2932896) :
    Calls Tryd.prog 10 #[.int .i64 n] w fun e w' => ∃ y m d : Int, e = .returned (.tuple #[.int .i64 y, .int .i64 m, .int .i64 d, .int .i64 0]) ∧ vldB y m d = true ∧ num y m d = n ∧ w' = w := by
  go_enter Tryd.func10, Tryd.ntmps10
  go_wp2_with fail
  refine (yearOf_any _ _ h1 h2).mono ?_
  rintro e w' ⟨y, rfl, hy1, hy2, hy3, hy4, rfl⟩
  have hb := dby_bd y hy1 (by omega)
  have hs := dby_succ y
  have hl := lp_01 y
  have HY : Hid (n < dby y + 365 + lp y) := by show n < _; omega
  clear hy4 hs
  go_wp2_with fail
  refine (dby_any _ _ hy1 (by omega)).mono ?_
  rintro e w' ⟨rfl, rfl⟩
  go_wp2_with fail
  go_loop [7, 8] (fun r k => ∃ m : Int, 1 ≤ m ∧ m ≤ 12 ∧ k = .int .i64 m ∧ 0 ≤ n - dby y - cum y m ∧ r = .int .i64 (n - dby y - cum y m)) (fun _ k => (12 - intOf k).toNat)
  case atStart => exact ⟨1, by omega, by omega, rfl, by rw [cum_one]; omega, by rw [cum_one, Int.sub_zero]⟩
  case round =>
    obtain ⟨m, hm1, hm2, rfl, hr, rfl⟩ := hrel
    have cb := cum_bd y m
    have db := dim_lo y m
    have CS : Hid (cum y (m + 1) = cum y m + dim y m) := cum_succ y m hm1 hm2
    by_cases hc : dim y m ≤ n - dby y - cum y m
    · have hm : m < 12 := by
        by_cases hm : m < 12
        · exact hm
        · obtain rfl : m = 12 := by omega
          have e := CS.out
          have e' : cum y (12 + 1) = 365 + lp y := cum_13 y
          have := HY.out
          omega
      go_wp2_with fail
      refine (dim_any _ _ _ hy1 (by omega) hm1 hm2).mono ?_
      rintro e w' ⟨rfl, rfl⟩
      go_wp2_with fail
      refine (dim_any _ _ _ hy1 (by omega) hm1 hm2).mono ?_
      rintro e w' ⟨rfl, rfl⟩
      go_wp2_with fail
      go_round
      case rel => exact ⟨m + 1, by omega, by omega, rfl, by rw [CS.out]; omega, by rw [CS.out]; go_num⟩
      case measure => simp [intOf]; omega
    · go_wp2_with fail
      refine (dim_any _ _ _ hy1 (by omega) hm1 hm2).mono ?_
      rintro e w' ⟨rfl, rfl⟩
      go_wp2_with fail
      exact bodyPost_ret (v := .tuple #[.int .i64 y, .int .i64 m, .int .i64 (n - dby y - cum y m + 1), .int .i64 0]) (by simp [results, Tryd.results10, go_sem]) rfl ⟨y, m, _, rfl, vld_of n y m hy1 hy2 hm1 hm2 hr (by omega), num_of n y m, rfl⟩
end Go.Proofs.YthbbfkbcanjfaaaDoor
