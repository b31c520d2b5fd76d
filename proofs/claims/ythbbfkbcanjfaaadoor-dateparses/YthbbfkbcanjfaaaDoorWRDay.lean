/-
  What Days and Civil of the document's answers compute, each a contract over the program's text.
-/
import Derived.Test.YthbbfkbcanjfaaaDoorWRCal
namespace Go.Proofs.YthbbfkbcanjfaaaDoor
open Go.RowKit

set_option maxHeartbeats 1000000 in
theorem rdays_no (y m d : Int) (w : World) (h : vldB y m d = false) :
    Calls Tryd.prog 22 #[.int .i64 y, .int .i64 m, .int .i64 d] w fun e w' => e = .returned (.tuple #[.int .i64 0, .int .i64 1]) ∧ Below w.heap.size w w' := by
  have hn : ¬ (1970 ≤ y ∧ y ≤ 9999 ∧ 1 ≤ m ∧ m ≤ 12 ∧ 1 ≤ d ∧ d ≤ dim y m) := fun g => by rw [vld_mk g] at h; cases h
  clear h
  by_cases b1 : y < 1970 ∨ 9999 < y
  · clear hn
    go_enter Tryd.func22, Tryd.ntmps22
    go_wp2_with fail
    refine (outside_yes _ _ _ _ b1).mono ?_
    rintro e w' ⟨rfl, rfl⟩
    go_wp2_with fail
    go_ret2
    exact ⟨rfl, Below.refl _ _⟩
  by_cases b2 : m < 1 ∨ 12 < m
  · clear hn
    go_enter Tryd.func22, Tryd.ntmps22
    go_wp2_with fail
    refine (outside_no _ _ _ _ (by omega) (by omega)).mono ?_
    rintro e w' ⟨rfl, rfl⟩
    go_wp2_with fail
    refine (outside_yes _ _ _ _ b2).mono ?_
    rintro e w' ⟨rfl, rfl⟩
    go_wp2_with fail
    go_ret2
    exact ⟨rfl, Below.refl _ _⟩
  have b3 : d < 1 ∨ dim y m < d := by omega
  have y1 : 1970 ≤ y := by omega
  have y2 : y ≤ 9999 := by omega
  obtain ⟨k, rfl⟩ : ∃ k : Nat, m = (k : Int) + 1 := ⟨(m - 1).toNat, by omega⟩
  have hk : k < 12 := by omega
  have B3 : Hid (d < 1 ∨ dim y (k + 1) < d) := b3
  clear hn b1 b2 b3
  go_enter Tryd.func22, Tryd.ntmps22
  go_wp2_with fail
  refine (outside_no _ _ _ _ y1 y2).mono ?_
  rintro e w' ⟨rfl, rfl⟩
  go_wp2_with fail
  refine (outside_no _ _ _ _ (by omega) (by omega)).mono ?_
  rintro e w' ⟨rfl, rfl⟩
  go_wp2_with fail
  refine (rmonth_any _ _ y1 (by omega)).mono ?_
  rintro e w2 ⟨rfl, hm, hz, hb⟩
  have hc := hm k hk
  clear hm
  go_wp2_with fail
  refine (outside_yes _ _ _ _ B3.out).mono ?_
  rintro e w' ⟨rfl, rfl⟩
  go_wp2_with fail
  go_ret2
  exact ⟨rfl, hb⟩

set_option maxHeartbeats 2000000 in
theorem rdays_yes (y m d : Int) (w : World) (h : vldB y m d = true) :
    Calls Tryd.prog 22 #[.int .i64 y, .int .i64 m, .int .i64 d] w fun e w' => e = .returned (.tuple #[.int .i64 (num y m d), .int .i64 0]) ∧ Below w.heap.size w w' := by
  obtain ⟨a1, a2, a3, a4, a5, a6⟩ := vld_iff.1 h
  have hdl := dim_lo y m
  have hbd := dby_bd y a1 (by omega)
  have HN : Hid (num y m d = dby y + cum y m + d - 1) := rfl
  clear h
  obtain ⟨k, rfl⟩ : ∃ k : Nat, m = (k : Int) + 1 := ⟨(m - 1).toNat, by omega⟩
  have hk : k < 12 := by omega
  have hd31 : d ≤ 31 := by omega
  have A6 : Hid (d ≤ dim y (k + 1)) := a6
  clear a6 hdl
  go_enter Tryd.func22, Tryd.ntmps22
  go_wp2_with fail
  refine (outside_no _ _ _ _ a1 a2).mono ?_
  rintro e w ⟨rfl, rfl⟩
  go_wp2_with fail
  refine (outside_no _ _ _ _ (by omega) (by omega)).mono ?_
  rintro e w ⟨rfl, rfl⟩
  go_wp2_with fail
  refine (rmonth_any _ _ a1 (by omega)).mono ?_
  rintro e w2 ⟨rfl, hm, hz, hb⟩
  have hc := hm k hk
  clear hm
  go_wp2_with fail
  refine (outside_no _ _ _ _ a5 A6.out).mono ?_
  rintro e w2 ⟨rfl, rfl⟩
  go_wp2_with fail
  refine (ryear_any _ _ a1 (by omega)).mono ?_
  rintro e w2 ⟨rfl, rfl⟩
  clear hc
  go_wp2_with fail
  refine (rmonth_any _ _ a1 (by omega)).mono ?_
  rintro e w3 ⟨rfl, hm3, hz3, hb3⟩
  have HM : Hid (MDays y (w.heap.size + 1) w3) := by rw [hz] at hm3; exact hm3
  have HB : Hid (Below w.heap.size w w3) := hb.trans (hb3.mono (by omega))
  clear hm3 hb3 hb
  go_wp2_with fail
  go_loop [8, 38] (fun n i => ∃ j : Nat, j ≤ k ∧ i = .int .i64 j ∧ n = .int .i64 (dby y + d - 1 + cum y (j + 1))) (fun _ i => k - (intOf i).toNat)
  case atStart => exact ⟨0, Nat.zero_le _, rfl, by rw [show ((0 : Nat) : Int) + 1 = 1 from rfl, cum_one, Int.add_zero]⟩
  case round =>
    obtain ⟨j, hj, rfl, rfl⟩ := hrel
    have cb := cum_bd y (j + 1)
    have db := dim_lo y (j + 1)
    have CS : Hid (cum y ((j : Int) + 1 + 1) = cum y (j + 1) + dim y (j + 1)) := cum_succ y (j + 1) (by omega) (by omega)
    by_cases hlt : j < k
    · have hc := HM.out j (by omega)
      go_wp2_with fail
      go_round
      case rel => exact ⟨j + 1, by omega, by go_num, by rw [show ((j + 1 : Nat) : Int) + 1 = (j : Int) + 1 + 1 from rfl, CS.out]; go_num⟩
      case measure => simp [intOf]; omega
    · obtain rfl : j = k := by omega
      go_wp2_with fail
      go_ret2
      exact ⟨ret_ie (by rw [HN.out]; omega) rfl, HB.out⟩

theorem rcivil_no (n : Int) (w : World) (h : n < 0 ∨ 2932896 < n) :
    Calls Tryd.prog 15 #[.int .i64 n] w fun e w' => e = .returned (.tuple #[.int .i64 0, .int .i64 0, .int .i64 0, .int .i64 1]) ∧ w' = w := by
  have H : Hid (n < 0 ∨ 2932896 < n) := h
  clear h
  go_enter Tryd.func15, Tryd.ntmps15
  go_wp2_with fail
  refine (outside_yes _ _ _ _ H.out).mono ?_
  rintro e w ⟨rfl, rfl⟩
  go_wp2_with fail
  exact bodyPost_ret (v := .tuple #[.int .i64 0, .int .i64 0, .int .i64 0, .int .i64 1]) (by simp [results, Tryd.results15, go_sem]) rfl ⟨rfl, rfl⟩

set_option maxHeartbeats 4000000 in
theorem rcivil_yes (n : Int) (w : World) (h1 : 0 ≤ n) (h2 : n ≤ 2932896) :
    Calls Tryd.prog 15 #[.int .i64 n] w fun e w' => ∃ y m d : Int, e = .returned (.tuple #[.int .i64 y, .int .i64 m, .int .i64 d, .int .i64 0]) ∧ vldB y m d = true ∧ num y m d = n ∧ Below w.heap.size w w' := by
  go_enter Tryd.func15, Tryd.ntmps15
  go_wp2_with fail
  refine (outside_no _ _ _ _ h1 h2).mono ?_
  rintro e w ⟨rfl, rfl⟩
  go_wp2_with fail
  go_loop [0, 6] (fun r t => ∃ y : Int, 1970 ≤ y ∧ y ≤ 9999 ∧ dby y ≤ n ∧ t = .int .i64 y ∧ r = .int .i64 (n - dby y)) (fun _ t => (9999 - intOf t).toNat)
  case atStart => exact ⟨1970, by omega, by omega, by rw [dby_0]; exact h1, rfl, by rw [dby_0, Int.sub_zero]⟩
  case round =>
    obtain ⟨y, hy1, hy2, hy3, rfl, rfl⟩ := hrel
    have hb := dby_bd y hy1 (by omega)
    have hl := lp_01 y
    have HS : Hid (dby (y + 1) = dby y + 365 + lp y) := dby_succ y
    have HMax : Hid (y = 9999 → dby (y + 1) = 2932897) := fun h => by rw [h]; exact dby_max
    by_cases hc : n - dby y < 365 + lp y
    · have HC : Hid (n < dby y + 365 + lp y) := by show n < dby y + 365 + lp y; omega
      cases hl : lpB y
      all_goals
        have HL : Hid (lpB y = _) := hl
        have hlt : if lpB y = true then n - dby y < 366 else n - dby y < 365 := by
          rw [hl]
          first
          | (have := lp_of_true hl; simp; omega)
          | (have := lp_of_false hl; simp; omega)
        rw [hl] at hlt
        simp only [if_true, if_false, Bool.false_eq_true] at hlt
        clear hl hc
        go_wp2_with fail
        refine (rleap_any _ _ hy1 (by omega)).mono ?_
        rintro e w ⟨rfl, rfl⟩
        rw [HL.out]
        go_wp2_with fail
        clear hlt HL
        go_loopw [0, 8] (fun r k wr => ∃ j : Nat, j < 12 ∧ k = .int .i64 j ∧ 0 ≤ n - dby y - cum y (j + 1) ∧ r = .int .i64 (n - dby y - cum y (j + 1)) ∧ Below w.heap.size w wr) (fun _ k _ => 12 - (intOf k).toNat)
        case atStart => exact ⟨0, by omega, rfl, by rw [show ((0 : Nat) : Int) + 1 = 1 from rfl, cum_one]; omega, by rw [show ((0 : Nat) : Int) + 1 = 1 from rfl, cum_one, Int.sub_zero], Below.refl _ _⟩
        case round =>
          obtain ⟨j, hj, rfl, hr, rfl, hw⟩ := hrel
          have hsz := hw.size
          have cb := cum_bd y (j + 1)
          have db := dim_lo y (j + 1)
          have CS : Hid (cum y ((j : Int) + 1 + 1) = cum y (j + 1) + dim y (j + 1)) := cum_succ y (j + 1) (by omega) (by omega)
          by_cases hc : dim y (j + 1) ≤ n - dby y - cum y (j + 1)
          · have hm : j < 11 := by
              by_cases hm : j < 11
              · exact hm
              · obtain rfl : j = 11 := by omega
                have e := CS.out
                have e' : cum y (((11 : Nat) : Int) + 1 + 1) = 365 + lp y := cum_13 y
                have := HC.out
                omega
            go_wp2_with fail
            refine (rmonth_any _ _ hy1 (by omega)).mono ?_
            rintro e w1 ⟨rfl, hm1, hz1, hb1⟩
            have hc1 := hm1 j hj
            clear hm1
            go_wp2_with fail
            refine (rmonth_any _ _ hy1 (by omega)).mono ?_
            rintro e w2 ⟨rfl, hm2, hz2, hb2⟩
            rw [hz1] at hm2
            have hc2 := hm2 j hj
            clear hm2 hc1
            have HW : Hid (Below w.heap.size w w2) := hw.trans ((hb1.mono hsz).trans (hb2.mono (by omega)))
            clear hb1 hb2
            go_wp2_with fail
            go_roundw
            case rel => exact ⟨j + 1, by omega, by go_num, by rw [show ((j + 1 : Nat) : Int) + 1 = (j : Int) + 1 + 1 from rfl, CS.out]; omega, by rw [show ((j + 1 : Nat) : Int) + 1 = (j : Int) + 1 + 1 from rfl, CS.out]; go_num, HW.out⟩
            case measure => simp [intOf]; omega
          · go_wp2_with fail
            refine (rmonth_any _ _ hy1 (by omega)).mono ?_
            rintro e w1 ⟨rfl, hm1, hz1, hb1⟩
            have hc1 := hm1 j hj
            clear hm1
            have HW : Hid (Below w.heap.size w w1) := hw.trans (hb1.mono hsz)
            clear hb1
            go_wp2_with fail
            exact bodyPost_ret (v := .tuple #[.int .i64 y, .int .i64 (j + 1), .int .i64 (n - dby y - cum y (j + 1) + 1), .int .i64 0]) (by simp [results, Tryd.results15, go_sem]) rfl ⟨y, _, _, rfl, vld_of n y (j + 1) hy1 hy2 (by omega) (by omega) hr (by omega), num_of n y (j + 1), HW.out⟩
    · have hlt : y < 9999 := by
        by_cases hlt : y < 9999
        · exact hlt
        · have e := HMax.out (by omega)
          have e' := HS.out
          omega
      cases hl : lpB y
      · have HL : Hid (lpB y = false) := hl
        have HP : Hid (lp y = 0) := lp_of_false hl
        have hge : ¬ n - dby y < 365 := by have := HP.out; omega
        clear hl hc
        go_wp2_with fail
        refine (rleap_any _ _ hy1 (by omega)).mono ?_
        rintro e w ⟨rfl, rfl⟩
        rw [HL.out]
        go_wp2_with fail
        go_round
        case rel => exact ⟨y + 1, by omega, by omega, by rw [HS.out, HP.out]; omega, rfl, by rw [HS.out, HP.out]; go_num⟩
        case measure => simp [intOf]; omega
      · have HL : Hid (lpB y = true) := hl
        have HP : Hid (lp y = 1) := lp_of_true hl
        have hge : ¬ n - dby y < 366 := by have := HP.out; omega
        clear hl hc
        go_wp2_with fail
        refine (rleap_any _ _ hy1 (by omega)).mono ?_
        rintro e w ⟨rfl, rfl⟩
        rw [HL.out]
        go_wp2_with fail
        go_round
        case rel => exact ⟨y + 1, by omega, by omega, by rw [HS.out, HP.out]; omega, rfl, by rw [HS.out, HP.out]; go_num⟩
        case measure => simp [intOf]; omega
end Go.Proofs.YthbbfkbcanjfaaaDoor
