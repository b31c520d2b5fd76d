/-
  What Print of package date computes, a contract over the program's text; the tables that it reads hold what the program's text lays there.
-/
import Derived.Test.YthbbfkbcanjfaaaDoorWDate
namespace Go.Proofs.YthbbfkbcanjfaaaDoor
open Go.RowKit

theorem dprint_no (n : Int) (w : World) (h : n < 0 ∨ 253402300799 < n) :
    Calls Tryd.prog 6 #[.int .i64 n] w fun e w' => e = .returned (.tuple #[.string ⟨#[]⟩, .int .i64 1]) ∧ w' = w := by
  rcases h with h | h
  · go_enter Tryd.func6, Tryd.ntmps6
    go_wp2_with fail
    go_ret2
    exact ⟨rfl, rfl⟩
  · have h' : ¬ n < 0 := by omega
    go_enter Tryd.func6, Tryd.ntmps6
    go_wp2_with fail
    go_ret2
    exact ⟨rfl, rfl⟩

set_option maxHeartbeats 4000000 in
set_option maxRecDepth 100000 in
theorem dprint_yes (n : Int) (w : World) (h1 : 0 ≤ n) (h2 : n ≤ 253402300799) (ht : DTabs w) :
    Calls Tryd.prog 6 #[.int .i64 n] w fun e w' => ∃ y m d : Int, e = .returned (.tuple #[.string ⟨(dtext n y m d).toArray⟩, .int .i64 0]) ∧ vldB y m d = true ∧ num y m d = n / 86400 ∧ Below w.heap.size w w' := by
  have HT : Hid (DTabs w) := ht
  clear ht
  go_enter Tryd.func6, Tryd.ntmps6
  go_wp2_with fail
  refine (civil_yes _ _ (by omega) (by omega)).mono ?_
  rintro e w ⟨y, m, d, rfl, hv, hn, rfl⟩
  have HV : Hid (vldB y m d = true) := hv
  have HN : Hid (num y m d = n / 86400) := hn
  obtain ⟨a1, a2, a3, a4, a5, a6⟩ := vld_iff.1 hv
  have hdl := dim_lo y m
  have hd31 : d ≤ 31 := by omega
  clear hv hn a6 hdl
  obtain ⟨k, hk⟩ : ∃ k : Nat, n / 86400 % 7 = (k : Int) := ⟨(n / 86400 % 7).toNat, by omega⟩
  have hk7 : k < 7 := by omega
  obtain ⟨j, hj⟩ : ∃ j : Nat, m - 1 = (j : Int) := ⟨(m - 1).toNat, by omega⟩
  have hj12 : j < 12 := by omega
  have LW : Hid ((weekS k).length = 3) := week_len k hk7
  have LM : Hid ((monthS j).length = 3) := month_len j hj12
  have HX : Hid (dtext n y m d = weekS k ++ [44, 32] ++ dig2 d.toNat ++ [32] ++ monthS j ++ [32] ++ dig4 y.toNat ++ [32]
    ++ dig2 (n % 86400 / 3600).toNat ++ [58] ++ dig2 (n % 3600 / 60).toNat ++ [58] ++ dig2 (n % 60).toNat ++ [32, 71, 77, 84]) := by
    show dtext n y m d = _
    unfold dtext; rw [hk, hj]; rfl
  have hcw := HT.out.week k hk7
  have hgw := lt_of_cell hcw
  have HB0 : Hid (Lib.IsBuilderF 35 5 w.heap.size w.heap.size (Lib.byteCells []) (w.alloc (.cells #[.pointer none, .slice none 0 0] 35))) := Lib.IsBuilderF.of (Lib.fresh_isBuilder 35 5 w)
  have HW0 : Hid (Below w.heap.size w (w.alloc (.cells #[.pointer none, .slice none 0 0] 35))) := (Below.refl _ w).alloc (Nat.le_refl _) _
  go_wp2_with fail
  refine (wr_step w.heap.size _ _ w _ HB0.out HW0.out (Nat.le_refl _) (Nat.zero_le _) (by rw [← size_list]; show (weekS k).length ≤ _; rw [LW.out]; omega)).mono ?_
  rintro e w1 ⟨rfl, hb, hw⟩
  have HB1 : Hid (Lib.IsBuilderF 35 5 w.heap.size w.heap.size (Lib.byteCells (weekS k)) w1) := hb
  have HW1 : Hid (Below w.heap.size w w1) := hw
  clear hb hw HB0 HW0
  clear hcw hgw
  go_wp2_with fail
  refine (wr_step w.heap.size _ _ w _ HB1.out HW1.out (Nat.le_refl _) (by simp only [LW.out]; omega) (by decide)).mono ?_
  rintro e w2 ⟨rfl, hb, hw⟩
  have HB2 : Hid (Lib.IsBuilderF 35 5 w.heap.size w.heap.size (Lib.byteCells (weekS k ++ [44, 32])) w2) := hb
  have HW2 : Hid (Below w.heap.size w w2) := hw
  clear hb hw HB1 HW1
  go_wp2_with fail
  refine (digits2_any _ (by omega) (by omega) _).mono ?_
  rintro e w2 ⟨rfl, rfl⟩
  go_wp2_with fail
  refine (wr_step w.heap.size _ _ w _ HB2.out HW2.out (Nat.le_refl _) (by simp only [LW.out, List.length_append, List.length_cons, List.length_nil]; omega) (by exact Nat.le_of_ble_eq_true rfl)).mono ?_
  rintro e w3 ⟨rfl, hb, hw⟩
  have HB3 : Hid (Lib.IsBuilderF 35 5 w.heap.size w.heap.size (Lib.byteCells (weekS k ++ [44, 32] ++ dig2 d.toNat)) w3) := hb
  have HW3 : Hid (Below w.heap.size w w3) := hw
  clear hb hw HB2 HW2
  go_wp2_with fail
  refine (wr_step w.heap.size _ _ w _ HB3.out HW3.out (Nat.le_refl _) (by simp only [LW.out, dig2_len, List.length_append, List.length_cons, List.length_nil]; omega) (by decide)).mono ?_
  rintro e w4 ⟨rfl, hb, hw⟩
  have HB4 : Hid (Lib.IsBuilderF 35 5 w.heap.size w.heap.size (Lib.byteCells (weekS k ++ [44, 32] ++ dig2 d.toNat ++ [32])) w4) := hb
  have HW4 : Hid (Below w.heap.size w w4) := hw
  clear hb hw HB3 HW3
  have hcm := (HT.out.below HW4.out).month j hj12
  go_wp2_with fail
  refine (wr_step w.heap.size _ _ w _ HB4.out HW4.out (Nat.le_refl _) (by simp only [LW.out, dig2_len, List.length_append, List.length_cons, List.length_nil]; omega) (by rw [← size_list]; show (monthS j).length ≤ _; rw [LM.out]; omega)).mono ?_
  rintro e w5 ⟨rfl, hb, hw⟩
  have HB5 : Hid (Lib.IsBuilderF 35 5 w.heap.size w.heap.size (Lib.byteCells (weekS k ++ [44, 32] ++ dig2 d.toNat ++ [32] ++ monthS j)) w5) := hb
  have HW5 : Hid (Below w.heap.size w w5) := hw
  clear hb hw HB4 HW4
  clear hcm
  go_wp2_with fail
  refine (wr_step w.heap.size _ _ w _ HB5.out HW5.out (Nat.le_refl _) (by simp only [LW.out, LM.out, dig2_len, List.length_append, List.length_cons, List.length_nil]; omega) (by decide)).mono ?_
  rintro e w6 ⟨rfl, hb, hw⟩
  have HB6 : Hid (Lib.IsBuilderF 35 5 w.heap.size w.heap.size (Lib.byteCells (weekS k ++ [44, 32] ++ dig2 d.toNat ++ [32] ++ monthS j ++ [32])) w6) := hb
  have HW6 : Hid (Below w.heap.size w w6) := hw
  clear hb hw HB5 HW5
  go_wp2_with fail
  refine (digits4_any _ (by omega) (by omega) _ (HT.out.below HW6.out)).mono ?_
  rintro e w6a ⟨rfl, hb⟩
  have HB6a : Hid (Lib.IsBuilderF 35 5 w.heap.size w.heap.size (Lib.byteCells (weekS k ++ [44, 32] ++ dig2 d.toNat ++ [32] ++ monthS j ++ [32])) w6a) := bu_below HB6.out hb
  have HW6a : Hid (Below w.heap.size w w6a) := HW6.out.trans (hb.mono HW6.out.size)
  clear hb HB6 HW6
  have HB6 := HB6a
  have HW6 := HW6a
  clear HB6a HW6a
  go_wp2_with fail
  refine (wr_step w.heap.size _ _ w _ HB6.out HW6.out (Nat.le_refl _) (by simp only [LW.out, LM.out, dig2_len, List.length_append, List.length_cons, List.length_nil]; omega) (by exact Nat.le_of_ble_eq_true rfl)).mono ?_
  rintro e w7 ⟨rfl, hb, hw⟩
  have HB7 : Hid (Lib.IsBuilderF 35 5 w.heap.size w.heap.size (Lib.byteCells (weekS k ++ [44, 32] ++ dig2 d.toNat ++ [32] ++ monthS j ++ [32] ++ dig4 y.toNat)) w7) := hb
  have HW7 : Hid (Below w.heap.size w w7) := hw
  clear hb hw HB6 HW6
  go_wp2_with fail
  refine (wr_step w.heap.size _ _ w _ HB7.out HW7.out (Nat.le_refl _) (by simp only [LW.out, LM.out, dig2_len, dig4_len, List.length_append, List.length_cons, List.length_nil]; omega) (by decide)).mono ?_
  rintro e w8 ⟨rfl, hb, hw⟩
  have HB8 : Hid (Lib.IsBuilderF 35 5 w.heap.size w.heap.size (Lib.byteCells (weekS k ++ [44, 32] ++ dig2 d.toNat ++ [32] ++ monthS j ++ [32] ++ dig4 y.toNat ++ [32])) w8) := hb
  have HW8 : Hid (Below w.heap.size w w8) := hw
  clear hb hw HB7 HW7
  go_wp2_with fail
  refine (digits2_any _ (by omega) (by omega) _).mono ?_
  rintro e w8 ⟨rfl, rfl⟩
  go_wp2_with fail
  refine (wr_step w.heap.size _ _ w _ HB8.out HW8.out (Nat.le_refl _) (by simp only [LW.out, LM.out, dig2_len, dig4_len, List.length_append, List.length_cons, List.length_nil]; omega) (by exact Nat.le_of_ble_eq_true rfl)).mono ?_
  rintro e w9 ⟨rfl, hb, hw⟩
  have HB9 : Hid (Lib.IsBuilderF 35 5 w.heap.size w.heap.size (Lib.byteCells (weekS k ++ [44, 32] ++ dig2 d.toNat ++ [32] ++ monthS j ++ [32] ++ dig4 y.toNat ++ [32] ++ dig2 (n % 86400 / 3600).toNat)) w9) := hb
  have HW9 : Hid (Below w.heap.size w w9) := hw
  clear hb hw HB8 HW8
  go_wp2_with fail
  refine (wr_step w.heap.size _ _ w _ HB9.out HW9.out (Nat.le_refl _) (by simp only [LW.out, LM.out, dig2_len, dig4_len, List.length_append, List.length_cons, List.length_nil]; omega) (by decide)).mono ?_
  rintro e w10 ⟨rfl, hb, hw⟩
  have HB10 : Hid (Lib.IsBuilderF 35 5 w.heap.size w.heap.size (Lib.byteCells (weekS k ++ [44, 32] ++ dig2 d.toNat ++ [32] ++ monthS j ++ [32] ++ dig4 y.toNat ++ [32] ++ dig2 (n % 86400 / 3600).toNat ++ [58])) w10) := hb
  have HW10 : Hid (Below w.heap.size w w10) := hw
  clear hb hw HB9 HW9
  go_wp2_with fail
  refine (digits2_any _ (by omega) (by omega) _).mono ?_
  rintro e w10 ⟨rfl, rfl⟩
  go_wp2_with fail
  refine (wr_step w.heap.size _ _ w _ HB10.out HW10.out (Nat.le_refl _) (by simp only [LW.out, LM.out, dig2_len, dig4_len, List.length_append, List.length_cons, List.length_nil]; omega) (by exact Nat.le_of_ble_eq_true rfl)).mono ?_
  rintro e w11 ⟨rfl, hb, hw⟩
  have HB11 : Hid (Lib.IsBuilderF 35 5 w.heap.size w.heap.size (Lib.byteCells (weekS k ++ [44, 32] ++ dig2 d.toNat ++ [32] ++ monthS j ++ [32] ++ dig4 y.toNat ++ [32] ++ dig2 (n % 86400 / 3600).toNat ++ [58] ++ dig2 (n % 3600 / 60).toNat)) w11) := hb
  have HW11 : Hid (Below w.heap.size w w11) := hw
  clear hb hw HB10 HW10
  go_wp2_with fail
  refine (wr_step w.heap.size _ _ w _ HB11.out HW11.out (Nat.le_refl _) (by simp only [LW.out, LM.out, dig2_len, dig4_len, List.length_append, List.length_cons, List.length_nil]; omega) (by decide)).mono ?_
  rintro e w12 ⟨rfl, hb, hw⟩
  have HB12 : Hid (Lib.IsBuilderF 35 5 w.heap.size w.heap.size (Lib.byteCells (weekS k ++ [44, 32] ++ dig2 d.toNat ++ [32] ++ monthS j ++ [32] ++ dig4 y.toNat ++ [32] ++ dig2 (n % 86400 / 3600).toNat ++ [58] ++ dig2 (n % 3600 / 60).toNat ++ [58])) w12) := hb
  have HW12 : Hid (Below w.heap.size w w12) := hw
  clear hb hw HB11 HW11
  go_wp2_with fail
  refine (digits2_any _ (by omega) (by omega) _).mono ?_
  rintro e w12 ⟨rfl, rfl⟩
  go_wp2_with fail
  refine (wr_step w.heap.size _ _ w _ HB12.out HW12.out (Nat.le_refl _) (by simp only [LW.out, LM.out, dig2_len, dig4_len, List.length_append, List.length_cons, List.length_nil]; omega) (by exact Nat.le_of_ble_eq_true rfl)).mono ?_
  rintro e w13 ⟨rfl, hb, hw⟩
  have HB13 : Hid (Lib.IsBuilderF 35 5 w.heap.size w.heap.size (Lib.byteCells (weekS k ++ [44, 32] ++ dig2 d.toNat ++ [32] ++ monthS j ++ [32] ++ dig4 y.toNat ++ [32] ++ dig2 (n % 86400 / 3600).toNat ++ [58] ++ dig2 (n % 3600 / 60).toNat ++ [58] ++ dig2 (n % 60).toNat)) w13) := hb
  have HW13 : Hid (Below w.heap.size w w13) := hw
  clear hb hw HB12 HW12
  go_wp2_with fail
  refine (wr_step w.heap.size _ _ w _ HB13.out HW13.out (Nat.le_refl _) (by simp only [LW.out, LM.out, dig2_len, dig4_len, List.length_append, List.length_cons, List.length_nil]; omega) (by decide)).mono ?_
  rintro e w14 ⟨rfl, hb, hw⟩
  have HB14 : Hid (Lib.IsBuilderF 35 5 w.heap.size w.heap.size (Lib.byteCells (weekS k ++ [44, 32] ++ dig2 d.toNat ++ [32] ++ monthS j ++ [32] ++ dig4 y.toNat ++ [32] ++ dig2 (n % 86400 / 3600).toNat ++ [58] ++ dig2 (n % 3600 / 60).toNat ++ [58] ++ dig2 (n % 60).toNat ++ [32, 71, 77, 84])) w14) := hb
  have HW14 : Hid (Below w.heap.size w w14) := hw
  clear hb hw HB13 HW13
  go_wp2_with fail
  refine (Tryd.Builder_String_any_f w.heap.size w.heap.size _ _ HB14.out HW14.out.size).mono ?_
  rintro e wz ⟨rfl, hz⟩
  have HZ : Hid (Below w.heap.size w wz) := HW14.out.trans hz.2
  clear hz
  go_wp2_with fail
  go_ret2
  exact ⟨y, m, d, ret_se (by rw [HX.out]; simp) rfl, HV.out, HN.out, HZ.out⟩
end Go.Proofs.YthbbfkbcanjfaaaDoor
