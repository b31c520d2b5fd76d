/-
  What DatePrint of the document's answers computes, a contract over the program's text.
-/
import Derived.Test.YthbbfkbcanjfaaaDoorWRDig
import Derived.Test.YthbbfkbcanjfaaaDoorWRDay
namespace Go.Proofs.YthbbfkbcanjfaaaDoor
open Go.RowKit

theorem ret_sr {a b : ByteArray} {c d : Int} (h : a = b) (h' : c = d) : Ending.returned (.tuple #[.string a, .int .i64 c]) = .returned (.tuple #[.string b, .int .i64 d]) := by rw [h, h']
theorem weekV (k : Nat) (h : k < 7) : ∀ hh, ([Value.string ⟨#[84, 104, 117]⟩, Value.string ⟨#[70, 114, 105]⟩, Value.string ⟨#[83, 97, 116]⟩, Value.string ⟨#[83, 117, 110]⟩, Value.string ⟨#[77, 111, 110]⟩, Value.string ⟨#[84, 117, 101]⟩, Value.string ⟨#[87, 101, 100]⟩] : List Value)[k]'hh = .string ⟨(weekS k).toArray⟩ := by
  intro hh
  rcases (show k = 0 ∨ k = 1 ∨ k = 2 ∨ k = 3 ∨ k = 4 ∨ k = 5 ∨ k = 6 by omega) with rfl | rfl | rfl | rfl | rfl | rfl | rfl <;> rfl
theorem monthV (k : Nat) (h : k < 12) : ∀ hh, ([Value.string ⟨#[74, 97, 110]⟩, Value.string ⟨#[70, 101, 98]⟩, Value.string ⟨#[77, 97, 114]⟩, Value.string ⟨#[65, 112, 114]⟩, Value.string ⟨#[77, 97, 121]⟩, Value.string ⟨#[74, 117, 110]⟩, Value.string ⟨#[74, 117, 108]⟩, Value.string ⟨#[65, 117, 103]⟩, Value.string ⟨#[83, 101, 112]⟩, Value.string ⟨#[79, 99, 116]⟩, Value.string ⟨#[78, 111, 118]⟩, Value.string ⟨#[68, 101, 99]⟩] : List Value)[k]'hh = .string ⟨(monthS k).toArray⟩ := by
  intro hh
  rcases (show k = 0 ∨ k = 1 ∨ k = 2 ∨ k = 3 ∨ k = 4 ∨ k = 5 ∨ k = 6 ∨ k = 7 ∨ k = 8 ∨ k = 9 ∨ k = 10 ∨ k = 11 by omega) with rfl | rfl | rfl | rfl | rfl | rfl | rfl | rfl | rfl | rfl | rfl | rfl <;> rfl

theorem rdprint_no (n : Int) (w : World) (h : n < 0 ∨ 253402300799 < n) :
    Calls Tryd.prog 7 #[.int .i64 n] w fun e w' => e = .returned (.tuple #[.string ⟨#[]⟩, .int .i64 1]) ∧ w' = w := by
  have H : Hid (n < 0 ∨ 253402300799 < n) := h
  clear h
  go_enter Tryd.func7, Tryd.ntmps7
  go_wp2_with fail
  refine (outside_yes _ _ _ _ H.out).mono ?_
  rintro e w ⟨rfl, rfl⟩
  go_wp2_with fail
  go_ret2
  exact ⟨rfl, rfl⟩

set_option maxHeartbeats 4000000 in
set_option maxRecDepth 100000 in
theorem rdprint_yes (n : Int) (w : World) (h1 : 0 ≤ n) (h2 : n ≤ 253402300799) :
    Calls Tryd.prog 7 #[.int .i64 n] w fun e w' => ∃ y m d : Int, e = .returned (.tuple #[.string ⟨(dtext n y m d).toArray⟩, .int .i64 0]) ∧ vldB y m d = true ∧ num y m d = n / 86400 ∧ Below w.heap.size w w' := by
  go_enter Tryd.func7, Tryd.ntmps7
  go_wp2_with fail
  refine (outside_no _ _ _ _ h1 h2).mono ?_
  rintro e w ⟨rfl, rfl⟩
  go_wp2_with fail
  refine (rcivil_yes _ _ (by omega) (by omega)).mono ?_
  rintro e w1 ⟨y, m, d, rfl, hv, hn, hb⟩
  have HV : Hid (vldB y m d = true) := hv
  have HN : Hid (num y m d = n / 86400) := hn
  have HB1 : Hid (Below w.heap.size w w1) := hb
  obtain ⟨a1, a2, a3, a4, a5, a6⟩ := vld_iff.1 hv
  have hdl := dim_lo y m
  have hd31 : d ≤ 31 := by omega
  clear hv hn a6 hdl hb
  obtain ⟨k, hk⟩ : ∃ k : Nat, n / 86400 % 7 = (k : Int) := ⟨(n / 86400 % 7).toNat, by omega⟩
  have hk7 : k < 7 := by omega
  obtain ⟨j, hj⟩ : ∃ j : Nat, m - 1 = (j : Int) := ⟨(m - 1).toNat, by omega⟩
  have hj12 : j < 12 := by omega
  have ew := weekV k hk7
  have em := monthV j hj12
  have hX : dtext n y m d = weekS k ++ [44, 32] ++ dig2 d.toNat ++ [32] ++ monthS j ++ [32] ++ dig4 y.toNat ++ [32]
    ++ dig2 (n / 3600 % 24).toNat ++ [58] ++ dig2 (n / 60 % 60).toNat ++ [58] ++ dig2 (n % 60).toNat ++ [32, 71, 77, 84] := by
    unfold dtext; rw [hk, hj, show n % 86400 / 3600 = n / 3600 % 24 by omega, show n % 3600 / 60 = n / 60 % 60 by omega]; rfl
  obtain ⟨a, ha⟩ : ∃ a : ByteArray, a = ⟨(weekS k).toArray⟩ := ⟨_, rfl⟩
  obtain ⟨b, hb⟩ : ∃ b : ByteArray, b = ⟨(monthS j).toArray⟩ := ⟨_, rfl⟩
  rw [← ha] at ew
  rw [← hb] at em
  have hza : a.size = 3 := by rw [← size_list, ha]; exact week_len k hk7
  have hzb : b.size = 3 := by rw [← size_list, hb]; exact month_len j hj12
  have LA : Hid (weekS k = a.data.toList) := by show weekS k = _; rw [ha]
  have LB : Hid (monthS j = b.data.toList) := by show monthS j = _; rw [hb]
  have HX : Hid (dtext n y m d = _) := hX
  clear ha hb hX
  go_wp2_with fail
  refine (pad2_any _ (by omega) (by omega) _).mono ?_
  rintro e w2 ⟨rfl, hb⟩
  have HB2 : Hid (Below w.heap.size w w2) := (((HB1.out.alloc HB1.out.size _).alloc (by simp; have := HB1.out.size; omega) _).trans (hb.mono (by simp; have := HB1.out.size; omega)))
  clear hb HB1
  obtain ⟨c1, hc⟩ : ∃ c : ByteArray, c = ⟨(dig2 d.toNat).toArray⟩ := ⟨_, rfl⟩
  rw [← hc]
  have hz1 : c1.size = 2 := by rw [hc]; rfl
  have L1 : Hid (dig2 d.toNat = c1.data.toList) := by show dig2 d.toNat = _; rw [hc]
  clear hc
  go_wp2_with fail
  refine (pad4_any _ (by omega) (by omega) _).mono ?_
  rintro e w3 ⟨rfl, hb⟩
  have HB3 : Hid (Below w.heap.size w w3) := HB2.out.trans (hb.mono HB2.out.size)
  clear hb HB2
  obtain ⟨c2, hc⟩ : ∃ c : ByteArray, c = ⟨(dig4 y.toNat).toArray⟩ := ⟨_, rfl⟩
  rw [← hc]
  have hz2 : c2.size = 4 := by rw [hc]; rfl
  have L2 : Hid (dig4 y.toNat = c2.data.toList) := by show dig4 y.toNat = _; rw [hc]
  clear hc
  go_wp2_with fail
  refine (pad2_any _ (by omega) (by omega) _).mono ?_
  rintro e w4 ⟨rfl, hb⟩
  have HB4 : Hid (Below w.heap.size w w4) := HB3.out.trans (hb.mono HB3.out.size)
  clear hb HB3
  obtain ⟨c3, hc⟩ : ∃ c : ByteArray, c = ⟨(dig2 (n / 3600 % 24).toNat).toArray⟩ := ⟨_, rfl⟩
  rw [← hc]
  have hz3 : c3.size = 2 := by rw [hc]; rfl
  have L3 : Hid (dig2 (n / 3600 % 24).toNat = c3.data.toList) := by show dig2 (n / 3600 % 24).toNat = _; rw [hc]
  clear hc
  go_wp2_with fail
  refine (pad2_any _ (by omega) (by omega) _).mono ?_
  rintro e w5 ⟨rfl, hb⟩
  have HB5 : Hid (Below w.heap.size w w5) := HB4.out.trans (hb.mono HB4.out.size)
  clear hb HB4
  obtain ⟨c4, hc⟩ : ∃ c : ByteArray, c = ⟨(dig2 (n / 60 % 60).toNat).toArray⟩ := ⟨_, rfl⟩
  rw [← hc]
  have hz4 : c4.size = 2 := by rw [hc]; rfl
  have L4 : Hid (dig2 (n / 60 % 60).toNat = c4.data.toList) := by show dig2 (n / 60 % 60).toNat = _; rw [hc]
  clear hc
  go_wp2_with fail
  refine (pad2_any _ (by omega) (by omega) _).mono ?_
  rintro e w6 ⟨rfl, hb⟩
  have HB6 : Hid (Below w.heap.size w w6) := HB5.out.trans (hb.mono HB5.out.size)
  clear hb HB5
  obtain ⟨c5, hc⟩ : ∃ c : ByteArray, c = ⟨(dig2 (n % 60).toNat).toArray⟩ := ⟨_, rfl⟩
  rw [← hc]
  have hz5 : c5.size = 2 := by rw [hc]; rfl
  have L5 : Hid (dig2 (n % 60).toNat = c5.data.toList) := by show dig2 (n % 60).toNat = _; rw [hc]
  clear hc
  go_wp2_with fail
  go_ret2
  refine ⟨y, m, d, ret_sr (mk_data _ _ ?_) rfl, HV.out, HN.out, HB6.out⟩
  rw [HX.out, LA.out, LB.out, L1.out, L2.out, L3.out, L4.out, L5.out]
  simp only [app_list]
end Go.Proofs.YthbbfkbcanjfaaaDoor
