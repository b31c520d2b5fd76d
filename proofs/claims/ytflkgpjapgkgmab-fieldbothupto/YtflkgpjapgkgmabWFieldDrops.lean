/-
  The walk through FieldDrops: it answers true and turns nothing that was there; the list and the texts fit in the memory that Go's limits allow.
-/
import Derived.Test.YtflkgpjapgkgmabSpecD
import Derived.Test.YtflkgpjapgkgmabWSet2
import Derived.Test.YtflkgpjapgkgmabWGet
import Derived.Test.YtflkgpjapgkgmabWEqF
namespace Go.Proofs.Ytflkgpjapgkgmab
open Go.RowKit

theorem Wide.rest {ls : List Fld} (h : Wide ls) (s : List UInt8) : Wide (rest1 s ls) := h.filter _
/-- The field that the laws set in a list without any, and how it is read. -/
theorem set_x : setS [120] [121] [] = [([120], [121])] := rfl
theorem wide_x : Wide [([120], [121])] := by
  refine ⟨fun x hx => ?_, by decide⟩
  rw [List.mem_singleton.1 hx]
  exact ⟨by decide, by decide⟩
theorem vals_x : vals [([120], [121])] [88] = [[121]] := by decide

set_option maxHeartbeats 2000000 in
set_option maxRecDepth 100000 in
theorem walkFieldDrops (a0 : Value) (l0 : List Fld) (a1 a2 : ByteArray) (w : World) (z0 : Fl w a0 l0) (b0 : Wide l0) (z1 : a1.size ≤ 140737488351232) (z2 : a2.size ≤ 140737488351232) :
    Calls Try.prog 4 #[a0, .string a1, .string a2] w fun e w' => e = .returned (.bool true) ∧ Below w.heap.size w w' := by
  have HZ : Hid (Fl w a0 l0) := z0
  have HW : Hid (Wide l0) := b0
  obtain ⟨ad0, cap0, hv0, hcap0, hcm0, hcx0⟩ := z0
  subst hv0
  clear hcx0 b0
  obtain ⟨M, hM⟩ : ∃ M, M = rest1 a1.data.toList l0 := ⟨_, rfl⟩
  have HM : Hid (rest1 a1.data.toList l0 = M) := hM.symm
  have HWM : Hid (Wide M) := by show Wide M; rw [hM]; exact HW.out.rest _
  have hml : M.length ≤ l0.length := by rw [hM]; exact rest_len _ _
  have HV : Hid (vals M a1.data.toList = []) := by show _ = _; rw [hM]; exact vals_rest _ _
  have HMM : Hid (rest1 a1.data.toList M = M) := by show _ = _; rw [hM]; exact rest_twice _ _
  have HCO : Hid (rest1 a1.data.toList (rest1 a2.data.toList l0) = rest1 a2.data.toList M) := by show _ = _; rw [hM]; exact (rest_comm _ _ _).symm
  clear hM
  go_enter Try.func4, Try.ntmps4
  go_wp2_with fail
  refine (drop_any _ l0 a1 _ HZ.out HW.out z1).mono ?_
  rintro e w1 ⟨v1, rfl, hown1, hb1⟩
  rw [HM.out] at hown1
  have HF1 : Hid (Fl w1 v1 M) := Fl.own hown1
  obtain ⟨ad1, cap1, hv1, hcm1, hnc1, hcx1⟩ := own_form2 hown1
  subst hv1
  clear hcx1 hown1
  go_wp2_with fail
  refine (get_at _ M a1 ⟨#[]⟩ false (by rw [HV.out]; rfl) (by rw [HV.out]; rfl) _ HF1.out HWM.out z1 (by decide)).mono ?_
  rintro e w2 ⟨rfl, hb2⟩
  have HF2 : Hid (Fl w2 (.slice ad1 M.length cap1) M) := HF1.out.below hb2
  have hw2 := hb1.trans (hb2.mono hb1.size)
  have hd : decide ((l0.length : Int) < (M.length : Int)) = false := decide_eq_false (by omega)
  clear hb1 hb2 HF1
  go_wp2_with fail
  refine (set_any _ [] ⟨#[120]⟩ ⟨#[121]⟩ _ (Fl.nil _) ⟨fun x hx => (by cases hx), by decide⟩ (by decide) (by decide)).mono ?_
  rintro e w3 ⟨v3, rfl, hown3, hb3⟩
  have HF3 : Hid (Fl w3 v3 [([120], [121])]) := Fl.own hown3
  have HM3 : Hid (Fl w3 (.slice ad1 M.length cap1) M) := HF2.out.below hb3
  have hw3 := hw2.trans (hb3.mono hw2.size)
  clear hown3 hb3 hw2 HF2
  go_wp2_with fail
  refine (get_at _ [([120], [121])] ⟨#[88]⟩ ⟨#[121]⟩ true (by show _ = jn (vals _ [88]); rw [vals_x, jn_one]) (by show true = !(vals _ [88]).isEmpty; rw [vals_x]; rfl) _ HF3.out wide_x (by decide) (by decide)).mono ?_
  rintro e w4 ⟨rfl, hb4⟩
  have HM4 : Hid (Fl w4 (.slice ad1 M.length cap1) M) := HM3.out.below hb4
  have hw4 := hw3.trans (hb4.mono hw3.size)
  clear hb4 hw3 HM3 HF3
  go_wp2_with fail
  refine (drop_any _ M a2 _ HM4.out HWM.out z2).mono ?_
  rintro e w5 ⟨v5, rfl, hown5, hb5⟩
  have HF5 : Hid (Fl w5 v5 (rest1 a2.data.toList M)) := Fl.own hown5
  have HM5 : Hid (Fl w5 (.slice ad1 M.length cap1) M) := HM4.out.below hb5
  have hw5 := hw4.trans (hb5.mono hw4.size)
  clear hown5 hb5 hw4 HM4
  go_wp2_with fail
  refine (drop_any _ l0 a2 _ (HZ.out.below hw5) HW.out z2).mono ?_
  rintro e w6 ⟨v6, rfl, hown6, hb6⟩
  have HF6 : Hid (Fl w6 v6 (rest1 a2.data.toList l0)) := Fl.own hown6
  have HF56 : Hid (Fl w6 v5 (rest1 a2.data.toList M)) := HF5.out.below hb6
  have HM6 : Hid (Fl w6 (.slice ad1 M.length cap1) M) := HM5.out.below hb6
  have hw6 := hw5.trans (hb6.mono hw5.size)
  clear hown6 hb6 hw5 HM5 HF5
  go_wp2_with fail
  refine (drop_any _ _ a1 _ HF6.out (HW.out.rest _) z1).mono ?_
  rintro e w7 ⟨v7, rfl, hown7, hb7⟩
  rw [HCO.out] at hown7
  have HF7 : Hid (Fl w7 v7 (rest1 a2.data.toList M)) := Fl.own hown7
  have HF57 : Hid (Fl w7 v5 (rest1 a2.data.toList M)) := HF56.out.below hb7
  have HM7 : Hid (Fl w7 (.slice ad1 M.length cap1) M) := HM6.out.below hb7
  have hw7 := hw6.trans (hb7.mono hw6.size)
  clear hown7 hb7 hw6 HM6 HF56 HF6
  go_wp2_with fail
  refine (eqF_same _ _ _ _ HF57.out HF7.out).mono ?_
  rintro e w8 ⟨rfl, hb8⟩
  have HM8 : Hid (Fl w8 (.slice ad1 M.length cap1) M) := HM7.out.below hb8
  have hw8 := hw7.trans (hb8.mono hw7.size)
  clear hb8 hw7 HM7 HF57 HF7
  go_wp2_with fail
  refine (drop_any _ M a1 _ HM8.out HWM.out z1).mono ?_
  rintro e w9 ⟨v9, rfl, hown9, hb9⟩
  rw [HMM.out] at hown9
  have HF9 : Hid (Fl w9 v9 M) := Fl.own hown9
  have HM9 : Hid (Fl w9 (.slice ad1 M.length cap1) M) := HM8.out.below hb9
  have hw9 := hw8.trans (hb9.mono hw8.size)
  clear hown9 hb9 hw8 HM8
  go_wp2_with fail
  refine (eqF_same _ _ _ _ HF9.out HM9.out).mono ?_
  rintro e w10 ⟨rfl, hb10⟩
  have hw10 := hw9.trans (hb10.mono hw9.size)
  go_wp2_with fail
  go_ret
  exact ⟨rfl, hw10⟩
end Go.Proofs.Ytflkgpjapgkgmab
