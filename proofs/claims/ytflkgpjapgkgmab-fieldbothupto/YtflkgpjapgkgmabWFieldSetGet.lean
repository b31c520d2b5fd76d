/-
  The walk through FieldSetGet: it answers true and turns nothing that was there; what comes in is of bulk at most 1048576.
-/
import Derived.Test.YtflkgpjapgkgmabSpecD
import Derived.Test.YtflkgpjapgkgmabWSet2
import Derived.Test.YtflkgpjapgkgmabWGet
import Derived.Test.YtflkgpjapgkgmabWEqF
namespace Go.Proofs.Ytflkgpjapgkgmab
open Go.RowKit

theorem wide_bulk (ls : List Fld) (h : bulkF ls ≤ 1048576) : Wide ls := by
  refine ⟨fun x hx => ?_, ?_⟩
  · have := bulk_most ls x hx; omega
  · have := bulk_len ls; omega
theorem wide_set (s v : List UInt8) (ls : List Fld) (h : bulkF ls ≤ 1048576) (hs : s.length ≤ 1048576) (hv : v.length ≤ 1048576) : Wide (setS s v ls) := by
  refine ⟨fun x hx => ?_, ?_⟩
  · rcases setS_mem s v ls x hx with rfl | hx
    · simp only; omega
    · have := bulk_most ls x hx; omega
  · have h1 := setS_len s v ls
    have h2 := bulk_len ls
    omega

set_option maxHeartbeats 4000000 in
set_option maxRecDepth 100000 in
theorem walkFieldSetGet (a0 : Value) (l0 : List Fld) (a1 a2 a3 a4 : ByteArray) (w : World) (z0 : Fl w a0 l0) (b0 : bulkF l0 ≤ 1048576) (z1 : a1.size ≤ 1048576) (z2 : a2.size ≤ 1048576) (z3 : a3.size ≤ 1048576) (z4 : a4.size ≤ 1048576) :
    Calls Try.prog 3 #[a0, .string a1, .string a2, .string a3, .string a4] w fun e w' => e = .returned (.bool true) ∧ Below w.heap.size w w' := by
  have HZ : Hid (Fl w a0 l0) := z0
  have HW : Hid (Wide l0) := wide_bulk l0 b0
  have s1 := size_list a1
  have s2 := size_list a2
  have s3 := size_list a3
  obtain ⟨M, hM⟩ : ∃ M, M = setS a1.data.toList a2.data.toList l0 := ⟨_, rfl⟩
  obtain ⟨N, hN⟩ : ∃ N, N = setS a1.data.toList a3.data.toList l0 := ⟨_, rfl⟩
  have HM : Hid (setS a1.data.toList a2.data.toList l0 = M) := hM.symm
  have HN : Hid (setS a1.data.toList a3.data.toList l0 = N) := hN.symm
  have HMN : Hid (setS a1.data.toList a3.data.toList M = N) := by show _ = _; rw [hM, hN]; exact set_twice _ _ _ _
  have HWM : Hid (Wide M) := by show Wide M; rw [hM]; exact wide_set _ _ _ b0 (by omega) (by omega)
  have HWN : Hid (Wide N) := by show Wide N; rw [hN]; exact wide_set _ _ _ b0 (by omega) (by omega)
  obtain ⟨low, hlow⟩ : ∃ low : ByteArray, low.data.toList = lower a1.data.toList := ⟨⟨(lower a1.data.toList).toArray⟩, rfl⟩
  have HLOW : Hid (low.data.toList = lower a1.data.toList) := hlow
  have hlows : low.size ≤ 1048576 := by rw [← size_list, hlow]; simp only [lower, List.length_map]; omega
  obtain ⟨lo4, hlo4⟩ : ∃ lo4 : ByteArray, lo4.data.toList = lower a4.data.toList := ⟨⟨(lower a4.data.toList).toArray⟩, rfl⟩
  have HLO4 : Hid (lo4.data.toList = lower a4.data.toList) := hlo4
  have HVM : Hid (vals M low.data.toList = [a2.data.toList]) := by
    show _ = _
    rw [vals_low M a1.data.toList low.data.toList (by rw [hlow, lower_lower]), hM]; exact vals_set _ _ _
  have HVN : Hid (vals N a1.data.toList = [a3.data.toList]) := by show _ = _; rw [hN]; exact vals_set _ _ _
  obtain ⟨t, ht⟩ : ∃ t : ByteArray, t.data.toList = jn (vals l0 a4.data.toList) := ⟨⟨(jn (vals l0 a4.data.toList)).toArray⟩, rfl⟩
  obtain ⟨b, hb⟩ : ∃ b : Bool, b = !(vals l0 a4.data.toList).isEmpty := ⟨_, rfl⟩
  have hts : t.size ≤ 1048576 := by rw [← size_list, ht]; exact Nat.le_trans (jn_bulk _ _) b0
  have HT : Hid (t.data.toList = jn (vals l0 a4.data.toList)) := ht
  have HBB : Hid (b = !(vals l0 a4.data.toList).isEmpty) := hb
  have HEQ : Hid ((lo4.toList == low.toList) = false → vals M a4.data.toList = vals l0 a4.data.toList) := by
    show _ → _
    intro hq
    rw [ByteArray.toList_eq, ByteArray.toList_eq, hlow, hlo4, beq_eq_false_iff_ne] at hq
    rw [hM]; exact vals_set_other _ _ _ _ hq
  clear z0 b0 s1 s2 s3 hM hN hlow hlo4 ht hb
  go_enter Try.func3, Try.ntmps3
  go_wp2_with fail
  refine (set_any _ l0 a1 a2 _ HZ.out HW.out (by omega) (by omega)).mono ?_
  rintro e w1 ⟨v1, rfl, hown1, hb1⟩
  rw [HM.out] at hown1
  have HF1 : Hid (Fl w1 v1 M) := Fl.own hown1
  clear hown1
  go_wp2_with fail
  refine (lower_at a1 low HLOW.out _ (by omega)).mono ?_
  rintro e w2 ⟨rfl, hb2⟩
  have HF2 : Hid (Fl w2 v1 M) := HF1.out.below hb2
  have hw2 := hb1.trans (hb2.mono hb1.size)
  clear hb1 hb2 HF1
  go_wp2_with fail
  refine (get_at _ M low a2 true (by rw [HVM.out, jn_one]) (by rw [HVM.out]; rfl) _ HF2.out HWM.out (by omega) (by omega)).mono ?_
  rintro e w3 ⟨rfl, hb3⟩
  have HF3 : Hid (Fl w3 v1 M) := HF2.out.below hb3
  have hw3 := hw2.trans (hb3.mono hw2.size)
  clear hb3 hw2 HF2
  go_wp2_with fail
  refine (set_any _ M a1 a3 _ HF3.out HWM.out (by omega) (by omega)).mono ?_
  rintro e w4 ⟨v4, rfl, hown4, hb4⟩
  rw [HMN.out] at hown4
  have HN4 : Hid (Fl w4 v4 N) := Fl.own hown4
  have HF4 : Hid (Fl w4 v1 M) := HF3.out.below hb4
  have hw4 := hw3.trans (hb4.mono hw3.size)
  clear hown4 hb4 hw3 HF3
  go_wp2_with fail
  refine (get_at _ N a1 a3 true (by rw [HVN.out, jn_one]) (by rw [HVN.out]; rfl) _ HN4.out HWN.out (by omega) (by omega)).mono ?_
  rintro e w5 ⟨rfl, hb5⟩
  have HF5 : Hid (Fl w5 v1 M) := HF4.out.below hb5
  have hw5 := hw4.trans (hb5.mono hw4.size)
  clear hb5 hw4 HF4 HN4
  go_wp2_with fail
  refine (set_any _ M a1 a3 _ HF5.out HWM.out (by omega) (by omega)).mono ?_
  rintro e w6 ⟨v6, rfl, hown6, hb6⟩
  rw [HMN.out] at hown6
  have HN6 : Hid (Fl w6 v6 N) := Fl.own hown6
  have HF6 : Hid (Fl w6 v1 M) := HF5.out.below hb6
  have hw6 := hw5.trans (hb6.mono hw5.size)
  clear hown6 hb6 hw5 HF5
  go_wp2_with fail
  refine (set_any _ l0 a1 a3 _ (HZ.out.below hw6) HW.out (by omega) (by omega)).mono ?_
  rintro e w7 ⟨v7, rfl, hown7, hb7⟩
  rw [HN.out] at hown7
  have HN7 : Hid (Fl w7 v7 N) := Fl.own hown7
  have HN67 : Hid (Fl w7 v6 N) := HN6.out.below hb7
  have HF7 : Hid (Fl w7 v1 M) := HF6.out.below hb7
  have hw7 := hw6.trans (hb7.mono hw6.size)
  clear hown7 hb7 hw6 HF6 HN6
  go_wp2_with fail
  refine (eqF_same _ _ _ _ HN67.out HN7.out).mono ?_
  rintro e w8 ⟨rfl, hb8⟩
  have HF8 : Hid (Fl w8 v1 M) := HF7.out.below hb8
  have hw8 := hw7.trans (hb8.mono hw7.size)
  clear hb8 hw7 HF7 HN67 HN7
  go_wp2_with fail
  refine (lower_at a4 lo4 HLO4.out _ (by omega)).mono ?_
  rintro e w9 ⟨rfl, hb9⟩
  have HF9 : Hid (Fl w9 v1 M) := HF8.out.below hb9
  have hw9 := hw8.trans (hb9.mono hw8.size)
  clear hb9 hw8 HF8
  go_wp2_with fail
  refine (lower_at a1 low HLOW.out _ (by omega)).mono ?_
  rintro e w10 ⟨rfl, hb10⟩
  have HF10 : Hid (Fl w10 v1 M) := HF9.out.below hb10
  have hw10 := hw9.trans (hb10.mono hw9.size)
  clear hb10 hw9 HF9
  cases hq : (lo4.toList == low.toList)
  · have HV := HEQ.out hq
    have HV4 : Hid (vals M a4.data.toList = vals l0 a4.data.toList) := HV
    clear HV
    go_wp2_with fail
    refine (get_at _ l0 a4 t b HT.out HBB.out _ (HZ.out.below hw10) HW.out (by omega) (by omega)).mono ?_
    rintro e w11 ⟨rfl, hb11⟩
    have HF11 : Hid (Fl w11 v1 M) := HF10.out.below hb11
    have hw11 := hw10.trans (hb11.mono hw10.size)
    clear hb11 hw10 HF10
    go_wp2_with fail
    refine (get_at _ M a4 t b (by rw [HV4.out]; exact HT.out) (by rw [HV4.out]; exact HBB.out) _ HF11.out HWM.out (by omega) (by omega)).mono ?_
    rintro e w12 ⟨rfl, hb12⟩
    have hw12 := hw11.trans (hb12.mono hw11.size)
    go_wp2_with fail
    go_ret
    exact ⟨ret_bool (by simp), hw12⟩
  · go_wp2_with fail
    go_ret
    exact ⟨rfl, hw10⟩
end Go.Proofs.Ytflkgpjapgkgmab
