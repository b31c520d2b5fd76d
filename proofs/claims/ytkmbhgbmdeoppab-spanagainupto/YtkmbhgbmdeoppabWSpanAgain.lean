/-
  The walk through SpanAgain: it answers true and turns nothing that was there; both lists together are no longer than the claim allows.
-/
import Derived.Test.YtkmbhgbmdeoppabWSmrg
import Derived.Test.YtkmbhgbmdeoppabWEqC
import Derived.Test.YtkmbhgbmdeoppabWAppW
namespace Go.Proofs.Ytkmbhgbmdeoppab
open Go.RowKit

theorem mrg_known2 : mrgL [(3, 5), (1, 3)] = [(1, 5)] := by decide
theorem Wl.two2 (a b c d : Int) (w : World) (t : TypeId) : Wl (w.alloc (.cells #[.int .i64 a, .int .i64 b, .int .i64 c, .int .i64 d] t)) (.slice (some ⟨w.heap.size, 0, none⟩) 2 2) [(a, b), (c, d)] := by
  refine ⟨_, 2, rfl, by simp, by unfold maxLen; omega, fun _ => ⟨w.heap.size, 0, rfl, by simp, fun k hk => ?_⟩⟩
  have hk0 : k = 0 ∨ k = 1 := by simp at hk; omega
  rcases hk0 with rfl | rfl
  · exact ⟨by simp, by simp⟩
  · exact ⟨by simp, by simp⟩
set_option maxHeartbeats 8000000 in
set_option maxRecDepth 100000 in
theorem walkSpanAgain (a0 : Value) (l0 : List Wn) (a1 : Value) (l1 : List Wn) (w : World) (z0 : Wl w a0 l0) (_m0 : WfW l0) (b0 : l0.length ≤ 1048576) (q0 : Nilly a0) (z1 : Wl w a1 l1) (_m1 : WfW l1) (b1 : l1.length ≤ 1048576) (q1 : Nilly a1) :
    Calls Try.prog 6 #[a0, a1] w fun e w' => e = .returned (.bool true) ∧ Below w.heap.size w w' := by
  have HF0 : Hid (Wl w a0 l0) := z0
  have HF1 : Hid (Wl w a1 l1) := z1
  have HN0 : Hid (Nilly a0) := q0
  have HN1 : Hid (Nilly a1) := q1
  obtain ⟨m, hm⟩ : ∃ m, mrgL (l0 ++ l1) = m := ⟨_, rfl⟩
  have HM1 : Hid (mrgL (l0 ++ l1) = m) := hm
  have HM2 : Hid (mrgL (l1 ++ l0) = m) := by show _ = _; rw [mrgL_turn, hm]
  have HM3 : Hid (mrgL (mrgL l0 ++ mrgL l1) = m) := by show _ = _; rw [mrgL_parts, hm]
  have HM4 : Hid (mrgL m = m) := by show _ = _; rw [← hm]; exact mrgL_twice _
  have hml : m.length ≤ 4194304 := by rw [← hm]; have := (mrgL_ok (l0 ++ l1)).2.1; rw [List.length_append] at this; omega
  have h0l := (mrgL_ok l0).2.1
  have h1l := (mrgL_ok l1).2.1
  have HLEN : Hid ((mrgL l0).length ≤ 1048576 ∧ (mrgL l1).length ≤ 1048576) := ⟨by omega, by omega⟩
  clear z0 z1 q0 q1 hm h0l h1l
  go_enter Try.func6, Try.ntmps6
  go_wp2_with fail
  refine (copyW_any _ l0 _ HF0.out HN0.out (by omega)).mono ?_
  rintro e w1 ⟨v1, rfl, ho1, hb1⟩
  have HB1 : Hid (Below w.heap.size w w1) := hb1
  have HO1 : Hid (w1.ownsRow w.heap.size 28 2 v1 l0.length (wns l0)) := ho1
  have HF11 : Hid (Wl w1 a1 l1) := HF1.out.below hb1
  have hsz1 := hb1.size
  clear ho1 hb1
  go_wp2_with (at_builtin; refine append_wl rfl _ _ rfl w.heap.size v1 l0 rfl HO1.out a1 l1 rfl HF11.out HN1.out (by omega) hsz1 ?_)
  intro v2 w2 ho2 hb2
  rw [← List.length_append] at ho2
  have HB2 : Hid (Below w.heap.size w w2) := HB1.out.trans hb2
  have HW2 : Hid (Wl w2 v2 (l0 ++ l1)) := Wl.own ho2
  clear ho2 hb2 HO1 HF11 hsz1 HB1
  go_wp2_with fail
  refine (smerge_at _ (l0 ++ l1) _ HW2.out (by rw [List.length_append]; omega)).mono ?_
  rintro e w3 ⟨v3, rfl, ho3, hb3⟩
  rw [HM1.out] at ho3
  have HB3 : Hid (Below w.heap.size w w3) := HB2.out.trans (hb3.mono HB2.out.size)
  have HW3 : Hid (Wl w3 v3 m) := Wl.own ho3
  have HF03 : Hid (Wl w3 a0 l0) := HF0.out.below HB3.out
  have HF13 : Hid (Wl w3 a1 l1) := HF1.out.below HB3.out
  clear ho3 hb3 HW2 HB2
  go_wp2_with fail
  refine (copyW_any _ l1 _ HF13.out HN1.out (by omega)).mono ?_
  rintro e w4 ⟨v4, rfl, ho4, hb4⟩
  have HB4 : Hid (Below w3.heap.size w3 w4) := hb4
  have HO4 : Hid (w4.ownsRow w3.heap.size 28 2 v4 l1.length (wns l1)) := ho4
  have HF04 : Hid (Wl w4 a0 l0) := HF03.out.below hb4
  have hsz4 := hb4.size
  clear ho4 hb4 HF03 HF13
  go_wp2_with (at_builtin; refine append_wl rfl _ _ rfl w3.heap.size v4 l1 rfl HO4.out a0 l0 rfl HF04.out HN0.out (by omega) hsz4 ?_)
  intro v5 w5 ho5 hb5
  rw [← List.length_append] at ho5
  have HB5 : Hid (Below w3.heap.size w3 w5) := HB4.out.trans hb5
  have HW5 : Hid (Wl w5 v5 (l1 ++ l0)) := Wl.own ho5
  clear ho5 hb5 HO4 HF04 hsz4 HB4
  go_wp2_with fail
  refine (smerge_at _ (l1 ++ l0) _ HW5.out (by rw [List.length_append]; omega)).mono ?_
  rintro e w6 ⟨v6, rfl, ho6, hb6⟩
  rw [HM2.out] at ho6
  have hb36 := HB5.out.trans (hb6.mono HB5.out.size)
  have HB6 : Hid (Below w.heap.size w w6) := HB3.out.trans (hb36.mono HB3.out.size)
  have HW6 : Hid (Wl w6 v6 m) := Wl.own ho6
  have HA6 : Hid (Wl w6 v3 m) := HW3.out.below hb36
  have HF06 : Hid (Wl w6 a0 l0) := HF0.out.below HB6.out
  clear ho6 hb6 hb36 HW5 HB5 HW3 HB3
  go_wp2_with fail
  refine (smerge_at _ l0 _ HF06.out (by omega)).mono ?_
  rintro e w7 ⟨v7, rfl, ho7, hb7⟩
  have HB7 : Hid (Below w6.heap.size w6 w7) := hb7
  have HO7 : Hid (w7.ownsRow w6.heap.size 28 2 v7 (mrgL l0).length (wns (mrgL l0))) := ho7
  have HF17 : Hid (Wl w7 a1 l1) := HF1.out.below (HB6.out.trans (hb7.mono HB6.out.size))
  have hsz7 := hb7.size
  clear ho7 hb7 HF06
  go_wp2_with fail
  refine (smerge_at _ l1 _ HF17.out (by omega)).mono ?_
  rintro e w8 ⟨v8, rfl, ho8, hb8⟩
  have HB8 : Hid (Below w6.heap.size w6 w8) := HB7.out.trans (hb8.mono hsz7)
  have HO8 : Hid (w8.ownsRow w6.heap.size 28 2 v7 (mrgL l0).length (wns (mrgL l0))) := own_below3 HO7.out hb8
  have HW8 : Hid (Wl w8 v8 (mrgL l1)) := Wl.own ho8
  have HN8 : Hid (Nilly v8) := Nilly.own ho8
  have hsz8 := HB8.out.size
  obtain ⟨L0, hL0⟩ : ∃ L0, mrgL l0 = L0 := ⟨_, rfl⟩
  obtain ⟨L1, hL1⟩ : ∃ L1, mrgL l1 = L1 := ⟨_, rfl⟩
  rw [hL0] at HLEN HM3 HO8
  rw [hL1] at HLEN HM3 HW8
  have hlt := HLEN.out
  clear ho8 hb8 HO7 HF17 hsz7 HB7 hL0 hL1
  go_wp2_with (at_builtin; refine append_wl rfl _ _ rfl w6.heap.size v7 L0 rfl HO8.out v8 L1 rfl HW8.out HN8.out (by omega) hsz8 ?_)
  intro v9 w9 ho9 hb9
  rw [← List.length_append] at ho9
  have HB9 : Hid (Below w6.heap.size w6 w9) := HB8.out.trans hb9
  have HW9 : Hid (Wl w9 v9 (L0 ++ L1)) := Wl.own ho9
  clear ho9 hb9 HO8 HW8 HN8 hsz8 HB8
  go_wp2_with fail
  refine (smerge_at _ (L0 ++ L1) _ HW9.out (by rw [List.length_append]; omega)).mono ?_
  rintro e w10 ⟨v10, rfl, ho10, hb10⟩
  rw [HM3.out] at ho10
  have hb610 := HB9.out.trans (hb10.mono HB9.out.size)
  have HB10 : Hid (Below w.heap.size w w10) := HB6.out.trans (hb610.mono HB6.out.size)
  have HC10 : Hid (Wl w10 v10 m) := Wl.own ho10
  have HB10b : Hid (Wl w10 v6 m) := HW6.out.below hb610
  have HA10 : Hid (Wl w10 v3 m) := HA6.out.below hb610
  have HWT : Hid (Wl (w10.alloc (.cells #[.int .i64 3, .int .i64 5, .int .i64 1, .int .i64 3] 28)) (.slice (some ⟨w10.heap.size, 0, none⟩) 2 2) [(3, 5), (1, 3)]) := Wl.two2 3 5 1 3 w10 _
  clear ho10 hb10 hb610 HW9 HB9 HW6 HA6 HB6
  go_wp2_with fail
  refine (smerge_at _ [(3, 5), (1, 3)] _ HWT.out (by decide)).mono ?_
  rintro e w11 ⟨v11, rfl, ho11, hb11⟩
  rw [mrg_known2] at ho11
  have hbn := below_new hb11
  have HB11 : Hid (Below w.heap.size w w11) := HB10.out.trans (hbn.mono HB10.out.size)
  have HA11 : Hid (Wl w11 v3 m) := HA10.out.below hbn
  have HB11b : Hid (Wl w11 v6 m) := HB10b.out.below hbn
  have HC11 : Hid (Wl w11 v10 m) := HC10.out.below hbn
  obtain ⟨add, capd, rfl, _, _⟩ := own_form2 ho11
  clear ho11 hb11 hbn HWT HB10 HA10 HB10b HC10
  go_wp2_with fail
  refine (eqC_same _ _ m _ HA11.out HB11b.out).mono ?_
  rintro e w12 ⟨rfl, hb12⟩
  have HB12 : Hid (Below w.heap.size w w12) := HB11.out.trans (hb12.mono HB11.out.size)
  have HA12 : Hid (Wl w12 v3 m) := HA11.out.below hb12
  have HC12 : Hid (Wl w12 v10 m) := HC11.out.below hb12
  clear hb12 HA11 HB11b HC11
  go_wp2_with fail
  refine (eqC_same _ _ m _ HA12.out HC12.out).mono ?_
  rintro e w13 ⟨rfl, hb13⟩
  have HB13 : Hid (Below w.heap.size w w13) := HB12.out.trans (hb13.mono HB12.out.size)
  have HA13 : Hid (Wl w13 v3 m) := HA12.out.below hb13
  clear hb13 HA12 HC12
  go_wp2_with fail
  refine (smerge_at _ m _ HA13.out (by omega)).mono ?_
  rintro e w14 ⟨v14, rfl, ho14, hb14⟩
  rw [HM4.out] at ho14
  have HB14 : Hid (Below w.heap.size w w14) := HB13.out.trans (hb14.mono HB13.out.size)
  have HW14 : Hid (Wl w14 v14 m) := Wl.own ho14
  have HA14 : Hid (Wl w14 v3 m) := HA13.out.below hb14
  clear ho14 hb14 HA13
  go_wp2_with fail
  refine (eqC_same _ _ m _ HW14.out HA14.out).mono ?_
  rintro e w15 ⟨rfl, hb15⟩
  have HB15 : Hid (Below w.heap.size w w15) := HB14.out.trans (hb15.mono HB14.out.size)
  clear hb15
  go_wp2_with fail
  go_ret
  exact ⟨by first | rfl | simp, HB15.out⟩
end Go.Proofs.Ytkmbhgbmdeoppab
