/-
  The walk through SpanSame: it answers true and turns nothing that was there; a list is no longer than Go allows.
-/
import Derived.Test.YtkmbhgbmdeoppabWSmrg
import Derived.Test.YtkmbhgbmdeoppabWIns
import Derived.Test.YtkmbhgbmdeoppabWEqC
import Derived.Test.YtkmbhgbmdeoppabSpecQr
namespace Go.Proofs.Ytkmbhgbmdeoppab
open Go.RowKit

theorem mrg_known : mrgL [(3, 5), (1, 3)] = [(1, 5)] := by decide
theorem Wl.two (a b c d : Int) (w : World) (t : TypeId) : Wl (w.alloc (.cells #[.int .i64 a, .int .i64 b, .int .i64 c, .int .i64 d] t)) (.slice (some ⟨w.heap.size, 0, none⟩) 2 2) [(a, b), (c, d)] := by
  refine ⟨_, 2, rfl, by simp, by unfold maxLen; omega, fun _ => ⟨w.heap.size, 0, rfl, by simp, fun k hk => ?_⟩⟩
  have hk0 : k = 0 ∨ k = 1 := by simp at hk; omega
  rcases hk0 with rfl | rfl
  · exact ⟨by simp, by simp⟩
  · exact ⟨by simp, by simp⟩
set_option maxHeartbeats 8000000 in
set_option maxRecDepth 100000 in
theorem walkSpanSame (a0 : Value) (l0 : List Wn) (a1 : Int) (w : World) (z0 : Wl w a0 l0) (_m0 : WfW l0) (b0 : l0.length ≤ 8796093021952) (_z1 : (Lit.int .i64 a1).wf = true) :
    Calls Try.prog 5 #[a0, .int .i64 a1] w fun e w' => e = .returned (.bool true) ∧ Below w.heap.size w w' := by
  have HF : Hid (Wl w a0 l0) := z0
  obtain ⟨ad, cap, rfl, hnc, hcm, _⟩ := id z0
  unfold maxLen at hcm
  obtain ⟨m, hm⟩ : ∃ m, mrgL l0 = m := ⟨_, rfl⟩
  have HM : Hid (mrgL l0 = m) := hm
  have HCN : Hid (canonM m) := by rw [← hm]; exact (mrgL_ok l0).1
  have HIN : Hid (∀ k, insd l0 k = insd m k) := fun k => by rw [← hm, (mrgL_ok l0).2.2 k]
  have hml : m.length ≤ l0.length := by rw [← hm]; exact (mrgL_ok l0).2.1
  clear z0 hm
  go_enter Try.func5, Try.ntmps5
  go_wp2_with fail
  refine (smerge_at _ l0 _ HF.out b0).mono ?_
  rintro e w1 ⟨v1, rfl, ho1, hb1⟩
  rw [HM.out] at ho1
  have HW1 : Hid (Wl w1 v1 m) := Wl.own ho1
  have HB1 : Hid (Below w.heap.size w w1) := hb1
  have HWT : Hid (Wl (w1.alloc (.cells #[.int .i64 3, .int .i64 5, .int .i64 1, .int .i64 3] 28)) (.slice (some ⟨w1.heap.size, 0, none⟩) 2 2) [(3, 5), (1, 3)]) := Wl.two 3 5 1 3 w1 _
  clear ho1 hb1
  go_wp2_with fail
  refine (smerge_at _ [(3, 5), (1, 3)] _ HWT.out (by decide)).mono ?_
  rintro e w2 ⟨v2, rfl, ho2, hb2⟩
  rw [mrg_known] at ho2
  have HW2 : Hid (Wl w2 v2 [(1, 5)]) := Wl.own ho2
  have HB2 : Hid (Below w1.heap.size w1 w2) := below_new hb2
  have HE1 : Hid (Wl (w2.alloc (.cells #[.int .i64 1, .int .i64 5] 28)) v2 [(1, 5)]) := HW2.out.below (below_alloc _ _)
  have HE2 : Hid (Wl (w2.alloc (.cells #[.int .i64 1, .int .i64 5] 28)) (.slice (some ⟨w2.heap.size, 0, none⟩) 1 1) [(1, 5)]) := Wl.one 1 5 w2 _
  clear ho2 hb2
  go_wp2_with fail
  refine (eqC_same _ _ [(1, 5)] _ HE1.out HE2.out).mono ?_
  rintro e w3 ⟨rfl, hb3⟩
  have HB3 : Hid (Below w.heap.size w w3) := (HB1.out.trans (HB2.out.mono HB1.out.size)).trans ((below_new hb3).mono (Nat.le_trans HB1.out.size HB2.out.size))
  have HWM : Hid (Wl w3 v1 m) := (HW1.out.below HB2.out).below (below_new hb3)
  have HWL : Hid (Wl w3 _ l0) := HF.out.below HB3.out
  obtain ⟨ad1, cap1, rfl, hnc1, hcm1, _⟩ := id HWM.out
  unfold maxLen at hcm1
  have hsz3 := HB3.out.size
  clear hb3 HW1 HW2 HWT HB2
  go_wp2_with fail
  go_loopw [24] (fun i wr => ∃ k : Nat, k ≤ m.length ∧ i = .int .i64 k ∧ Below w3.heap.size w3 wr) (fun i _ => m.length - (intOf i).toNat)
  case atStart => exact ⟨0, Nat.zero_le _, rfl, Below.refl _ _⟩
  case round =>
    obtain ⟨k, hk, rfl, hw⟩ := hrel
    have hszr := hw.size
    by_cases hlt : k < m.length
    · obtain ⟨ad', cap', hv', _, _, hc'⟩ := HWM.out
      simp only [Value.slice.injEq] at hv'
      obtain ⟨rfl, _, rfl⟩ := hv'
      obtain ⟨g, off, rfl, hgs, hce⟩ := hc' (by omega)
      obtain ⟨c1, c2⟩ := hce k hlt
      have hpq := HCN.out.1 m[k] (List.getElem_mem hlt)
      have d1 := (hw.cell (p := ⟨g, off + k * 2, none⟩) hgs).trans c1
      have d2 := (hw.cell (p := ⟨g, off + k * 2 + 1, none⟩) hgs).trans c2
      obtain ⟨p, hp⟩ : ∃ p, p = (m[k]).1 := ⟨_, rfl⟩
      obtain ⟨q, hq⟩ : ∃ q, q = (m[k]).2 := ⟨_, rfl⟩
      rw [← hp] at d1 hpq
      rw [← hq] at d2 hpq
      have hgr : g < wr.heap.size := by omega
      have hki : (k : Int) < (m.length : Int) := by omega
      have hk0 : (0 : Int) ≤ (k : Int) := by omega
      have hnq : ¬ q ≤ p := by omega
      have hw0 := hw.alloc hszr (.cells #[.int .i64 p, .int .i64 q] 28)
      by_cases hkp : 0 < k
      · have hkpi : (0 : Int) < (k : Int) := by omega
        obtain ⟨j, hj⟩ : ∃ j, j + 1 = k := ⟨k - 1, by omega⟩
        obtain ⟨e1, e2⟩ := hce j (by omega)
        have u2 := (hw.cell (p := ⟨g, off + j * 2 + 1, none⟩) hgs).trans e2
        obtain ⟨z, hz⟩ : ∃ z, z = (m[j]'(by omega)).2 := ⟨_, rfl⟩
        have hzp : z < p := by
          rw [hz, hp]
          exact (List.pairwise_iff_getElem.1 HCN.out.2) j k (by omega) hlt (by omega)
        rw [← hz] at u2
        have hnz : ¬ p ≤ z := by omega
        have hwr : IntKind.i64.wrap ((k : Int) - 1) = (j : Int) := by rw [IntKind.wrap_i64] <;> omega
        have hj1 : (j : Int) < (m.length : Int) := by omega
        have hj0 : (0 : Int) ≤ (j : Int) := by omega
        have HJK : Hid (j + 1 = k) := hj
        have hnqd : decide (q ≤ p) = false := decide_eq_false hnq
        have hkpd : decide ((0 : Int) < (k : Int)) = true := decide_eq_true hkpi
        obtain ⟨T, G, x0, hG, HG1, HG2, HG3⟩ := below_class (wr.alloc (.cells #[.int .i64 p, .int .i64 q] 28))
        haveI : Nonempty T := ⟨x0⟩
        have HWK : Hid (wr.alloc (.cells #[.int .i64 p, .int .i64 q] 28) = G x0) := hG
        have hall : ∀ x, (G x).cell? ⟨wr.heap.size, 0, none⟩ = some (.int .i64 p) ∧ (G x).cell? ⟨wr.heap.size, 1, none⟩ = some (.int .i64 q) ∧ Below w3.heap.size w3 (G x) ∧ Below wr.heap.size wr (G x) := by
          intro x
          have h1 := HG1.out x
          rw [← hG] at h1
          exact ⟨new_cell h1 0, new_cell h1 1, hw0.trans (h1.mono hw0.size), below_new h1⟩
        have hc0 : ∀ x, (G x).cell? ⟨wr.heap.size, 0, none⟩ = some (.int .i64 p) := fun x => (hall x).1
        have hc1 : ∀ x, (G x).cell? ⟨wr.heap.size, 1, none⟩ = some (.int .i64 q) := fun x => (hall x).2.1
        have HBW : Hid (∀ x, Below w3.heap.size w3 (G x)) := fun x => (hall x).2.2.1
        have hnzd : decide (p ≤ z) = false := decide_eq_false hnz
        have hc2 : ∀ x, (G x).cell? ⟨g, off + j * 2 + 1, none⟩ = some (.int .i64 z) := fun x => ((hall x).2.2.2.cell (p := ⟨g, off + j * 2 + 1, none⟩) hgr).trans u2
        clear hce c1 c2 e1 e2 hc' hp hq hz hw hall hG hw0 hj u2
        go_wp2_with fail
        rw [HWK.out]
        refine region_in G (by kernel_rfl) (by kernel_rfl) (HG3.out _) ?_
        repeat (go_big_quiet_step (fail))
        refine wpQuiet_nil ?_
        rintro _ ⟨x1, rfl⟩
        go_wp2_with fail
        go_roundw
        case rel => exact ⟨k + 1, by omega, by go_num, HBW.out _⟩
        case measure => simp [intOf]; omega
      · have hkpi : ¬ (0 : Int) < (k : Int) := by omega
        have hnqd : decide (q ≤ p) = false := decide_eq_false hnq
        have hkpd : decide ((0 : Int) < (k : Int)) = false := decide_eq_false hkpi
        obtain ⟨T, G, x0, hG, HG1, HG2, HG3⟩ := below_class (wr.alloc (.cells #[.int .i64 p, .int .i64 q] 28))
        haveI : Nonempty T := ⟨x0⟩
        have HWK : Hid (wr.alloc (.cells #[.int .i64 p, .int .i64 q] 28) = G x0) := hG
        have hall : ∀ x, (G x).cell? ⟨wr.heap.size, 0, none⟩ = some (.int .i64 p) ∧ (G x).cell? ⟨wr.heap.size, 1, none⟩ = some (.int .i64 q) ∧ Below w3.heap.size w3 (G x) ∧ Below wr.heap.size wr (G x) := by
          intro x
          have h1 := HG1.out x
          rw [← hG] at h1
          exact ⟨new_cell h1 0, new_cell h1 1, hw0.trans (h1.mono hw0.size), below_new h1⟩
        have hc0 : ∀ x, (G x).cell? ⟨wr.heap.size, 0, none⟩ = some (.int .i64 p) := fun x => (hall x).1
        have hc1 : ∀ x, (G x).cell? ⟨wr.heap.size, 1, none⟩ = some (.int .i64 q) := fun x => (hall x).2.1
        have HBW : Hid (∀ x, Below w3.heap.size w3 (G x)) := fun x => (hall x).2.2.1
        clear hce c1 c2 hc' hp hq hw hall hG hw0
        go_wp2_with fail
        rw [HWK.out]
        refine region_in G (by kernel_rfl) (by kernel_rfl) (HG3.out _) ?_
        repeat (go_big_quiet_step (fail))
        refine wpQuiet_nil ?_
        rintro _ ⟨x1, rfl⟩
        go_wp2_with fail
        go_roundw
        case rel => exact ⟨k + 1, by omega, by go_num, HBW.out _⟩
        case measure => simp [intOf]; omega
    · go_wp2_with fail
      obtain ⟨wa, hwa⟩ : ∃ wa, wa = wr := ⟨_, rfl⟩
      subst hwa
      have HWA : Hid (Below w3.heap.size w3 wa) := hw
      have HLA : Hid (Wl wa _ l0) := HWL.out.below hw
      have HMA : Hid (Wl wa _ m) := HWM.out.below hw
      have HBA : Hid (Below w.heap.size w wa) := HB3.out.trans (hw.mono hsz3)
      have hsza := HBA.out.size
      clear hw hszr
      go_loopw [52] (fun i wr => ∃ k : Nat, k ≤ l0.length ∧ i = .int .i64 k ∧ Below wa.heap.size wa wr) (fun i _ => l0.length - (intOf i).toNat)
      case atStart => exact ⟨0, Nat.zero_le _, rfl, Below.refl _ _⟩
      case round =>
        obtain ⟨k, hk, rfl, hw⟩ := hrel
        obtain ⟨wo, hwo⟩ : ∃ wo, wo = wr := ⟨_, rfl⟩
        subst hwo
        have hszr := hw.size
        by_cases hlt : k < l0.length
        · obtain ⟨ad', cap', hv', _, _, hc'⟩ := HLA.out
          simp only [Value.slice.injEq] at hv'
          obtain ⟨rfl, _, rfl⟩ := hv'
          obtain ⟨g, off, rfl, hgs, hce⟩ := hc' (by omega)
          obtain ⟨c1, c2⟩ := hce k hlt
          obtain ⟨p, hp⟩ : ∃ p, p = (l0[k]).1 := ⟨_, rfl⟩
          obtain ⟨q, hq⟩ : ∃ q, q = (l0[k]).2 := ⟨_, rfl⟩
          have d1 := (hw.cell (p := ⟨g, off + k * 2, none⟩) hgs).trans c1
          have d2 := (hw.cell (p := ⟨g, off + k * 2 + 1, none⟩) hgs).trans c2
          rw [← hp] at d1
          rw [← hq] at d2
          have hgr : g < wo.heap.size := by omega
          have hki : (k : Int) < (l0.length : Int) := by omega
          have hk0 : (0 : Int) ≤ (k : Int) := by omega
          have HW2 : Hid (Below wa.heap.size wa ((wo.alloc (.cells #[.int .i64 p, .int .i64 q] 28)).alloc (.cells #[.int .i64 p, .int .i64 q, .int .i64 a1] 3))) := (hw.alloc hszr _).alloc (hw.alloc hszr _).size _
          clear hce c1 c2 hc' hp hq hw
          go_wp2_with fail
          go_loopw [63] (fun i W => ∃ j : Nat, j ≤ 3 ∧ i = .int .i64 j ∧ Below ((wo.alloc (.cells #[.int .i64 p, .int .i64 q] 28)).alloc (.cells #[.int .i64 p, .int .i64 q, .int .i64 a1] 3)).heap.size ((wo.alloc (.cells #[.int .i64 p, .int .i64 q] 28)).alloc (.cells #[.int .i64 p, .int .i64 q, .int .i64 a1] 3)) W) (fun i _ => 3 - (intOf i).toNat)
          case atStart => exact ⟨0, by omega, rfl, Below.refl _ _⟩
          case round =>
            obtain ⟨j, hj, rfl, hb⟩ := hrel
            have HB : Hid (Below ((wo.alloc (.cells #[.int .i64 p, .int .i64 q] 28)).alloc (.cells #[.int .i64 p, .int .i64 q, .int .i64 a1] 3)).heap.size ((wo.alloc (.cells #[.int .i64 p, .int .i64 q] 28)).alloc (.cells #[.int .i64 p, .int .i64 q, .int .i64 a1] 3)) wr) := hb
            have HBQ : Hid (Below wa.heap.size wa wr) := HW2.out.trans (hb.mono HW2.out.size)
            have hcj := fun i => (new_cell2 hb i).2
            have s0 : wr.cell? ⟨wo.heap.size + 1, 0, none⟩ = some (.int .i64 p) := hcj 0
            have s1 : wr.cell? ⟨wo.heap.size + 1, 1, none⟩ = some (.int .i64 q) := hcj 1
            have s2 : wr.cell? ⟨wo.heap.size + 1, 2, none⟩ = some (.int .i64 a1) := hcj 2
            have hszq : wo.heap.size + 1 < wr.heap.size := by have := hb.size; simp at this; omega
            clear hb hcj
            rcases (show j = 0 ∨ j = 1 ∨ j = 2 ∨ j = 3 by omega) with rfl | rfl | rfl | rfl
            case inr.inr.inr =>
              go_wp2_with fail
              go_roundw
              case rel => exact ⟨k + 1, by omega, by go_num, HBQ.out⟩
              case measure => simp [intOf]; omega
            all_goals
              go_wp2_with fail
              refine (inside_any _ l0 _ _ (HLA.out.below HBQ.out)).mono ?_
              rintro e w5 ⟨rfl, hb5⟩
              have HBQ5 : Hid (Below wa.heap.size wa w5) := HBQ.out.trans (hb5.mono HBQ.out.size)
              have HB5 := HB.out.trans (hb5.mono HB.out.size)
              clear hb5
              go_wp2_with fail
              refine (inside_any _ m _ _ (HMA.out.below HBQ5.out)).mono ?_
              rintro e w6 ⟨rfl, hb6⟩
              have HB6 := HB5.trans (hb6.mono HB5.size)
              clear hb6
              rw [HIN.out]
              go_wp2_with fail
              go_roundw
              case rel => first | exact ⟨1, by omega, by go_num, HB6⟩ | exact ⟨2, by omega, by go_num, HB6⟩ | exact ⟨3, by omega, by go_num, HB6⟩
              case measure => simp [intOf]
        · have HWO : Hid (Below wa.heap.size wa wo) := hw
          have g2 : (m.length : Int) ≤ (l0.length : Int) := by omega
          clear hw
          go_wp2_with fail
          refine (inside_any _ l0 _ _ (HLA.out.below HWO.out)).mono ?_
          rintro e w5 ⟨rfl, hb5⟩
          have HBQ5 : Hid (Below wa.heap.size wa w5) := HWO.out.trans (hb5.mono HWO.out.size)
          clear hb5
          go_wp2_with fail
          refine (inside_any _ m _ _ (HMA.out.below HBQ5.out)).mono ?_
          rintro e w6 ⟨rfl, hb6⟩
          have HB6 := HBQ5.out.trans (hb6.mono HBQ5.out.size)
          rw [HIN.out]
          go_wp2_with fail
          go_ret
          exact ⟨by first | rfl | simp, HBA.out.trans (HB6.mono hsza)⟩
end Go.Proofs.Ytkmbhgbmdeoppab
