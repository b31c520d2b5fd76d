/-
  The walk through SpanTail: it answers true and turns nothing that was there.
-/
import Derived.Test.YtkmbhgbmdeoppabWRestP
import Derived.Test.YtkmbhgbmdeoppabWSres
import Derived.Test.YtkmbhgbmdeoppabWEqC
import Derived.Deep.RegionHeld3
namespace Go.Proofs.Ytkmbhgbmdeoppab
open Go.RowKit

theorem own_lower {w : World} {B B' size n : Nat} {e : TypeId} {v : Value} {xs : List Value} (h : w.ownsRow B e size v n xs) (hb : B' ≤ B) : w.ownsRow B' e size v n xs :=
  ⟨h.1, h.2.imp id fun ⟨g, cap, cur, h1, h2, h3⟩ => ⟨g, cap, cur, h1, Nat.le_trans hb h2, h3⟩⟩
/-- What the last bytes, those from one on, and all of them are. -/
theorem tail_a (n z : Int) (h1 : 0 ≤ n) (h2 : n ≤ 99999) (h3 : 0 ≤ z) (x : Int) (hx : max 0 (z - n) = x) (h4 : z ≤ 99999) :
    rsSp [(-1, n)] z = (if 0 < z ∧ 0 < n then ([(x, z)], 0) else ([], 11)) ∧ rsSp [(x, -1)] z = (if 0 < z ∧ 0 < n then ([(x, z)], 0) else ([], 11)) ∧ rsSp [(0, -1)] z = (if 0 < z then ([(0, z)], 0) else ([], 11)) := by
  have one : ∀ (a b : Int), okW (a, b) = true → 0 ≤ z → rsSp [(a, b)] z = if rvF z (a, b) < rvT z (a, b) then ([(rvF z (a, b), rvT z (a, b))], 0) else ([], 11) := by
    intro a b ho hz
    have hc : chkW [(a, b)] = 0 := by unfold chkW; simp [ho]
    have e : rvL z [(a, b)] = rvW z (a, b) := by simp [rvL]
    by_cases h : rvF z (a, b) < rvT z (a, b)
    · have e2 : rvW z (a, b) = [(rvF z (a, b), rvT z (a, b))] := by unfold rvW; rw [if_pos h]
      rw [rsSp_ok hz hc (by rw [e, e2]; simp), e, e2, if_pos h]
    · have e2 : rvW z (a, b) = [] := by unfold rvW; rw [if_neg h]
      rw [rsSp_none hz hc (by rw [e, e2]; rfl), if_neg h]
  have o1 : okW (-1, n) = true := by unfold okW; simp; omega
  have o2 : okW (x, -1) = true := by unfold okW; rw [if_neg (by simp only; omega)]; simp; omega
  have o3 : okW (0, -1) = true := by decide
  refine ⟨?_, ?_, ?_⟩
  · rw [one _ _ o1 h3]
    have e1 : rvF z (-1, n) = x := by unfold rvF; simp only [if_pos]; omega
    have e2 : rvT z (-1, n) = z := by unfold rvT; simp
    rw [e1, e2]
    by_cases h : 0 < z ∧ 0 < n
    · rw [if_pos h, if_pos (by omega)]
    · rw [if_neg h, if_neg (by omega)]
  · rw [one _ _ o2 h3]
    have e1 : rvF z (x, -1) = x := by unfold rvF; rw [if_neg (by simp only; omega)]
    have e2 : rvT z (x, -1) = z := by unfold rvT; rw [if_neg (by simp only; omega)]; simp
    rw [e1, e2]
    by_cases h : 0 < z ∧ 0 < n
    · rw [if_pos h, if_pos (by omega)]
    · rw [if_neg h, if_neg (by omega)]
  · rw [one _ _ o3 h3]
    have e1 : rvF z (0, -1) = 0 := by unfold rvF; simp
    have e2 : rvT z (0, -1) = z := by unfold rvT; simp
    rw [e1, e2]
set_option maxHeartbeats 4000000 in
set_option maxRecDepth 100000 in
theorem walkSpanTail (a0 a1 : Int) (w : World) (z0 : (Lit.int .i64 a0).wf = true) (z1 : (Lit.int .i64 a1).wf = true) :
    Calls Try.prog 4 #[.int .i64 a0, .int .i64 a1] w fun e w' => e = .returned (.bool true) ∧ Below w.heap.size w w' := by
  have HZ0 : Hid ((Lit.int .i64 a0).wf = true) := z0
  have HZ1 : Hid ((Lit.int .i64 a1).wf = true) := z1
  clear z0 z1
  go_enter Try.func4, Try.ntmps4
  go_wp2_with fail
  refine (rest_pos a0 100000 (by decide) (by decide) HZ0.out _).mono ?_
  rintro e w1 ⟨n, hn2, rfl, hww⟩
  rw [hww]
  clear hww w1
  go_wp2_with fail
  refine (rest_pos a1 100000 (by decide) (by decide) HZ1.out _).mono ?_
  rintro e w1 ⟨z, hz2, rfl, hww⟩
  rw [hww]
  clear hww w1
  obtain ⟨x, hx⟩ : ∃ x : Nat, max (0 : Int) ((z : Int) - (n : Int)) = (x : Int) := ⟨z - n, by omega⟩
  obtain ⟨hA, hB, hC⟩ := tail_a n z (by omega) (by omega) (by omega) x hx (by omega)
  obtain ⟨dd, hdd⟩ : ∃ dd, (z : Int) - (n : Int) = dd := ⟨_, rfl⟩
  have e1 : IntKind.i64.wrap ((z : Int) - (n : Int)) = dd := by rw [IntKind.wrap_i64]; omega
  have e2 : max 0 dd = (x : Int) := by rw [← hdd]; exact hx
  have HZ : Hid (-9223372036854775808 ≤ (z : Int) ∧ (z : Int) ≤ 9223372036854775807) := by constructor <;> omega
  have HX : Hid (n ≤ 99999 ∧ z ≤ 99999 ∧ max (0 : Int) ((z : Int) - (n : Int)) = (x : Int)) := ⟨by omega, by omega, hx⟩
  have HA : Hid (rsSp [(-1, (n : Int))] z = (if 0 < (z : Int) ∧ 0 < (n : Int) then ([((x : Int), (z : Int))], 0) else ([], 11))) := hA
  have HB : Hid (rsSp [((x : Int), -1)] z = (if 0 < (z : Int) ∧ 0 < (n : Int) then ([((x : Int), (z : Int))], 0) else ([], 11))) := hB
  have HC : Hid (rsSp [(0, -1)] z = (if 0 < (z : Int) then ([(0, (z : Int))], 0) else ([], 11))) := hC
  clear hn2 hz2 hx hA hB hC hdd
  obtain ⟨la, ca, hla⟩ : ∃ la ca, rsSp [(-1, (n : Int))] z = (la, ca) := ⟨_, _, rfl⟩
  obtain ⟨lb, cb, hlb⟩ : ∃ lb cb, rsSp [((x : Int), -1)] z = (lb, cb) := ⟨_, _, rfl⟩
  obtain ⟨lc, cc, hlc⟩ : ∃ lc cc, rsSp [(0, -1)] z = (lc, cc) := ⟨_, _, rfl⟩
  have HLA : Hid (rsSp [(-1, (n : Int))] z = (la, ca)) := hla
  have HLB : Hid (rsSp [((x : Int), -1)] z = (lb, cb)) := hlb
  have HLC : Hid (rsSp [(0, -1)] z = (lc, cc)) := hlc
  clear hla hlb hlc
  go_wp2_with fail
  refine (sres_at _ [(-1, (n : Int))] z HZ.out _ (Wl.one (-1) n w 32)).mono ?_
  rintro e w1 ⟨v1, rfl, ho1, hb1⟩
  have HB1 : Hid (Below w.heap.size w w1) := below_new hb1
  rw [HLA.out] at ho1 ⊢
  have HO1 : Hid (w1.ownsRow w.heap.size 28 2 v1 la.length (wns la)) := own_lower ho1 (by simp)
  clear ho1 hb1
  go_wp2_with fail
  refine (sres_at _ [((x : Int), -1)] z HZ.out _ (Wl.one x (-1) w1 32)).mono ?_
  rintro e w2 ⟨v2, rfl, ho2, hb2⟩
  have hbb := below_new hb2
  have HB2 : Hid (Below w.heap.size w w2) := HB1.out.trans (hbb.mono HB1.out.size)
  rw [HLB.out] at ho2 ⊢
  have HO1b : Hid (w2.ownsRow w.heap.size 28 2 v1 la.length (wns la)) := own_below3 HO1.out hbb
  have HO2 : Hid (Wl w2 v2 lb) := Wl.own ho2
  clear ho2 hb2 hbb
  go_wp2_with fail
  refine (sres_at _ [(0, -1)] z HZ.out _ (Wl.one 0 (-1) w2 32)).mono ?_
  rintro e w3 ⟨v3, rfl, ho3, hb3⟩
  have hbb := below_new hb3
  have HB3 : Hid (Below w.heap.size w w3) := HB2.out.trans (hbb.mono HB2.out.size)
  rw [HLC.out] at ho3 ⊢
  have HO1c : Hid (w3.ownsRow w.heap.size 28 2 v1 la.length (wns la)) := own_below3 HO1b.out hbb
  have HO2b : Hid (Wl w3 v2 lb) := HO2.out.below hbb
  have HO3 : Hid (Wl w3 v3 lc) := Wl.own ho3
  clear ho3 hb3 hbb
  by_cases hz0 : z = 0
  · have hA := HLA.out
    have hB := HLB.out
    have hC := HLC.out
    rw [HA.out, if_neg (by omega)] at hA
    rw [HB.out, if_neg (by omega)] at hB
    rw [HC.out, if_neg (by omega)] at hC
    obtain ⟨rfl, rfl⟩ := Prod.mk.inj hA
    obtain ⟨rfl, rfl⟩ := Prod.mk.inj hB
    obtain ⟨rfl, rfl⟩ := Prod.mk.inj hC
    subst hz0
    clear hA hB hC
    go_wp2_with fail
    go_ret
    exact ⟨by first | rfl | simp, HB3.out⟩
  · have gz : ((z : Int) == 0) = false := beq_eq_false_iff_ne.2 (by omega)
    have hC := HLC.out
    rw [HC.out, if_pos (by omega)] at hC
    obtain ⟨rfl, rfl⟩ := Prod.mk.inj hC
    have HOC : Hid (Wl (w3.alloc (.cells #[.int .i64 0, .int .i64 z] 28)) (.slice (some ⟨w3.heap.size, 0, none⟩) 1 1) [(0, (z : Int))]) := Wl.one 0 z w3 28
    have HO3b : Hid (Wl (w3.alloc (.cells #[.int .i64 0, .int .i64 z] 28)) v3 [(0, (z : Int))]) := HO3.out.below (below_alloc _ _)
    clear hC
    by_cases hn0 : n = 0
    · have hA := HLA.out
      have hB := HLB.out
      rw [HA.out, if_neg (by omega)] at hA
      rw [HB.out, if_neg (by omega)] at hB
      obtain ⟨rfl, rfl⟩ := Prod.mk.inj hA
      obtain ⟨rfl, rfl⟩ := Prod.mk.inj hB
      subst hn0
      clear hA hB hz0
      go_wp2_with fail
      refine (eqC_same _ _ _ _ HO3b.out HOC.out).mono ?_
      rintro e w4 ⟨rfl, hb4⟩
      have HB4 : Hid (Below w.heap.size w w4) := HB3.out.trans ((below_new hb4).mono HB3.out.size)
      clear hb4
      go_wp2_with fail
      go_ret
      exact ⟨by first | rfl | simp, HB4.out⟩
    · have gn : ((n : Int) == 0) = false := beq_eq_false_iff_ne.2 (by omega)
      have hA := HLA.out
      have hB := HLB.out
      rw [HA.out, if_pos (by omega)] at hA
      rw [HB.out, if_pos (by omega)] at hB
      obtain ⟨rfl, rfl⟩ := Prod.mk.inj hA
      obtain ⟨rfl, rfl⟩ := Prod.mk.inj hB
      obtain ⟨ad, cp, hv, hm, hnc, hcell⟩ := own_form2 HO1c.out
      obtain ⟨g, rfl, hgw, hgs, hcs⟩ := hcell (by simp)
      have q0 := hcs 0 (by simp)
      have q1 := hcs 1 (by simp)
      subst hv
      clear hA hB hz0 hn0 hcell hcs
      go_wp2_with fail
      refine (eqC_same _ _ _ _ HO3b.out HOC.out).mono ?_
      rintro e w4 ⟨rfl, hb4⟩
      have hb34 := below_new hb4
      have HB4 : Hid (Below w.heap.size w w4) := HB3.out.trans (hb34.mono HB3.out.size)
      have p0 : w4.cell? ⟨g, 0, none⟩ = some (.int .i64 (x : Int)) := (hb34.cell (p := ⟨g, 0, none⟩) hgs).trans (q0.trans (by simp [wns]))
      have p1 : w4.cell? ⟨g, 1, none⟩ = some (.int .i64 (z : Int)) := (hb34.cell (p := ⟨g, 1, none⟩) hgs).trans (q1.trans (by simp [wns]))
      have hg4 : g < w4.heap.size := by have := hb34.size; omega
      have HALL : Hid (∀ W, Below w4.heap.size w4 W → Wl W (.slice (some ⟨g, 0, none⟩) 1 cp) [((x : Int), (z : Int))] ∧ Wl W v2 [((x : Int), (z : Int))]) :=
        fun W h => ⟨((Wl.own HO1c.out).below hb34).below h, (HO2b.out.below hb34).below h⟩
      have HKEEP : Hid (∀ W, Below w4.heap.size w4 W → W.cell? ⟨g, 0, none⟩ = some (.int .i64 (x : Int)) ∧ W.cell? ⟨g, 1, none⟩ = some (.int .i64 (z : Int))) :=
        fun W h => ⟨(h.cell (p := ⟨g, 0, none⟩) hg4).trans p0, (h.cell (p := ⟨g, 1, none⟩) hg4).trans p1⟩
      obtain ⟨y, hy⟩ : ∃ y : Nat, min n z = y := ⟨_, rfl⟩
      have e3 : IntKind.i64.wrap ((z : Int) - (x : Int)) = (y : Int) := by have := HX.out; rw [IntKind.wrap_i64]; omega
      have e4 : min (n : Int) (z : Int) = (y : Int) := by omega
      clear hb4 hb34 q0 q1 e1 e2
      go_wp2_with fail
      go_region_held3 (fun W => W.cell? ⟨g, 0, none⟩ = some (.int .i64 (x : Int)) ∧ W.cell? ⟨g, 1, none⟩ = some (.int .i64 (z : Int))) (go_keep) (first | (go_at_call 9; refine (eqC_same _ _ _ _ (HALL.out _ (Below.refl _ _).drew).1 (HALL.out _ (Below.refl _ _).drew).2).mono ?_; rintro e w5 ⟨rfl, hb5⟩; have hk5 : Below w4.heap.size w4 w5 := (Below.refl _ _).drew.trans hb5; obtain ⟨t0, t1⟩ := HKEEP.out _ hk5; have HB5 : Hid (Below w.heap.size w w5) := HB4.out.trans (hk5.mono HB4.out.size); clear hb5 hk5))
      go_wp2_with fail
      go_ret
      exact ⟨by first | rfl | simp, HB5.out⟩
end Go.Proofs.Ytkmbhgbmdeoppab
