/-
  The walk through TagListBack: it answers true and turns nothing that was there.
-/
import Derived.Test.YtfeikdplfjikeaaDoorWEgL
import Derived.Test.YtfeikdplfjikeaaDoorWEgP
import Derived.Test.YtfeikdplfjikeaaDoorWEqT
import Derived.Test.YtfeikdplfjikeaaDoorWJoin
import Derived.Test.YtfeikdplfjikeaaDoorWRestP
import Derived.Test.YtfeikdplfjikeaaDoorSpecRw
import Derived.Test.YtfeikdplfjikeaaDoorSpecEg
import Derived.Test.YtfeikdplfjikeaaDoorOpenT
import Derived.Deep.RegionHeld3
import Derived.Deep.AppendLies
namespace Go.Proofs.YtfeikdplfjikeaaDoor
open Go.RowKit

theorem three_below (w : World) (t : TypeId) (a b : Value) (W : World) (h : Below (w.heap.size + 1) (w.alloc (.cells #[a, b] t)) W) :
    W.cell? ⟨w.heap.size, 0, none⟩ = some a ∧ W.cell? ⟨w.heap.size, 1, none⟩ = some b ∧ Below w.heap.size w W ∧ w.heap.size + 1 ≤ W.heap.size := by
  refine ⟨(h.cell (p := ⟨w.heap.size, 0, none⟩) (show w.heap.size < w.heap.size + 1 by omega)).trans (by simp), (h.cell (p := ⟨w.heap.size, 1, none⟩) (show w.heap.size < w.heap.size + 1 by omega)).trans (by simp),
    ((Below.refl _ w).alloc (Nat.le_refl _) _).trans (h.mono (by omega)), ?_⟩
  have := h.size; simpa using this
theorem gap_at (k : Nat) (hk : k < 5) : ∃ g : ByteArray, g.data.toList ∈ gaps ∧ g.size ≤ 5 ∧ (#[Value.string ⟨#[44]⟩, Value.string ⟨#[44, 32]⟩, Value.string ⟨#[32, 44, 9]⟩, Value.string ⟨#[44, 44]⟩, Value.string ⟨#[32, 44, 32, 44, 32]⟩] : Array Value)[k]? = some (.string g) := by
  rcases (show k = 0 ∨ k = 1 ∨ k = 2 ∨ k = 3 ∨ k = 4 from by omega) with rfl | rfl | rfl | rfl | rfl
  · exact ⟨⟨#[44]⟩, by simp [gaps], by decide, rfl⟩
  · exact ⟨⟨#[44, 32]⟩, by simp [gaps], by decide, rfl⟩
  · exact ⟨⟨#[32, 44, 9]⟩, by simp [gaps], by decide, rfl⟩
  · exact ⟨⟨#[44, 44]⟩, by simp [gaps], by decide, rfl⟩
  · exact ⟨⟨#[32, 44, 32, 44, 32]⟩, by simp [gaps], by decide, rfl⟩
set_option maxHeartbeats 4000000 in
set_option maxRecDepth 100000 in
theorem walkTagListBack (a0 : Value) (l0 : List Tg) (a1 : Int) (w : World) (z0 : Tl w a0 l0) (_m0 : MostT maxLen l0) (z1 : (Lit.int .i64 a1).wf = true) :
    Calls Tryd.prog 4 #[a0, .int .i64 a1] w fun e w' => e = .returned (.bool true) ∧ Below w.heap.size w w' := by
  clear _m0
  obtain ⟨i0, hi, hz0, hz1, hz2⟩ := info_parts info9
  obtain ⟨i1, hi1, hy0, hy1, hy2⟩ := info_parts infoTg
  obtain ⟨ad, cap, hv, hnc, hcm, hc⟩ := z0
  subst hv
  unfold maxLen at hcm
  have HC : Hid (0 < l0.length → ∃ g off, ad = some ⟨g, off, none⟩ ∧ g < w.heap.size ∧
    ∀ (k : Nat) (h : k < l0.length), w.cell? ⟨g, off + k * 2, none⟩ = some (.bool (l0[k]).1) ∧ w.cell? ⟨g, off + k * 2 + 1, none⟩ = some (.string ⟨(l0[k]).2.toArray⟩)) := hc
  have HW : Hid ((Lit.int .i64 a1).wf = true) := z1
  clear hc z1
  go_enter Tryd.func4, Tryd.ntmps4
  go_wp2_with fail
  refine (rest_pos _ 5 (by omega) (by omega) HW.out _).mono ?_
  rintro e w1 ⟨kg, hkg, rfl, hw1⟩
  obtain ⟨g5, hg5, hgs, hgk⟩ := gap_at kg hkg
  have hw0 : Below w.heap.size w w1 := by rw [hw1]; exact (Below.refl _ w).alloc (Nat.le_refl _) _
  have HG5 : Hid (g5.data.toList ∈ gaps) := hg5
  have hsz1 := hw0.size
  have hcg : w1.cell? ⟨w.heap.size, kg, none⟩ = some (.string g5) := by rw [hw1, World.cell?_alloc_new]; exact hgk
  have hsz2 : w.heap.size < w1.heap.size := by rw [hw1]; simp
  have hkg5 : (kg : Int) < 5 := by omega
  have hkg0 : (0 : Int) ≤ (kg : Int) := by omega
  clear hg5 hw1 hgk
  go_wp2_with fail
  go_loopw [6, 7, 8, 26] (fun tv wv al i wr => ∃ (k : Nat) (ts : List Tg), k ≤ l0.length ∧ i = .int .i64 k ∧ al = .int .i64 (sumG ts : Nat) ∧ Hid (∀ t ∈ ts, (prE t).2 = 0) ∧ ts.length ≤ 20 ∧ sumG ts < 800 ∧
      wr.ownsRow w1.heap.size 9 1 tv ts.length (strs (ts.map prG)) ∧ wr.ownsRow w1.heap.size 28 2 wv ts.length (tgs ts) ∧ Sep tv wv ∧ Below w1.heap.size w1 wr) (fun _ _ _ i _ => l0.length - (intOf i).toNat)
  case atStart => exact ⟨0, [], Nat.zero_le _, rfl, rfl, (fun t h => by cases h), by simp, by simp [sumG], World.ownsRow_nil _ _ _ _, World.ownsRow_nil _ _ _ _, Sep.nil _, Below.refl _ _⟩
  case round =>
    obtain ⟨k, ts, hk, rfl, rfl, hok, htl, hsum, hownA, hownB, hsep, hw⟩ := hrel
    have hszr := hw.size
    by_cases hlt : k < l0.length
    · obtain ⟨g, off, rfl, hgs, hce⟩ := HC.out (by omega)
      obtain ⟨hc0, hc1⟩ := hce k hlt
      have hgs1 : g < w1.heap.size := by omega
      have e0 := (hw.cell (p := ⟨g, off + k * 2, none⟩) hgs1).trans ((hw0.cell (p := ⟨g, off + k * 2, none⟩) hgs).trans hc0)
      have e1 := (hw.cell (p := ⟨g, off + k * 2 + 1, none⟩) hgs1).trans ((hw0.cell (p := ⟨g, off + k * 2 + 1, none⟩) hgs).trans hc1)
      obtain ⟨kk, x, hx⟩ : ∃ (kk : Bool) (x : ByteArray), l0[k] = (kk, x.data.toList) := ⟨(l0[k]).1, ⟨(l0[k]).2.toArray⟩, rfl⟩
      rw [hx] at e0 e1
      replace e0 : wr.cell? ⟨g, off + k * 2, none⟩ = some (.bool kk) := e0
      replace e1 : wr.cell? ⟨g, off + k * 2 + 1, none⟩ = some (.string x) := e1
      have hgr : g < wr.heap.size := by omega
      have hki : (k : Int) < (l0.length : Int) := by omega
      have hk0 : (0 : Int) ≤ (k : Int) := by omega
      obtain ⟨s, c, hp⟩ := pair_bi (prE (kk, x.data.toList))
      have HP : Hid (prE (kk, x.data.toList) = (s.data.toList, c)) := hp
      have hss : s.size ≤ 104 := by
        by_cases h0 : c = 0
        · obtain ⟨h2, h3, _⟩ := prE_ok (kk, x.data.toList) (by rw [hp]; exact h0)
          rw [hp] at h2
          have h4 := prG_len (kk, x.data.toList)
          rw [← (Prod.mk.inj h2).1, size_list] at h4
          have h3 : x.data.toList.length ≤ 100 := h3
          have h4 : s.size = x.data.toList.length + 2 + if kk = true then 2 else 0 := h4
          split at h4 <;> omega
        · have := prE_bad (kk, x.data.toList) (by rw [hp]; exact h0)
          rw [hp] at this
          have := congrArg List.length this
          rw [size_list] at this
          have this : s.size = 0 := this
          omega
      have HOKT : Hid (c = 0 → (prE (kk, x.data.toList)).2 = 0 ∧ s.data.toList = prG (kk, x.data.toList)) := by
        intro h0
        obtain ⟨h2, _, _⟩ := prE_ok (kk, x.data.toList) (by rw [hp]; exact h0)
        refine ⟨by rw [hp]; exact h0, ?_⟩
        rw [hp] at h2
        exact (Prod.mk.inj h2).1
      obtain ⟨ta, tc, htv, htm, htnc, _⟩ := own_form2 hownA
      obtain ⟨wa, wc, hwv, hwm, hwnc, _⟩ := own_form2 hownB
      subst htv hwv
      unfold maxLen at htm hwm
      clear hce hc0 hc1 hx hp
      go_wp2_with fail
      refine (eprint_at kk x s c HP.out _).mono ?_
      rintro e w3 ⟨rfl, hb3⟩
      have hc3 : Below (wr.heap.size + 1) (wr.alloc (.cells #[.bool kk, .string x] 28)) w3 := hb3.mono (by simp)
      obtain ⟨t0, t1, hbr3, hs3⟩ := three_below _ _ _ _ _ hc3
      have hw3 := hw.trans (hbr3.mono hszr)
      have hownA3 := own_below3 hownA hbr3
      have hownB3 := own_below3 hownB hbr3
      have hAlt : ∀ q, (Value.slice ta ts.length tc).ownBlock = some q → q < wr.heap.size := fun q hq => (hownA.lt q hq).2
      have hBlt : ∀ q, (Value.slice wa ts.length wc).ownBlock = some q → q < wr.heap.size := fun q hq => (hownB.lt q hq).2
      clear hb3 hc3 hbr3 hownA hownB e0 e1
      by_cases hcc : c = 0
      · subst hcc
        obtain ⟨hok1, hsg⟩ := HOKT.out rfl
        have HOK1 : Hid ((prE (kk, x.data.toList)).2 = 0) := hok1
        have HSG : Hid (s.data.toList = prG (kk, x.data.toList)) := hsg
        clear HOKT hok1 hsg
        by_cases h20 : ts.length < 20
        · have hd20 : decide ((ts.length : Int) < 20) = true := decide_eq_true (by omega)
          have hwr1 : IntKind.i64.wrap (((sumG ts : Nat) : Int) + (s.size : Int)) = ((sumG ts + s.size : Nat) : Int) := by rw [IntKind.wrap_i64]; omega
          by_cases h800 : sumG ts + s.size < 800
          · have hd8 : decide (((sumG ts + s.size : Nat) : Int) < 800) = true := decide_eq_true (by omega)
            have HALL : Hid (∀ W, Below w3.heap.size w3 W → W.ownsRow w1.heap.size 9 1 (.slice ta ts.length tc) ts.length (strs (ts.map prG)) ∧ W.ownsRow w1.heap.size 28 2 (.slice wa ts.length wc) ts.length (tgs ts) ∧
                W.cell? ⟨wr.heap.size, 0, none⟩ = some (.bool kk) ∧ W.cell? ⟨wr.heap.size, 1, none⟩ = some (.string x) ∧ Below w1.heap.size w1 W ∧ w3.heap.size ≤ W.heap.size) :=
              fun W h => ⟨own_below3 hownA3 h, own_below3 hownB3 h, (h.cell (p := ⟨wr.heap.size, 0, none⟩) (show wr.heap.size < w3.heap.size by omega)).trans t0, (h.cell (p := ⟨wr.heap.size, 1, none⟩) (show wr.heap.size < w3.heap.size by omega)).trans t1, hw3.trans (h.mono (by omega)), h.size⟩
            have hne3 : wr.heap.size < w3.heap.size := by omega
            go_wp2_with fail
            go_region_held3 (fun W => W.cell? ⟨wr.heap.size, 0, none⟩ = some (.bool kk) ∧ W.cell? ⟨wr.heap.size, 1, none⟩ = some (.string x)) (go_keep) (first
              | (
              obtain ⟨ra, rb, q0', q1', hbW, hsW⟩ := HALL.out _ ((Below.refl _ w3).alloc (Nat.le_refl _) (.cells #[.string s] 9)).drew
              refine step_append_lies _ (by rfl) _ _ _ (by rfl) w1.heap.size 9 i0 (.string ⟨#[]⟩) 1 16 Tryd.underlying30 hi hz0 hz1 hz2 rfl (by decide) (.slice ta ts.length tc) ts.length (strs (ts.map prG)) (by rfl) ra ⟨w3.heap.size, 0, none⟩ 1 1 [.string s] (by rfl) (by rfl) (one_news (by simp)) (by simp [Value.oneCell']) (by omega) (by unfold maxLen; omega) (by omega) (by simp; omega) (w3.heap.size + 1) (by simp) ?_
              intro ga ca w5 hownA5 hgr5 hat5 hlt5
              have hownB5 := own_kept rb hgr5 hsep
              have hsep5 := hsep.new (n := ts.length + 1) (c := ca) hat5 (fun q hq => by have := hBlt q hq; omega)
              have q0 := cell_kept_by hgr5 q0' hAlt
              have q1 := cell_kept_by hgr5 q1' hAlt
              have hw5 := hbW.grown hgr5 (by omega) (fun q hq => (ra.lt q hq).1)
              have hs5 : w3.heap.size + 1 ≤ w5.heap.size := by have := hgr5.size; simp at this; omega
              skip
              clear ra rb q0' q1' hbW hsW hgr5 hat5)
              | (
              obtain ⟨ra, rb, q0', q1', hbW, hsW⟩ := HALL.out _ (((Below.refl _ w3).alloc (Nat.le_refl _) (.cells #[.string s] 9)).alloc (by simp) (.cells #[.bool kk, .string x] 28)).drew
              refine step_append_lies _ (by rfl) _ _ _ (by rfl) w1.heap.size 9 i0 (.string ⟨#[]⟩) 1 16 Tryd.underlying30 hi hz0 hz1 hz2 rfl (by decide) (.slice ta ts.length tc) ts.length (strs (ts.map prG)) (by rfl) ra ⟨w3.heap.size, 0, none⟩ 1 1 [.string s] (by rfl) (by rfl) (one_news (by simp)) (by simp [Value.oneCell']) (by omega) (by unfold maxLen; omega) (by omega) (by simp; omega) (w3.heap.size + 2) (by simp) ?_
              intro ga ca w5 hownA5 hgr5 hat5 hlt5
              have hownB5 := own_kept rb hgr5 hsep
              have hsep5 := hsep.new (n := ts.length + 1) (c := ca) hat5 (fun q hq => by have := hBlt q hq; omega)
              have q0 := cell_kept_by hgr5 q0' hAlt
              have q1 := cell_kept_by hgr5 q1' hAlt
              have hw5 := hbW.grown hgr5 (by omega) (fun q hq => (ra.lt q hq).1)
              have hs5 : w3.heap.size + 1 ≤ w5.heap.size := by have := hgr5.size; simp at this; omega
              have y0 : w5.cell? ⟨w3.heap.size + 1, 0, none⟩ = some (.bool kk) := cell_kept_by hgr5 (by simp) (fun q hq => by have := hAlt q hq; omega)
              have y1 : w5.cell? ⟨w3.heap.size + 1, 1, none⟩ = some (.string x) := cell_kept_by hgr5 (by simp) (fun q hq => by have := hAlt q hq; omega)
              clear ra rb q0' q1' hbW hsW hgr5 hat5)
              | (
              obtain ⟨ra, rb, q0', q1', hbW, hsW⟩ := HALL.out _ (((Below.refl _ w3).alloc (Nat.le_refl _) (.cells #[.bool kk, .string x] 28)).alloc (by simp) (.cells #[.string s] 9)).drew
              refine step_append_lies _ (by rfl) _ _ _ (by rfl) w1.heap.size 9 i0 (.string ⟨#[]⟩) 1 16 Tryd.underlying30 hi hz0 hz1 hz2 rfl (by decide) (.slice ta ts.length tc) ts.length (strs (ts.map prG)) (by rfl) ra ⟨w3.heap.size + 1, 0, none⟩ 1 1 [.string s] (by rfl) (by rfl) (one_news (by simp)) (by simp [Value.oneCell']) (by omega) (by unfold maxLen; omega) (by omega) (by simp; omega) (w3.heap.size + 2) (by simp) ?_
              intro ga ca w5 hownA5 hgr5 hat5 hlt5
              have hownB5 := own_kept rb hgr5 hsep
              have hsep5 := hsep.new (n := ts.length + 1) (c := ca) hat5 (fun q hq => by have := hBlt q hq; omega)
              have q0 := cell_kept_by hgr5 q0' hAlt
              have q1 := cell_kept_by hgr5 q1' hAlt
              have hw5 := hbW.grown hgr5 (by omega) (fun q hq => (ra.lt q hq).1)
              have hs5 : w3.heap.size + 1 ≤ w5.heap.size := by have := hgr5.size; simp at this; omega
              have y0 : w5.cell? ⟨w3.heap.size, 0, none⟩ = some (.bool kk) := cell_kept_by hgr5 (by simp) (fun q hq => by have := hAlt q hq; omega)
              have y1 : w5.cell? ⟨w3.heap.size, 1, none⟩ = some (.string x) := cell_kept_by hgr5 (by simp) (fun q hq => by have := hAlt q hq; omega)
              clear ra rb q0' q1' hbW hsW hgr5 hat5)
              | (
              refine step_append_lies _ (by rfl) _ _ _ (by rfl) w1.heap.size 28 i1 (.agg #[.bool false, .string ⟨#[]⟩]) 2 24 Tryd.underlying22 hi1 hy0 hy1 hy2 rfl (by decide) (.slice wa ts.length wc) ts.length (tgs ts) (by rfl) (hownB5.alloc _) ⟨w5.heap.size, 0, none⟩ 1 1 [.bool kk, .string x] (by rfl) (by rfl) (two_news (by simp) (by simp)) (by simp [Value.oneCell']) (by omega) (by unfold maxLen; omega) (by omega) (by simp; omega) (w5.heap.size + 1) (by simp) ?_
              intro gb cb w6 hownB6 hgr6 hat6 hlt6
              have hownA6 := own_kept (hownA5.alloc _) hgr6 hsep5.turn
              have hsep6 := (hsep5.turn.new (n := ts.length + 1) (c := cb) hat6 (fun q hq => by have hqq : ga = q := Option.some.inj hq; omega)).turn
              have p0 := cell_kept_by hgr6 ((World.cell?_alloc_lt _ _ ⟨wr.heap.size, 0, none⟩ (show wr.heap.size < w5.heap.size by omega)).trans q0) hBlt
              have p1 := cell_kept_by hgr6 ((World.cell?_alloc_lt _ _ ⟨wr.heap.size, 1, none⟩ (show wr.heap.size < w5.heap.size by omega)).trans q1) hBlt
              have hw6 := (hw5.alloc (by omega) _).grown hgr6 (by simp; omega) (fun q hq => (hownB5.lt q hq).1)
              clear hgr6 hat6)
              | (
              refine step_append_lies _ (by rfl) _ _ _ (by rfl) w1.heap.size 28 i1 (.agg #[.bool false, .string ⟨#[]⟩]) 2 24 Tryd.underlying22 hi1 hy0 hy1 hy2 rfl (by decide) (.slice wa ts.length wc) ts.length (tgs ts) (by rfl) hownB5 ⟨w3.heap.size + 1, 0, none⟩ 1 1 [.bool kk, .string x] (by rfl) (by rfl) (two_news y0 y1) (by simp [Value.oneCell']) (by omega) (by unfold maxLen; omega) (by omega) (by omega) (w5.heap.size) (by rfl) ?_
              intro gb cb w6 hownB6 hgr6 hat6 hlt6
              have hownA6 := own_kept hownA5 hgr6 hsep5.turn
              have hsep6 := (hsep5.turn.new (n := ts.length + 1) (c := cb) hat6 (fun q hq => by have hqq : ga = q := Option.some.inj hq; omega)).turn
              have p0 := cell_kept_by hgr6 q0 hBlt
              have p1 := cell_kept_by hgr6 q1 hBlt
              have hw6 := (hw5).grown hgr6 (by omega) (fun q hq => (hownB5.lt q hq).1)
              clear hgr6 hat6)
              | (
              refine step_append_lies _ (by rfl) _ _ _ (by rfl) w1.heap.size 28 i1 (.agg #[.bool false, .string ⟨#[]⟩]) 2 24 Tryd.underlying22 hi1 hy0 hy1 hy2 rfl (by decide) (.slice wa ts.length wc) ts.length (tgs ts) (by rfl) hownB5 ⟨w3.heap.size, 0, none⟩ 1 1 [.bool kk, .string x] (by rfl) (by rfl) (two_news y0 y1) (by simp [Value.oneCell']) (by omega) (by unfold maxLen; omega) (by omega) (by omega) (w5.heap.size) (by rfl) ?_
              intro gb cb w6 hownB6 hgr6 hat6 hlt6
              have hownA6 := own_kept hownA5 hgr6 hsep5.turn
              have hsep6 := (hsep5.turn.new (n := ts.length + 1) (c := cb) hat6 (fun q hq => by have hqq : ga = q := Option.some.inj hq; omega)).turn
              have p0 := cell_kept_by hgr6 q0 hBlt
              have p1 := cell_kept_by hgr6 q1 hBlt
              have hw6 := (hw5).grown hgr6 (by omega) (fun q hq => (hownB5.lt q hq).1)
              clear hgr6 hat6))
            all_goals
              have hA6 : w6.ownsRow w1.heap.size 9 1 (.slice (some ⟨ga, 0, none⟩) (ts.length + 1) ca) (ts ++ [(kk, x.data.toList)]).length (strs ((ts ++ [(kk, x.data.toList)]).map prG)) := by
                rw [List.map_append, List.map_singleton, ← strs_snoc, List.length_append, ← HSG.out]; exact hownA6
              have hB6 : w6.ownsRow w1.heap.size 28 2 (.slice (some ⟨gb, 0, none⟩) (ts.length + 1) cb) (ts ++ [(kk, x.data.toList)]).length (tgs (ts ++ [(kk, x.data.toList)])) := by
                rw [← tgs_snoc, List.length_append]; exact hownB6
              have hsm : sumG (ts ++ [(kk, x.data.toList)]) = sumG ts + s.size := by rw [sumG_snoc, ← HSG.out, size_list]
              have HSM : Hid (sumG (ts ++ [(kk, x.data.toList)]) = sumG ts + s.size) := hsm
              clear hownA6 hownB6 hownA5 hownB5 hsm HALL hownA3 hownB3
              go_wp2_with fail
              go_roundw
              case rel => exact ⟨k + 1, ts ++ [(kk, x.data.toList)], by omega, by go_num, by rw [HSM.out]; simp, (fun t ht => by
                rcases List.mem_append.1 ht with h | h
                · exact hok.out t h
                · rw [List.mem_singleton.1 h]; exact HOK1.out), by simp; omega, by rw [HSM.out]; exact h800, hA6, hB6, hsep6, hw6⟩
              case measure => simp [intOf]; omega
          · have hd8 : decide (((sumG ts + s.size : Nat) : Int) < 800) = false := decide_eq_false (by omega)
            go_wp2_with fail
            go_roundw
            case rel => exact ⟨k + 1, ts, by omega, by go_num, rfl, hok, htl, hsum, hownA3, hownB3, hsep, hw3⟩
            case measure => simp [intOf]; omega
        · have hd20 : decide ((ts.length : Int) < 20) = false := decide_eq_false (by omega)
          go_wp2_with fail
          go_roundw
          case rel => exact ⟨k + 1, ts, by omega, by go_num, rfl, hok, htl, hsum, hownA3, hownB3, hsep, hw3⟩
          case measure => simp [intOf]; omega
      · have hcb : (c == 0) = false := by simp [hcc]
        go_wp2_with fail
        go_roundw
        case rel => exact ⟨k + 1, ts, by omega, by go_num, rfl, hok, htl, hsum, hownA3, hownB3, hsep, hw3⟩
        case measure => simp [intOf]; omega
    · have HB1 : Hid (Below w.heap.size w wr) := hw0.trans (hw.mono hsz1)
      obtain ⟨ta, tc, htv, htm, htnc, _⟩ := own_form2 hownA
      obtain ⟨wa, wc, hwv, hwm, hwnc, _⟩ := own_form2 hownB
      subst htv hwv
      unfold maxLen at htm hwm
      by_cases h0 : ts.length = 0
      · have hd0 : ((ts.length : Int) == 0) = true := by simp [h0]
        have HST : Hid (liE (⟨#[42]⟩ : ByteArray).data.toList = (([], true), 0)) := rfl
        clear hownA hownB
        go_wp2_with fail
        refine (elist_any ⟨#[42]⟩ _).mono ?_
        rintro e w4 ⟨v4, rfl, hown4, hb4⟩
        rw [HST.out]
        have HB4 : Hid (Below w.heap.size w w4) := HB1.out.trans (hb4.mono HB1.out.size)
        clear hown4 hb4
        go_wp2_with fail
        go_ret
        exact ⟨by simp, HB4.out⟩
      · have hd0 : ((ts.length : Int) == 0) = false := beq_eq_false_iff_ne.2 (by omega)
        obtain ⟨J, hJ⟩ : ∃ J : ByteArray, J.data.toList = Lib.join (ts.map prG) g5.data.toList := ⟨⟨(Lib.join (ts.map prG) g5.data.toList).toArray⟩, rfl⟩
        have HJ : Hid (J.data.toList = Lib.join (ts.map prG) g5.data.toList) := hJ
        have hjg := join_gap g5.data.toList ts (fun e => h0 (by rw [e]; rfl))
        have hjl := flat_gap_len g5.data.toList ts
        have hmul : ts.length * g5.data.toList.length ≤ 20 * 5 := Nat.mul_le_mul htl (by rw [size_list]; exact hgs)
        have HJS : J.size + g5.size ≤ 900 := by
          have h := congrArg List.length hjg
          rw [List.length_append, ← hJ, size_list, size_list, hjl] at h
          omega
        have HLI : Hid (liE (J ++ g5).data.toList = ((ts, false), 0)) := by
          show _ = _
          rw [ByteArray.data_append, Array.toList_append, hJ, hjg]
          exact list_back _ HG5.out ts hok.out (fun e => h0 (by rw [e]; rfl)) htl (by omega)
        have hzc : ¬ 9223372036854775807 < J.size + g5.size := by omega
        have HOA : Hid (wr.ownsRow w1.heap.size 9 1 (.slice ta ts.length tc) (ts.map prG).length (strs (ts.map prG))) := by
          show wr.ownsRow _ _ _ _ _ _
          rw [List.length_map]; exact hownA
        have HOB : Hid (wr.ownsRow w1.heap.size 28 2 (.slice wa ts.length wc) ts.length (tgs ts)) := hownB
        have htl2 : (ts.map prG).length ≤ 20 := by rw [List.length_map]; exact htl
        clear hJ hjg hjl hmul hownA hownB
        go_wp2_with fail
        refine (join_at _ (ts.map prG) _ g5 J HJ.out _ HOA.out (by omega) (by omega)).mono ?_
        rintro e w4 ⟨rfl, hb4⟩
        have HB4 : Hid (Below w.heap.size w w4) := HB1.out.trans (hb4.mono HB1.out.size)
        have HO4 := own_below3 HOB.out hb4
        have HOB4 : Hid (w4.ownsRow w1.heap.size 28 2 (.slice wa ts.length wc) ts.length (tgs ts)) := HO4
        clear hb4 HO4
        go_wp2_with fail
        refine (elist_any (J ++ g5) _).mono ?_
        rintro e w5 ⟨v5, rfl, hown5, hb5⟩
        rw [HLI.out] at hown5 ⊢
        have T1 : Hid (Tl w5 v5 ts) := Tl.own hown5
        have T2 : Hid (Tl w5 (.slice wa ts.length wc) ts) := Tl.own (own_below3 HOB4.out hb5)
        have HB5 : Hid (Below w.heap.size w w5) := HB4.out.trans (hb5.mono HB4.out.size)
        clear hown5 hb5
        go_wp2_with fail
        refine (eqT_same _ _ ts _ T1.out T2.out).mono ?_
        rintro e w6 ⟨rfl, hb6⟩
        have HB6 : Hid (Below w.heap.size w w6) := HB5.out.trans (hb6.mono HB5.out.size)
        clear hb6
        go_wp2_with fail
        go_ret
        exact ⟨by simp, HB6.out⟩
end Go.Proofs.YtfeikdplfjikeaaDoor
