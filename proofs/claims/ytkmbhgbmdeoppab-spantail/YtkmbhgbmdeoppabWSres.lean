/-
  What Resolve of package span answers; all numbers fit.
-/
import Derived.Test.YtkmbhgbmdeoppabWSw
import Derived.Test.YtkmbhgbmdeoppabWHas
import Derived.Test.YtkmbhgbmdeoppabWRone
import Derived.Test.YtkmbhgbmdeoppabSpecRv
import Derived.Test.YtkmbhgbmdeoppabWInfoSc
import Derived.Test.YtkmbhgbmdeoppabSpecAl
import Derived.Test.YtkmbhgbmdeoppabSpecSe
namespace Go.Proofs.Ytkmbhgbmdeoppab
open Go.RowKit

set_option maxHeartbeats 4000000 in
set_option maxRecDepth 100000 in
theorem sres_at (v : Value) (ls : List Wn) (size : Int) (hz : -9223372036854775808 ≤ size ∧ size ≤ 9223372036854775807) (w : World) (hf : Wl w v ls) :
    Calls Try.prog 7 #[v, .int .i64 size] w fun e w' => ∃ v', e = .returned (.tuple #[v', .int .i64 (rsSp ls size).2]) ∧
      w'.ownsRow w.heap.size 28 2 v' (rsSp ls size).1.length (wns (rsSp ls size).1) ∧ Below w.heap.size w w' := by
  obtain ⟨i1, hi1, hy0, hy1, hy2⟩ := info_parts infoSc
  have HF : Hid (Wl w v ls) := hf
  obtain ⟨c, hc⟩ : ∃ c, chkW ls = c := ⟨_, rfl⟩
  have HC : Hid (chkW ls = c) := hc
  clear hf hc
  by_cases hs : size < 0
  · have HR : Hid (rsSp ls size = ([], 1)) := rsSp_arg (.inr hs)
    go_enter Try.func7, Try.ntmps7
    go_wp2_with fail
    go_ret2
    exact ⟨_, by rw [HR.out]; rfl, by rw [HR.out]; exact World.ownsRow_nil _ _ _ _, Below.refl _ _⟩
  · by_cases hc0 : c = 0
    · subst hc0
      have HZ : Hid (chkW ls = 0) := HC.out
      obtain ⟨hall, hl1, hl20⟩ := chkW_zero HZ.out
      have HAL : Hid (ls.all okW = true) := hall
      obtain ⟨ad, cap, hv, hcap, hcm, _⟩ := HF.out
      subst hv
      unfold maxLen at hcm
      have hsz2 : 0 ≤ size ∧ size ≤ 9223372036854775807 := by omega
      clear hall
      go_enter Try.func7, Try.ntmps7
      go_wp2_with fail
      refine (scheck_any _ ls _ HF.out).mono ?_
      rintro e w1 ⟨rfl, hb1⟩
      have HF1 : Hid (Wl w1 (.slice ad ls.length cap) ls) := HF.out.below hb1
      have HB1 : Hid (Below w.heap.size w w1) := hb1
      have hsz1 := hb1.size
      rw [HC.out]
      clear hb1
      go_wp2_with fail
      go_loopw [7, 20] (fun o i wr => ∃ k : Nat, k ≤ ls.length ∧ i = .int .i64 k ∧ wr.ownsRow w1.heap.size 28 2 o (rvL size (ls.take k)).length (wns (rvL size (ls.take k))) ∧ Below w1.heap.size w1 wr) (fun _ i _ => ls.length - (intOf i).toNat)
      case atStart => exact ⟨0, Nat.zero_le _, rfl, World.ownsRow_nil _ _ _ _, Below.refl _ _⟩
      case round =>
        obtain ⟨k, hk, rfl, hown, hw1⟩ := hrel
        have hszr := hw1.size
        have hrl : (rvL size (ls.take k)).length ≤ 20 := by
          have h1 := rvL_len size (ls.take k)
          have h2 := List.length_take_le k ls
          omega
        by_cases hlt : k < ls.length
        · obtain ⟨ad', cap', hv', _, _, hc'⟩ := HF1.out
          simp only [Value.slice.injEq] at hv'
          obtain ⟨rfl, _, rfl⟩ := hv'
          obtain ⟨g, off, rfl, hgs, hce⟩ := hc' (by omega)
          obtain ⟨c1, c2⟩ := hce k hlt
          have hok := List.all_eq_true.1 HAL.out ls[k] (List.getElem_mem hlt)
          obtain ⟨a, ha⟩ : ∃ a, a = (ls[k]).1 := ⟨_, rfl⟩
          obtain ⟨b, hb⟩ : ∃ b, b = (ls[k]).2 := ⟨_, rfl⟩
          have he : ls[k] = (a, b) := by rw [ha, hb]
          rw [he] at hok
          rw [← ha] at c1
          rw [← hb] at c2
          obtain ⟨f, hf⟩ : ∃ f, rvF size (a, b) = f := ⟨_, rfl⟩
          obtain ⟨t, ht⟩ : ∃ t, rvT size (a, b) = t := ⟨_, rfl⟩
          have HONE : Hid (∀ w, Calls Try.prog 14 #[.agg #[.int .i64 a, .int .i64 b], .int .i64 size] w fun e w' => e = .returned (.agg #[.int .i64 f, .int .i64 t]) ∧ Below w.heap.size w w') := fun w => rone_at a b size f t hok hsz2 hf ht w
          have d1 : wr.cell? ⟨g, off + k * 2, none⟩ = some (.int .i64 a) := (hw1.cell (p := ⟨g, off + k * 2, none⟩) hgs).trans c1
          have d2 : wr.cell? ⟨g, off + k * 2 + 1, none⟩ = some (.int .i64 b) := (hw1.cell (p := ⟨g, off + k * 2 + 1, none⟩) hgs).trans c2
          have hgr : g < wr.heap.size := by omega
          have hki : (k : Int) < (ls.length : Int) := by omega
          have hk0 : (0 : Int) ≤ (k : Int) := by omega
          have hw10 := hw1.alloc hszr (.cells #[.int .i64 a, .int .i64 b] 32)
          have hown0 := hown.alloc (.cells #[.int .i64 a, .int .i64 b] 32)
          have HT : Hid (rvL size (ls.take (k + 1)) = rvL size (ls.take k) ++ if f < t then [(f, t)] else []) := by show _ = _; rw [rvL_take size ls k hlt, he]; unfold rvW; rw [hf, ht]
          clear hce c1 c2 ha hb hc' hown hw1 hf ht hok he
          go_wp2_with fail
          refine (HONE.out _).mono ?_
          rintro e w2 ⟨rfl, hb2⟩
          have hown2 := own_below3 hown0 hb2
          have hw2 := hw10.trans (hb2.mono hw10.size)
          have hsz2 := hw2.size
          have hown3 := hown2.alloc (.cells #[.int .i64 f, .int .i64 t] 28)
          have hw3 := hw2.alloc hsz2 (.cells #[.int .i64 f, .int .i64 t] 28)
          clear hown0 hw10 hb2 hown2 hw2
          by_cases hft : f < t
          · have HD : Hid (decide (f < t) = true) := decide_eq_true hft
            have HV : Hid (rvL size (ls.take (k + 1)) = rvL size (ls.take k) ++ [(f, t)]) := by show _ = _; rw [HT.out, if_pos hft]
            go_wp2_with fail
            refine (shas_is f t true HD.out _).mono ?_
            rintro e w4 ⟨rfl, hb4⟩
            have k0 := new_cell hb4 0
            have k1 := new_cell hb4 1
            have hown := own_below3 hown3 hb4
            have hw1 := hw3.trans (hb4.mono hw3.size)
            have hszq1 := hw1.size
            have hlt4 : w2.heap.size < w4.heap.size := by have := hb4.size; simp at this; omega
            simp only [List.getElem?_toArray, List.getElem?_cons_zero, List.getElem?_cons_succ] at k0 k1
            clear hown3 hw3 hb4
            go_wp2_with (at_builtin; refine wpList_append_own _ rfl _ _ 23 rfl w1.heap.size 28 i1 (.agg #[.int .i64 0, .int .i64 0]) 2 16 Try.underlying23 hi1 hy0 hy1 hy2 rfl (by decide) _ _ _ rfl (hown.alloc _) ⟨w4.heap.size, 0, none⟩ 1 1 [.int .i64 f, .int .i64 t] rfl rfl ?c1 ?c2 ?c3 ?c4 ?c5 ?_)
            case c1 =>
              intro j z h
              match j, h with
              | 0, h => simp at h; subst h; simp [Addr.add]
              | 1, h => simp at h; subst h; simp [Addr.add]
            case c2 => intro z hx; simp at hx; rcases hx with rfl | rfl <;> rfl
            case c3 => unfold maxLen; omega
            case c4 => omega
            case c5 => simp; omega
            · intro v' w5 hown' hgrow _
              have hB1 : Below w1.heap.size w1 w5 := (hw1.alloc hszq1 _).grown hgrow (by simp; omega) (fun bb hb => ((hown.alloc (.cells #[.int .i64 f, .int .i64 t] 28)).lt bb hb).1)
              have hown5 : w5.ownsRow w1.heap.size 28 2 v' (rvL size (ls.take (k + 1))).length (wns (rvL size (ls.take (k + 1)))) := by
                rw [HV.out, List.length_append, List.length_singleton, ← wns_snoc]; exact hown'
              have HOWN : Hid (w5.ownsRow w1.heap.size 28 2 v' (rvL size (ls.take (k + 1))).length (wns (rvL size (ls.take (k + 1))))) := hown5
              clear hown' hown5
              go_wp2_with fail
              go_roundw
              case rel => exact ⟨k + 1, by omega, by go_num, HOWN.out, hB1⟩
              case measure => simp [intOf]; omega
          · have HD : Hid (decide (f < t) = false) := decide_eq_false hft
            have HV : Hid (rvL size (ls.take (k + 1)) = rvL size (ls.take k)) := by show _ = _; rw [HT.out, if_neg hft, List.append_nil]
            go_wp2_with fail
            refine (shas_is f t false HD.out _).mono ?_
            rintro e w4 ⟨rfl, hb4⟩
            have hown := own_below3 hown3 hb4
            have hw1 := hw3.trans (hb4.mono hw3.size)
            rw [← HV.out] at hown
            clear hown3 hw3 hb4
            go_wp2_with fail
            go_roundw
            case rel => exact ⟨k + 1, by omega, by go_num, hown, hw1⟩
            case measure => simp [intOf]; omega
        · rw [List.take_of_length_le (by omega)] at hown hrl
          have hBF : Below w.heap.size w wr := HB1.out.trans (hw1.mono hsz1)
          by_cases h0 : (rvL size ls).length = 0
          · have HR : Hid (rsSp ls size = ([], 11)) := rsSp_none (by omega) HZ.out h0
            have h0i : (((rvL size ls).length : Int) == 0) = true := by simp [h0]
            rcases hown.2 with ⟨rfl, _⟩ | ⟨g, cp, cur, rfl, _⟩
            all_goals
              try rw [h0]
              go_wp2_with fail
              go_ret2
              exact ⟨_, by rw [HR.out]; rfl, by rw [HR.out]; exact World.ownsRow_nil _ _ _ _, hBF⟩
          · have HR : Hid (rsSp ls size = (rvL size ls, 0)) := rsSp_ok (by omega) HZ.out h0
            have h0i : (((rvL size ls).length : Int) == 0) = false := beq_eq_false_iff_ne.2 (by omega)
            have HOWN : Hid (wr.ownsRow w1.heap.size 28 2 _ (rvL size ls).length (wns (rvL size ls))) := hown
            rcases hown.2 with ⟨rfl, h1⟩ | ⟨g, cp, cur, rfl, _⟩
            · exact absurd h1 h0
            · clear hown
              go_wp2_with fail
              go_ret2
              exact ⟨_, by rw [HR.out]; rfl, by rw [HR.out]; exact own_le HOWN.out hsz1, hBF⟩
    · have hcb : (c != 0) = true := by simpa using hc0
      have HR : Hid (rsSp ls size = ([], c)) := by
        show _ = _
        by_cases hc1 : c = 1
        · rw [rsSp_arg (.inl (HC.out.trans hc1)), hc1]
        · rw [rsSp_bad (by rw [HC.out]; omega) (by rw [HC.out]; exact hc0), HC.out]
      go_enter Try.func7, Try.ntmps7
      go_wp2_with fail
      refine (scheck_any _ ls _ HF.out).mono ?_
      rintro e w1 ⟨rfl, hb1⟩
      rw [HC.out]
      go_wp2_with fail
      go_ret2
      exact ⟨_, by rw [HR.out]; rfl, by rw [HR.out]; exact World.ownsRow_nil _ _ _ _, hb1⟩
end Go.Proofs.Ytkmbhgbmdeoppab
