/-
  What the document's SpanResolve answers; all numbers fit.
-/
import Derived.Test.YtkmbhgbmdeoppaaWRWn
import Derived.Test.YtkmbhgbmdeoppaaSpecRv
import Derived.Test.YtkmbhgbmdeoppaaWInfoSc
import Derived.Test.YtkmbhgbmdeoppaaSpecAl
import Derived.Test.YtkmbhgbmdeoppaaSpecSe
import Derived.BigQuiet
namespace Go.Proofs.Ytkmbhgbmdeoppaa
open Go.RowKit

set_option maxHeartbeats 4000000 in
set_option maxRecDepth 100000 in
theorem rsres_at (v : Value) (ls : List Wn) (size : Int) (hz : -9223372036854775808 ≤ size ∧ size ≤ 9223372036854775807) (w : World) (hf : Wl w v ls) :
    Calls Try.prog 6 #[v, .int .i64 size] w fun e w' => ∃ v', e = .returned (.tuple #[v', .int .i64 (rsSp ls size).2]) ∧
      w'.ownsRow w.heap.size 29 2 v' (rsSp ls size).1.length (wns (rsSp ls size).1) ∧ Below w.heap.size w w' := by
  obtain ⟨i1, hi1, hy0, hy1, hy2⟩ := info_parts infoSc
  have HF : Hid (Wl w v ls) := hf
  obtain ⟨c, hc⟩ : ∃ c, chkW ls = c := ⟨_, rfl⟩
  have HC : Hid (chkW ls = c) := hc
  clear hf hc
  by_cases h1 : c = 1 ∨ size < 0
  · have HR : Hid (rsSp ls size = ([], 1)) := rsSp_arg (by rw [HC.out]; exact h1)
    by_cases hc1 : c = 1
    · subst hc1
      go_enter Try.func6, Try.ntmps6
      go_wp2_with fail
      refine (rscheck_any _ ls _ HF.out).mono ?_
      rintro e w1 ⟨rfl, hb1⟩
      rw [HC.out]
      go_wp2_with fail
      go_ret2
      exact ⟨_, by rw [HR.out]; rfl, by rw [HR.out]; exact World.ownsRow_nil _ _ _ _, hb1⟩
    · have hcb : (c == 1) = false := beq_eq_false_iff_ne.2 hc1
      have hs : size < 0 := by omega
      clear h1
      go_enter Try.func6, Try.ntmps6
      go_wp2_with fail
      refine (rscheck_any _ ls _ HF.out).mono ?_
      rintro e w1 ⟨rfl, hb1⟩
      rw [HC.out]
      go_wp2_with fail
      go_ret2
      exact ⟨_, by rw [HR.out]; rfl, by rw [HR.out]; exact World.ownsRow_nil _ _ _ _, hb1⟩
  · have hs : ¬ size < 0 := by omega
    have hcb : (c == 1) = false := beq_eq_false_iff_ne.2 (by omega)
    by_cases h0 : c = 0
    · subst h0
      have HZ : Hid (chkW ls = 0) := HC.out
      obtain ⟨hall, hl1, hl20⟩ := chkW_zero HZ.out
      have HAL : Hid (ls.all okW = true) := hall
      obtain ⟨ad, cap, hv, hcap, hcm, _⟩ := HF.out
      subst hv
      unfold maxLen at hcm
      clear hall h1 hcb
      go_enter Try.func6, Try.ntmps6
      go_wp2_with fail
      refine (rscheck_any _ ls _ HF.out).mono ?_
      rintro e w1 ⟨rfl, hb1⟩
      have HF1 : Hid (Wl w1 (.slice ad ls.length cap) ls) := HF.out.below hb1
      have HB1 : Hid (Below w.heap.size w w1) := hb1
      have hsz1 := hb1.size
      rw [HC.out]
      clear hb1
      go_wp2_with fail
      go_loopw [7, 25] (fun o i wr => ∃ k : Nat, k ≤ ls.length ∧ i = .int .i64 k ∧ wr.ownsRow w1.heap.size 29 2 o (rvL size (ls.take k)).length (wns (rvL size (ls.take k))) ∧ ((rvL size (ls.take k)).length = 0 → o = .slice none 0 0) ∧ Below w1.heap.size w1 wr) (fun _ i _ => ls.length - (intOf i).toNat)
      case atStart => exact ⟨0, Nat.zero_le _, rfl, World.ownsRow_nil _ _ _ _, fun _ => rfl, Below.refl _ _⟩
      case round =>
        obtain ⟨k, hk, rfl, hown, hnil, hw1⟩ := hrel
        have HNI : Hid ((rvL size (ls.take k)).length = 0 → _ = Value.slice none 0 0) := hnil
        clear hnil
        have hszr := hw1.size
        have hrl : (rvL size (ls.take k)).length ≤ 20 := by
          have h1 := rvL_len size (ls.take k)
          have h2 := List.length_take_le k ls
          omega
        by_cases hlt : k < ls.length
        · obtain ⟨ad', cap', hv', _, _, hc'⟩ := HF1.out
          simp only [Value.slice.injEq] at hv'
          obtain ⟨rfl, _, rfl⟩ := hv'
          obtain ⟨g, off, rfl, hgs, hce⟩ := hc' (by omega)
          obtain ⟨c1, c2⟩ := hce k hlt
          have hok := okW_is (List.all_eq_true.1 HAL.out ls[k] (List.getElem_mem hlt))
          obtain ⟨a, ha⟩ : ∃ a, a = (ls[k]).1 := ⟨_, rfl⟩
          obtain ⟨b, hb⟩ : ∃ b, b = (ls[k]).2 := ⟨_, rfl⟩
          rw [← ha, ← hb] at hok
          rw [← ha] at c1
          rw [← hb] at c2
          have HE : Hid (ls[k] = (a, b)) := by show _ = _; rw [ha, hb]
          have d1 : wr.cell? ⟨g, off + k * 2, none⟩ = some (.int .i64 a) := (hw1.cell (p := ⟨g, off + k * 2, none⟩) hgs).trans c1
          have d2 : wr.cell? ⟨g, off + k * 2 + 1, none⟩ = some (.int .i64 b) := (hw1.cell (p := ⟨g, off + k * 2 + 1, none⟩) hgs).trans c2
          have hgr : g < wr.heap.size := by omega
          have hki : (k : Int) < (ls.length : Int) := by omega
          have hk0 : (0 : Int) ≤ (k : Int) := by omega
          have hw10 := hw1.alloc hszr (.cells #[.int .i64 a, .int .i64 b] 35)
          have hown0 := hown.alloc (.cells #[.int .i64 a, .int .i64 b] 35)
          have HT : Hid (rvL size (ls.take (k + 1)) = rvL size (ls.take k) ++ rvW size (a, b)) := by show _ = _; rw [rvL_take size ls k hlt, HE.out]
          obtain ⟨ho1, ho2, ho3, ho4, ho5, ho6⟩ := hok
          have hwb : IntKind.i64.wrap (b + 1) = b + 1 := by rw [IntKind.wrap_i64]; omega
          clear hce c1 c2 ha hb hc' hown hw1
          by_cases haa : a = -1
          · have hb0 := ho5 haa
            subst haa
            have hbb : (b == -1) = false := beq_eq_false_iff_ne.2 (by omega)
            have hws : IntKind.i64.wrap (size - b) = size - b := by rw [IntKind.wrap_i64]; omega
            have HF0 : Hid (rvF size (-1, b) = max (size - b) 0 ∧ rvT size (-1, b) = size) := by
              constructor
              · unfold rvF; simp
              · unfold rvT; simp
            clear ho5 ho6
            go_wp2_with fail
            go_quiet (fail)
            generalize hWq : (wr.alloc (.cells #[.int .i64 (-1), .int .i64 b] 35)).drewN _ = wq
            have hbq : Below (wr.alloc (.cells #[.int .i64 (-1), .int .i64 b] 35)).heap.size (wr.alloc (.cells #[.int .i64 (-1), .int .i64 b] 35)) wq := by rw [← hWq]; exact drewN_below _ _ _
            have q0 : wq.cell? ⟨wr.heap.size, 0, none⟩ = some (.int .i64 (-1)) := new_cell hbq 0
            have q1 : wq.cell? ⟨wr.heap.size, 1, none⟩ = some (.int .i64 b) := new_cell hbq 1
            have hown := own_below3 hown0 hbq
            have hw1 := hw10.trans (hbq.mono hw10.size)
            have hszq1 := hw1.size
            clear hWq hbq hown0 hw10
            by_cases hft : max (size - b) 0 < size
            · have HV : Hid (rvL size (ls.take (k + 1)) = rvL size (ls.take k) ++ [(max (size - b) 0, size)]) := by
                show _ = _
                rw [HT.out]
                unfold rvW
                rw [HF0.out.1, HF0.out.2, if_pos hft]
              go_wp2_with (at_builtin; refine wpList_append_own _ rfl _ _ 23 rfl w1.heap.size 29 i1 (.agg #[.int .i64 0, .int .i64 0]) 2 16 Try.underlying23 hi1 hy0 hy1 hy2 rfl (by decide) _ _ _ rfl (hown.alloc _) ⟨wq.heap.size, 0, none⟩ 1 1 [.int .i64 (max (size - b) 0), .int .i64 (size)] rfl rfl ?c1 ?c2 ?c3 ?c4 ?c5 ?_)
              case c1 =>
                intro j z h
                match j, h with
                | 0, h => simp at h; subst h; simp [Addr.add]
                | 1, h => simp at h; subst h; simp [Addr.add]
              case c2 => intro z hx; simp at hx; rcases hx with rfl | rfl <;> rfl
              case c3 => unfold maxLen; omega
              case c4 => omega
              case c5 => simp; omega
              · intro v' w5 hown' hgrow _
                have hB1 : Below w1.heap.size w1 w5 := (hw1.alloc hszq1 _).grown hgrow (by simp; omega) (fun bb hb => ((hown.alloc (.cells #[.int .i64 (max (size - b) 0), .int .i64 (size)] 29)).lt bb hb).1)
                have hown5 : w5.ownsRow w1.heap.size 29 2 v' (rvL size (ls.take (k + 1))).length (wns (rvL size (ls.take (k + 1)))) := by
                  rw [HV.out, ← wns_snoc, List.length_append]; exact hown'
                clear hown' hgrow hown hw1
                go_wp2_with fail
                go_roundw
                case rel => exact ⟨k + 1, by omega, by go_num, hown5, (by rw [HV.out]; intro h; simp at h), hB1⟩
                case measure => simp [intOf]; omega
            · have HV : Hid (rvL size (ls.take (k + 1)) = rvL size (ls.take k)) := by
                show _ = _
                rw [HT.out]
                unfold rvW
                rw [HF0.out.1, HF0.out.2, if_neg hft, List.append_nil]
              go_wp2_with fail
              go_roundw
              case rel => exact ⟨k + 1, by omega, by go_num, (by rw [HV.out]; exact hown), (by rw [HV.out]; exact HNI.out), hw1⟩
              case measure => simp [intOf]; omega

          · have haab : (a == -1) = false := beq_eq_false_iff_ne.2 haa
            by_cases hbm : b = -1
            · subst hbm
              have HF0 : Hid (rvF size (a, -1) = a ∧ rvT size (a, -1) = size) := by
                constructor
                · unfold rvF; rw [if_neg (show ¬ (a, (-1 : Int)).1 = -1 from haa)]
                · unfold rvT; rw [if_neg (show ¬ (a, (-1 : Int)).1 = -1 from haa)]; simp
              clear ho5 ho6
              go_wp2_with fail
              go_quiet (fail)
              generalize hWq : (wr.alloc (.cells #[.int .i64 a, .int .i64 (-1)] 35)).drewN _ = wq
              have hbq : Below (wr.alloc (.cells #[.int .i64 a, .int .i64 (-1)] 35)).heap.size (wr.alloc (.cells #[.int .i64 a, .int .i64 (-1)] 35)) wq := by rw [← hWq]; exact drewN_below _ _ _
              have q0 : wq.cell? ⟨wr.heap.size, 0, none⟩ = some (.int .i64 a) := new_cell hbq 0
              have q1 : wq.cell? ⟨wr.heap.size, 1, none⟩ = some (.int .i64 (-1)) := new_cell hbq 1
              have hown := own_below3 hown0 hbq
              have hw1 := hw10.trans (hbq.mono hw10.size)
              have hszq1 := hw1.size
              clear hWq hbq hown0 hw10
              by_cases hft : a < size
              · have HV : Hid (rvL size (ls.take (k + 1)) = rvL size (ls.take k) ++ [(a, size)]) := by
                  show _ = _
                  rw [HT.out]
                  unfold rvW
                  rw [HF0.out.1, HF0.out.2, if_pos hft]
                go_wp2_with (at_builtin; refine wpList_append_own _ rfl _ _ 23 rfl w1.heap.size 29 i1 (.agg #[.int .i64 0, .int .i64 0]) 2 16 Try.underlying23 hi1 hy0 hy1 hy2 rfl (by decide) _ _ _ rfl (hown.alloc _) ⟨wq.heap.size, 0, none⟩ 1 1 [.int .i64 (a), .int .i64 (size)] rfl rfl ?c1 ?c2 ?c3 ?c4 ?c5 ?_)
                case c1 =>
                  intro j z h
                  match j, h with
                  | 0, h => simp at h; subst h; simp [Addr.add]
                  | 1, h => simp at h; subst h; simp [Addr.add]
                case c2 => intro z hx; simp at hx; rcases hx with rfl | rfl <;> rfl
                case c3 => unfold maxLen; omega
                case c4 => omega
                case c5 => simp; omega
                · intro v' w5 hown' hgrow _
                  have hB1 : Below w1.heap.size w1 w5 := (hw1.alloc hszq1 _).grown hgrow (by simp; omega) (fun bb hb => ((hown.alloc (.cells #[.int .i64 (a), .int .i64 (size)] 29)).lt bb hb).1)
                  have hown5 : w5.ownsRow w1.heap.size 29 2 v' (rvL size (ls.take (k + 1))).length (wns (rvL size (ls.take (k + 1)))) := by
                    rw [HV.out, ← wns_snoc, List.length_append]; exact hown'
                  clear hown' hgrow hown hw1
                  go_wp2_with fail
                  go_roundw
                  case rel => exact ⟨k + 1, by omega, by go_num, hown5, (by rw [HV.out]; intro h; simp at h), hB1⟩
                  case measure => simp [intOf]; omega
              · have HV : Hid (rvL size (ls.take (k + 1)) = rvL size (ls.take k)) := by
                  show _ = _
                  rw [HT.out]
                  unfold rvW
                  rw [HF0.out.1, HF0.out.2, if_neg hft, List.append_nil]
                go_wp2_with fail
                go_roundw
                case rel => exact ⟨k + 1, by omega, by go_num, (by rw [HV.out]; exact hown), (by rw [HV.out]; exact HNI.out), hw1⟩
                case measure => simp [intOf]; omega

            · have hbb : (b == -1) = false := beq_eq_false_iff_ne.2 hbm
              have HF0 : Hid (rvF size (a, b) = a ∧ rvT size (a, b) = min (b + 1) size) := by
                constructor
                · unfold rvF; rw [if_neg (show ¬ (a, b).1 = -1 from haa)]
                · unfold rvT; rw [if_neg (show ¬ (a, b).1 = -1 from haa), if_neg (show ¬ (a, b).2 = -1 from hbm)]
              clear ho5 ho6
              go_wp2_with fail
              go_quiet (fail)
              generalize hWq : (wr.alloc (.cells #[.int .i64 a, .int .i64 b] 35)).drewN _ = wq
              have hbq : Below (wr.alloc (.cells #[.int .i64 a, .int .i64 b] 35)).heap.size (wr.alloc (.cells #[.int .i64 a, .int .i64 b] 35)) wq := by rw [← hWq]; exact drewN_below _ _ _
              have q0 : wq.cell? ⟨wr.heap.size, 0, none⟩ = some (.int .i64 a) := new_cell hbq 0
              have q1 : wq.cell? ⟨wr.heap.size, 1, none⟩ = some (.int .i64 b) := new_cell hbq 1
              have hown := own_below3 hown0 hbq
              have hw1 := hw10.trans (hbq.mono hw10.size)
              have hszq1 := hw1.size
              clear hWq hbq hown0 hw10
              by_cases hft : a < min (b + 1) size
              · have HV : Hid (rvL size (ls.take (k + 1)) = rvL size (ls.take k) ++ [(a, min (b + 1) size)]) := by
                  show _ = _
                  rw [HT.out]
                  unfold rvW
                  rw [HF0.out.1, HF0.out.2, if_pos hft]
                go_wp2_with (at_builtin; refine wpList_append_own _ rfl _ _ 23 rfl w1.heap.size 29 i1 (.agg #[.int .i64 0, .int .i64 0]) 2 16 Try.underlying23 hi1 hy0 hy1 hy2 rfl (by decide) _ _ _ rfl (hown.alloc _) ⟨wq.heap.size, 0, none⟩ 1 1 [.int .i64 (a), .int .i64 (min (b + 1) size)] rfl rfl ?c1 ?c2 ?c3 ?c4 ?c5 ?_)
                case c1 =>
                  intro j z h
                  match j, h with
                  | 0, h => simp at h; subst h; simp [Addr.add]
                  | 1, h => simp at h; subst h; simp [Addr.add]
                case c2 => intro z hx; simp at hx; rcases hx with rfl | rfl <;> rfl
                case c3 => unfold maxLen; omega
                case c4 => omega
                case c5 => simp; omega
                · intro v' w5 hown' hgrow _
                  have hB1 : Below w1.heap.size w1 w5 := (hw1.alloc hszq1 _).grown hgrow (by simp; omega) (fun bb hb => ((hown.alloc (.cells #[.int .i64 (a), .int .i64 (min (b + 1) size)] 29)).lt bb hb).1)
                  have hown5 : w5.ownsRow w1.heap.size 29 2 v' (rvL size (ls.take (k + 1))).length (wns (rvL size (ls.take (k + 1)))) := by
                    rw [HV.out, ← wns_snoc, List.length_append]; exact hown'
                  clear hown' hgrow hown hw1
                  go_wp2_with fail
                  go_roundw
                  case rel => exact ⟨k + 1, by omega, by go_num, hown5, (by rw [HV.out]; intro h; simp at h), hB1⟩
                  case measure => simp [intOf]; omega
              · have HV : Hid (rvL size (ls.take (k + 1)) = rvL size (ls.take k)) := by
                  show _ = _
                  rw [HT.out]
                  unfold rvW
                  rw [HF0.out.1, HF0.out.2, if_neg hft, List.append_nil]
                go_wp2_with fail
                go_roundw
                case rel => exact ⟨k + 1, by omega, by go_num, (by rw [HV.out]; exact hown), (by rw [HV.out]; exact HNI.out), hw1⟩
                case measure => simp [intOf]; omega

        · have HEnd : Hid (ls.take k = ls) := List.take_of_length_le (by omega)
          rw [HEnd.out] at hown hrl
          have HO : Hid (wr.ownsRow w1.heap.size 29 2 _ (rvL size ls).length (wns (rvL size ls))) := hown
          have HB2 := HB1.out.trans (hw1.mono hsz1)
          by_cases hr0 : (rvL size ls).length = 0
          · have HR : Hid (rsSp ls size = ([], 11)) := rsSp_none (by omega) HZ.out hr0
            have hov := HNI.out (by rw [HEnd.out]; exact hr0)
            subst hov
            clear hown HO
            have hq : ∀ W, (binOp .eql 23 (.slice none 0 0) (.slice none 0 0)).run Try.prog W = .ok (.bool true) W := sl_none Try.underlying23
            go_wp2_with fail
            go_ret2
            exact ⟨_, by rw [HR.out]; rfl, by rw [HR.out]; exact World.ownsRow_nil _ _ _ _, HB2⟩
          · have HR : Hid (rsSp ls size = (rvL size ls, 0)) := rsSp_ok (by omega) HZ.out hr0
            obtain ⟨oad, oc, hov, hom, honc, hoc⟩ := own_form2 hown
            obtain ⟨og, hog, _⟩ := hoc (by omega)
            subst hov
            subst hog
            clear hown hoc
            have hq : ∀ a n c W, (binOp .eql 23 (.slice (some a) n c) (.slice none 0 0)).run Try.prog W = .ok (.bool false) W := sl_some Try.underlying23
            go_wp2_with fail
            go_ret2
            exact ⟨_, by rw [HR.out]; rfl, by rw [HR.out]; exact own_le HO.out hsz1, HB2⟩
    · have h0b : (c != 0) = true := by simpa using h0
      have HR : Hid (rsSp ls size = ([], c)) := by
        show _ = _
        rw [rsSp_bad (by rw [HC.out]; exact h1) (by rw [HC.out]; exact h0), HC.out]
      go_enter Try.func6, Try.ntmps6
      go_wp2_with fail
      refine (rscheck_any _ ls _ HF.out).mono ?_
      rintro e w1 ⟨rfl, hb1⟩
      rw [HC.out]
      go_wp2_with fail
      go_ret2
      exact ⟨_, by rw [HR.out]; rfl, by rw [HR.out]; exact World.ownsRow_nil _ _ _ _, hb1⟩
end Go.Proofs.Ytkmbhgbmdeoppaa
