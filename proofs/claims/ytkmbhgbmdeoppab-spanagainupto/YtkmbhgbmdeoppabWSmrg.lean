/-
  What Merge of package span answers; a list is no longer than Go allows.
-/
import Derived.Test.YtkmbhgbmdeoppabWSrt
namespace Go.Proofs.Ytkmbhgbmdeoppab
open Go.RowKit Go.Shelf

set_option maxHeartbeats 4000000 in
set_option maxRecDepth 100000 in
theorem smerge_at (v : Value) (ls : List Wn) (w : World) (hf : Wl w v ls) (hl : ls.length ≤ 8796093021952) :
    Calls Try.prog 10 #[v] w fun e w' => ∃ v', e = .returned v' ∧
      w'.ownsRow w.heap.size 28 2 v' (mrgL ls).length (wns (mrgL ls)) ∧ Below w.heap.size w w' := by
  obtain ⟨i1, hi1, hy0, hy1, hy2⟩ := info_parts infoSc
  have HF : Hid (Wl w v ls) := hf
  clear hf
  go_enter Try.func10, Try.ntmps10
  go_wp2_with fail
  refine (sclone_at v ls _ HF.out hl).mono ?_
  rintro e w1 ⟨v1, rfl, hb1, ⟨h0, ad1, cap1, rfl⟩ | ⟨h0, ho1⟩⟩
  · have HM : Hid (mrgL ls = []) := by
      show _ = _
      rw [List.length_eq_zero_iff.1 h0]; rfl
    go_wp2_with fail
    refine (ssort_none ad1 cap1 _ _).mono ?_
    rintro e w2 ⟨rfl, rfl⟩
    go_wp2_with fail
    refine wp_loop_rounds 1 ?_
    rw [rounds_succ]
    go_wp2_with fail
    go_ret
    exact ⟨_, rfl, by rw [HM.out]; exact World.ownsRow_nil _ _ _ _, hb1⟩
  · obtain ⟨ad1, cap1, hv1, hcm1, _⟩ := own_form2 ho1
    have hsz1 := hb1.size
    have HS := ssort_at v1 ls w.heap.size w1 h0 hl hsz1 ho1
    have HSH : Hid (Calls Try.prog 17 #[v1, .func (.func 18) #[] #[]] w1 fun e w' => e = .returned (.tuple #[]) ∧
      ∃ r : List Wn, r.Perm ls ∧ (r.Pairwise fun a b => a.1 ≤ b.1) ∧ r.length = ls.length ∧ Wl w' v1 r ∧ Below w.heap.size w1 w') := HS
    clear HS ho1
    subst hv1
    go_wp2_with fail
    refine (HSH.out).mono ?_
    rintro e w2 ⟨rfl, r, hp, hs, hrl, hwl, hb2⟩
    have HWL : Hid (Wl w2 (.slice ad1 ls.length cap1) r) := hwl
    have HB2 : Hid (Below w.heap.size w w2) := hb1.trans hb2
    have HM : Hid (drun r = mrgL ls) := drun_is hp hs
    have hsz2 : w.heap.size ≤ w2.heap.size := HB2.out.size
    have hcl : (ls.length : Int) ≤ 8796093021952 := by omega
    clear hwl hb2 hp hs hb1 HSH
    unfold maxLen at hcm1
    go_wp2_with fail
    go_loopw [4, 14] (fun o i wr => ∃ k : Nat, k ≤ ls.length ∧ i = .int .i64 k ∧ wr.ownsRow w2.heap.size 28 2 o (drun (r.take k)).length (wns (drun (r.take k))) ∧ Below w2.heap.size w2 wr) (fun _ i _ => ls.length - (intOf i).toNat)
    case atStart => exact ⟨0, Nat.zero_le _, rfl, World.ownsRow_nil _ _ _ _, Below.refl _ _⟩
    case round =>
      obtain ⟨k, hk, rfl, hown, hw1⟩ := hrel
      have hszr := hw1.size
      have hdl : (drun (r.take k)).length ≤ 8796093021952 := by
        have h1 := drun_len (r.take k)
        have h2 := List.length_take_le k r
        omega
      by_cases hlt : k < ls.length
      · obtain ⟨ad', cap', hv', _, _, hc'⟩ := HWL.out
        simp only [Value.slice.injEq] at hv'
        obtain ⟨rfl, hx, rfl⟩ := hv'
        clear hx
        obtain ⟨g, off, rfl, hgs, hce⟩ := hc' (by omega)
        obtain ⟨c1, c2⟩ := hce k (by omega)
        obtain ⟨p, hp⟩ : ∃ p, p = (r[k]'(by omega)).1 := ⟨_, rfl⟩
        obtain ⟨q, hq⟩ : ∃ q, q = (r[k]'(by omega)).2 := ⟨_, rfl⟩
        rw [← hp] at c1
        rw [← hq] at c2
        have HT : Hid (drun (r.take (k + 1)) = dstep (drun (r.take k)) (p, q)) := by show _ = _; rw [drun_take r k (by omega), hp, hq]
        have d1 : wr.cell? ⟨g, off + k * 2, none⟩ = some (.int .i64 p) := (hw1.cell (p := ⟨g, off + k * 2, none⟩) hgs).trans c1
        have d2 : wr.cell? ⟨g, off + k * 2 + 1, none⟩ = some (.int .i64 q) := (hw1.cell (p := ⟨g, off + k * 2 + 1, none⟩) hgs).trans c2
        have hgr : g < wr.heap.size := by omega
        have hki : (k : Int) < (ls.length : Int) := by omega
        have hk0 : (0 : Int) ≤ (k : Int) := by omega
        have hw10 := hw1.alloc hszr (.cells #[.int .i64 p, .int .i64 q] 28)
        have hown0 := hown.alloc (.cells #[.int .i64 p, .int .i64 q] 28)
        obtain ⟨out, hout⟩ : ∃ out, drun (r.take k) = out := ⟨_, rfl⟩
        have HOUT : Hid (drun (r.take k) = out) := hout
        rw [hout] at hown0 hdl
        have HOWNW : Hid (wr.ownsRow w2.heap.size 28 2 _ (drun (r.take k)).length (wns (drun (r.take k)))) := hown
        clear hce c1 c2 hc' hown hw1 hp hq hout hrl
        have hwr : IntKind.i64.wrap ((out.length : Int) - 1) = (out.length : Int) - 1 := by rw [IntKind.wrap_i64] <;> omega
        have hdi : (out.length : Int) ≤ 8796093021952 := by omega
        have hd0 : (0 : Int) ≤ (out.length : Int) := by omega
        by_cases hpq : p < q
        · have HD : Hid (decide (p < q) = true) := decide_eq_true hpq
          obtain ⟨N, hN⟩ : ∃ N, out.length = N := ⟨_, rfl⟩
          have HLEN : Hid (out.length = N) := hN
          rw [hN] at hown0 hdl hwr hdi hd0
          obtain ⟨ado, capo, rfl, hcmo, hnco, hrest⟩ := own_form2 hown0
          unfold maxLen at hcmo
          clear hN
          by_cases hN0 : N = 0
          · have HN : Hid (drun (r.take (k + 1)) = out ++ [(p, q)]) := by
              show _ = _
              have : out = [] := List.eq_nil_of_length_eq_zero (HLEN.out.trans hN0)
              rw [HT.out, HOUT.out, this]; exact dstep_nil (by omega)
            have hwm : IntKind.i64.wrap ((N : Int) - 1) = -1 := by rw [hwr, hN0]; rfl
            clear hrest hN0 hwr
            go_wp2_with fail
            refine (shas_is p q true HD.out _).mono ?_
            rintro e w4 ⟨rfl, hb4⟩
            have hown4 := own_below3 hown0 hb4
            have hw4 := hw10.trans (hb4.mono hw10.size)
            have HK : Hid (w4.cell? ⟨wr.heap.size, 0, none⟩ = some (.int .i64 p) ∧ w4.cell? ⟨wr.heap.size, 1, none⟩ = some (.int .i64 q) ∧ wr.heap.size < w4.heap.size) := ⟨new_cell hb4 0, new_cell hb4 1, by have := hb4.size; simp at this; omega⟩
            have k0 := HK.out.1
            have k1 := HK.out.2.1
            clear hown0 hw10 hb4
            go_wp2_with fail
            go_quiet (fail)
            generalize hWq : w4.drewN _ = w5
            have hbq : Below w4.heap.size w4 w5 := by rw [← hWq]; exact drewN_below _ _ _
            have HOW : Hid (w5.ownsRow w2.heap.size 28 2 _ N (wns out)) := own_below3 hown4 hbq
            have hw5 := hw4.trans (hbq.mono hw4.size)
            have hsz5 := hw5.size
            have q0 : w5.cell? ⟨wr.heap.size, 0, none⟩ = some (.int .i64 p) := (hbq.cell (p := ⟨wr.heap.size, 0, none⟩) HK.out.2.2).trans k0
            have q1 : w5.cell? ⟨wr.heap.size, 1, none⟩ = some (.int .i64 q) := (hbq.cell (p := ⟨wr.heap.size, 1, none⟩) HK.out.2.2).trans k1
            have hlt5 : wr.heap.size < w5.heap.size := by have := hbq.size; have := HK.out.2.2; omega
            clear hWq hbq hown4 hw4 k0 k1
            go_wp2_with (at_builtin; refine wpList_append_own _ rfl _ _ 23 rfl w2.heap.size 28 i1 (.agg #[.int .i64 0, .int .i64 0]) 2 16 Try.underlying23 hi1 hy0 hy1 hy2 rfl (by decide) _ _ _ rfl (HOW.out.alloc _) ⟨w5.heap.size, 0, none⟩ 1 1 [.int .i64 p, .int .i64 q] rfl rfl ?c1a ?c2a ?c3a ?c4a ?c5a ?_)
            case c1a =>
              intro j z h
              match j, h with
              | 0, h => simp at h; subst h; simp [Addr.add]
              | 1, h => simp at h; subst h; simp [Addr.add]
            case c2a => intro z hx; simp at hx; rcases hx with rfl | rfl <;> rfl
            case c3a => unfold maxLen; omega
            case c4a => omega
            case c5a => simp; omega
            · intro v' w6 hown' hgrow _
              have hB1 : Below w2.heap.size w2 w6 := (hw5.alloc hsz5 _).grown hgrow (by simp; omega) (fun bb hb => ((HOW.out.alloc (.cells #[.int .i64 p, .int .i64 q] 28)).lt bb hb).1)
              have HOWN : Hid (w6.ownsRow w2.heap.size 28 2 v' (drun (r.take (k + 1))).length (wns (drun (r.take (k + 1))))) := by
                show World.ownsRow _ _ _ _ _ _ _
                rw [HN.out, List.length_append, List.length_singleton, HLEN.out, ← wns_snoc]; exact hown'
              clear hown'
              go_wp2_with fail
              go_roundw
              case rel => exact ⟨k + 1, by omega, by go_num, HOWN.out, hB1⟩
              case measure => simp [intOf]; omega
          · obtain ⟨j, hj⟩ : ∃ j, j + 1 = N := ⟨N - 1, by omega⟩
            obtain ⟨o, t, hot⟩ : ∃ o t, out = o ++ [t] := by
              rcases List.eq_nil_or_concat out with h | ⟨o, t, h⟩
              · have := HLEN.out; rw [h] at this; exact absurd this.symm hN0
              · exact ⟨o, t, by rw [h, List.concat_eq_append]⟩
            have hoj : o.length = j := by have := HLEN.out; rw [hot] at this; simp at this; omega
            obtain ⟨g2, rfl, hgw2, hg2, hcell⟩ := hrest (by omega)
            obtain ⟨z, hz⟩ : ∃ z, z = t.2 := ⟨_, rfl⟩
            have hct : (wr.alloc (.cells #[.int .i64 p, .int .i64 q] 28)).cell? ⟨g2, j * 2 + 1, none⟩ = some (.int .i64 z) := by
              have h1 := (wns_get (o ++ [t]) o.length (by simp)).2
              rw [hcell (j * 2 + 1) (by omega), hot, ← hoj, h1, hz]
              simp
            have HCT : Hid ((wr.alloc (.cells #[.int .i64 p, .int .i64 q] 28)).cell? ⟨g2, j * 2 + 1, none⟩ = some (.int .i64 z)) := hct
            have HOT : Hid (out = o ++ [t] ∧ o.length = j ∧ z = t.2) := ⟨hot, hoj, hz⟩
            have hwm : IntKind.i64.wrap ((N : Int) - 1) = (j : Int) := by rw [hwr]; omega
            have hj0 : (0 : Int) ≤ (j : Int) := by omega
            have hj1 : (j : Int) < (N : Int) := by omega
            have HJ : Hid (j + 1 = N) := hj
            have HG2 : Hid (w2.heap.size ≤ g2 ∧ g2 < (wr.alloc (.cells #[.int .i64 p, .int .i64 q] 28)).heap.size ∧ g2 ≠ wr.heap.size) := by
              refine ⟨hgw2, hg2, fun e => ?_⟩
              subst e
              rcases HOWNW.out.2 with ⟨h, _⟩ | ⟨g', cp, cur, h, _, hh, _⟩
              · cases h
              · cases h
                have := (Array.getElem?_eq_some_iff.1 hh).1
                omega
            clear hrest hN0 hwr hcell hct hot hoj hz hj hgw2 hg2
            go_wp2_with fail
            refine (shas_is p q true HD.out _).mono ?_
            rintro e w4 ⟨rfl, hb4⟩
            have hown4 := own_below3 hown0 hb4
            have hw4 := hw10.trans (hb4.mono hw10.size)
            have HK : Hid (w4.cell? ⟨wr.heap.size, 0, none⟩ = some (.int .i64 p) ∧ w4.cell? ⟨wr.heap.size, 1, none⟩ = some (.int .i64 q) ∧ wr.heap.size < w4.heap.size) := ⟨new_cell hb4 0, new_cell hb4 1, by have := hb4.size; simp at this; omega⟩
            have k0 := HK.out.1
            have k1 := HK.out.2.1
            have k5 : w4.cell? ⟨g2, j * 2 + 1, none⟩ = some (.int .i64 z) := (hb4.cell (p := ⟨g2, j * 2 + 1, none⟩) HG2.out.2.1).trans HCT.out
            have hg4 : g2 < w4.heap.size := Nat.lt_of_lt_of_le HG2.out.2.1 hb4.size
            clear hown0 hw10 hb4
            have hjd : decide ((0 : Int) ≤ (j : Int)) = true := decide_eq_true hj0
            by_cases hpz : p ≤ z
            · have hpd : decide (p ≤ z) = true := decide_eq_true hpz
              go_wp2_with fail
              go_quiet (fail)
              generalize hWq : w4.drewN _ = w5
              have hbq : Below w4.heap.size w4 w5 := by rw [← hWq]; exact drewN_below _ _ _
              have HOW : Hid (w5.ownsRow w2.heap.size 28 2 (.slice (some ⟨g2, 0, none⟩) N capo) N (wns out)) := own_below3 hown4 hbq
              have hw5 := hw4.trans (hbq.mono hw4.size)
              have hsz5 := hw5.size
              have q0 : w5.cell? ⟨wr.heap.size, 0, none⟩ = some (.int .i64 p) := (hbq.cell (p := ⟨wr.heap.size, 0, none⟩) HK.out.2.2).trans k0
              have q1 : w5.cell? ⟨wr.heap.size, 1, none⟩ = some (.int .i64 q) := (hbq.cell (p := ⟨wr.heap.size, 1, none⟩) HK.out.2.2).trans k1
              have q5 : w5.cell? ⟨g2, j * 2 + 1, none⟩ = some (.int .i64 z) := (hbq.cell (p := ⟨g2, j * 2 + 1, none⟩) hg4).trans k5
              have hlt5 : wr.heap.size < w5.heap.size := by have := hbq.size; have := HK.out.2.2; omega
              have hg5 : g2 < w5.heap.size := by have := hbq.size; omega
              have q6 : w5.frozen? ⟨g2, j * 2 + 1, none⟩ = false := own_free HOW.out _
              have HN : Hid (drun (r.take (k + 1)) = o ++ [(t.1, max z q)]) := by
                show _ = _
                obtain ⟨h1, h2, h3⟩ := HOT.out
                rw [HT.out, HOUT.out, h1, h3]; exact dstep_in (by simp only; omega) (by rw [← h3]; exact hpz)
              have HPUT : Hid ((w5.setCell ⟨g2, j * 2 + 1, none⟩ (.int .i64 (max z q))).ownsRow w2.heap.size 28 2 (.slice (some ⟨g2, 0, none⟩) N capo) (drun (r.take (k + 1))).length (wns (drun (r.take (k + 1))))) := by
                show World.ownsRow _ _ _ _ _ _ _
                obtain ⟨h1, h2, h3⟩ := HOT.out
                have hJ := HJ.out
                have h4 := own_put HOW.out (j := j * 2 + 1) (by omega) (.int .i64 (max z q))
                rw [h1, ← h2, wns_put] at h4
                have e : (o ++ [(t.1, max z q)]).length = N := by simp; omega
                rw [HN.out, e, ← h2]; exact h4
              have HB5 : Hid (Below w2.heap.size w2 (w5.setCell ⟨g2, j * 2 + 1, none⟩ (.int .i64 (max z q)))) := hw5.setCell (p := ⟨g2, j * 2 + 1, none⟩) HG2.out.1 _
              clear hWq hbq hown4 hw4 k0 k1 k5 hg4
              go_wp2_with fail
              have mixed : Try.prog.follows Departure.mixedOrders = true := by kernel_rfl
              go_region_o
              go_wp2_with fail
              go_roundw
              case rel => exact ⟨k + 1, by omega, by go_num, own_drew HPUT.out, HB5.out.drew⟩
              case measure => simp [intOf]; omega
            · have HN : Hid (drun (r.take (k + 1)) = out ++ [(p, q)]) := by
                show _ = _
                obtain ⟨h1, h2, h3⟩ := HOT.out
                rw [HT.out, HOUT.out, h1]; exact dstep_on (by simp only; omega) (by rw [← h3]; simpa using hpz)
              have hpd : decide (p ≤ z) = false := decide_eq_false hpz
              go_wp2_with fail
              go_quiet (fail)
              generalize hWq : w4.drewN _ = w5
              have hbq : Below w4.heap.size w4 w5 := by rw [← hWq]; exact drewN_below _ _ _
              have HOW : Hid (w5.ownsRow w2.heap.size 28 2 _ N (wns out)) := own_below3 hown4 hbq
              have hw5 := hw4.trans (hbq.mono hw4.size)
              have hsz5 := hw5.size
              have q0 : w5.cell? ⟨wr.heap.size, 0, none⟩ = some (.int .i64 p) := (hbq.cell (p := ⟨wr.heap.size, 0, none⟩) HK.out.2.2).trans k0
              have q1 : w5.cell? ⟨wr.heap.size, 1, none⟩ = some (.int .i64 q) := (hbq.cell (p := ⟨wr.heap.size, 1, none⟩) HK.out.2.2).trans k1
              have hlt5 : wr.heap.size < w5.heap.size := by have := hbq.size; have := HK.out.2.2; omega
              clear hWq hbq hown4 hw4 k0 k1 k5
              go_wp2_with (at_builtin; refine wpList_append_own _ rfl _ _ 23 rfl w2.heap.size 28 i1 (.agg #[.int .i64 0, .int .i64 0]) 2 16 Try.underlying23 hi1 hy0 hy1 hy2 rfl (by decide) _ _ _ rfl (HOW.out.alloc _) ⟨w5.heap.size, 0, none⟩ 1 1 [.int .i64 p, .int .i64 q] rfl rfl ?c1b ?c2b ?c3b ?c4b ?c5b ?_)
              case c1b =>
                intro j z h
                match j, h with
                | 0, h => simp at h; subst h; simp [Addr.add]
                | 1, h => simp at h; subst h; simp [Addr.add]
              case c2b => intro z hx; simp at hx; rcases hx with rfl | rfl <;> rfl
              case c3b => unfold maxLen; omega
              case c4b => omega
              case c5b => simp; omega
              · intro v' w6 hown' hgrow _
                have hB1 : Below w2.heap.size w2 w6 := (hw5.alloc hsz5 _).grown hgrow (by simp; omega) (fun bb hb => ((HOW.out.alloc (.cells #[.int .i64 p, .int .i64 q] 28)).lt bb hb).1)
                have HOWN : Hid (w6.ownsRow w2.heap.size 28 2 v' (drun (r.take (k + 1))).length (wns (drun (r.take (k + 1))))) := by
                  show World.ownsRow _ _ _ _ _ _ _
                  rw [HN.out, List.length_append, List.length_singleton, HLEN.out, ← wns_snoc]; exact hown'
                clear hown'
                go_wp2_with fail
                go_roundw
                case rel => exact ⟨k + 1, by omega, by go_num, HOWN.out, hB1⟩
                case measure => simp [intOf]; omega
        · have HD : Hid (decide (p < q) = false) := decide_eq_false hpq
          have HN : Hid (drun (r.take (k + 1)) = out) := by show _ = _; rw [HT.out, HOUT.out]; exact dstep_no (by omega)
          obtain ⟨ado, capo, rfl, hcmo, hnco, hrest⟩ := own_form2 hown0
          clear hrest
          unfold maxLen at hcmo
          go_wp2_with fail
          refine (shas_is p q false HD.out _).mono ?_
          rintro e w4 ⟨rfl, hb4⟩
          have hown := own_below3 hown0 hb4
          have hw1 := hw10.trans (hb4.mono hw10.size)
          clear hown0 hw10 hb4
          go_wp2_with fail
          go_roundw
          case rel => exact ⟨k + 1, by omega, by go_num, by rw [HN.out]; exact hown, hw1⟩
          case measure => simp [intOf]; omega
      · rw [List.take_of_length_le (by omega), HM.out] at hown
        have hBF : Below w.heap.size w wr := HB2.out.trans (hw1.mono hsz2)
        go_wp2_with fail
        go_ret
        exact ⟨_, rfl, own_le hown hsz2, hBF⟩
end Go.Proofs.Ytkmbhgbmdeoppab
