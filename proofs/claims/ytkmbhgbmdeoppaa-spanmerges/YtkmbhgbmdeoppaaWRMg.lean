/-
  What the document's SpanMerge answers; a list is no longer than Go allows.
-/
import Derived.Test.YtkmbhgbmdeoppaaSpecMw2
import Derived.Test.YtkmbhgbmdeoppaaWInfoSc
import Derived.Laws.AppendOwnNone
namespace Go.Proofs.Ytkmbhgbmdeoppaa
open Go.RowKit

set_option maxHeartbeats 8000000 in
set_option maxRecDepth 100000 in
theorem rsmerge_any (v : Value) (ls : List Wn) (w : World) (hf : Wl w v ls) (hl : ls.length ≤ 8796093021952) :
    Calls Try.prog 9 #[v] w fun e w' => ∃ v', e = .returned v' ∧
      w'.ownsRow w.heap.size 29 2 v' (mrgL ls).length (wns (mrgL ls)) ∧ Below w.heap.size w w' := by
  obtain ⟨i1, hi1, hy0, hy1, hy2⟩ := info_parts infoSc
  have HF : Hid (Wl w v ls) := hf
  obtain ⟨ad, cap, rfl, hcap, hcm, _⟩ := id hf
  unfold maxLen at hcm
  clear hf
  go_enter Try.func9, Try.ntmps9
  go_wp2_with fail
  go_loopw [3, 12] (fun o i wr => ∃ k : Nat, k ≤ ls.length ∧ i = .int .i64 k ∧ wr.ownsRow w.heap.size 29 2 o (mrgL (ls.take k)).length (wns (mrgL (ls.take k))) ∧ Below w.heap.size w wr) (fun _ i _ => ls.length - (intOf i).toNat)
  case atStart => exact ⟨0, Nat.zero_le _, rfl, World.ownsRow_nil _ _ _ _, Below.refl _ _⟩
  case round =>
    obtain ⟨k, hk, rfl, hown, hw⟩ := hrel
    obtain ⟨wo, hwo⟩ : ∃ wo, wo = wr := ⟨_, rfl⟩
    subst hwo
    have hsz := hw.size
    by_cases hlt : k < ls.length
    · obtain ⟨ad', cap', hv', _, _, hc'⟩ := HF.out
      simp only [Value.slice.injEq] at hv'
      obtain ⟨rfl, _, rfl⟩ := hv'
      obtain ⟨g, off, rfl, hgs, hce⟩ := hc' (by omega)
      obtain ⟨c1, c2⟩ := hce k hlt
      obtain ⟨a, ha⟩ : ∃ a, a = (ls[k]).1 := ⟨_, rfl⟩
      obtain ⟨b, hb⟩ : ∃ b, b = (ls[k]).2 := ⟨_, rfl⟩
      rw [← ha] at c1
      rw [← hb] at c2
      have HE : Hid (mrgL (ls.take (k + 1)) = mone (mrgL (ls.take k)) (a, b)) := by
        show _ = _
        rw [mrgL_take ls k hlt, ha, hb]
      have d1 : wo.cell? ⟨g, off + k * 2, none⟩ = some (.int .i64 a) := (hw.cell (p := ⟨g, off + k * 2, none⟩) hgs).trans c1
      have d2 : wo.cell? ⟨g, off + k * 2 + 1, none⟩ = some (.int .i64 b) := (hw.cell (p := ⟨g, off + k * 2 + 1, none⟩) hgs).trans c2
      have hgr : g < wo.heap.size := by omega
      have hki : (k : Int) < (ls.length : Int) := by omega
      have hk0 : (0 : Int) ≤ (k : Int) := by omega
      clear hce c1 c2 ha hb hc'
      obtain ⟨O, hO⟩ : ∃ O, O = mrgL (ls.take k) := ⟨_, rfl⟩
      have hOl : O.length ≤ k := by
        have h1 := (mrgL_ok (ls.take k)).2.1
        have h2 := List.length_take_le k ls
        rw [hO]; omega
      have HCN : Hid (canonM O) := by rw [hO]; exact (mrgL_ok (ls.take k)).1
      rw [← hO] at hown HE
      clear hO
      have HOW : Hid (wo.ownsRow w.heap.size 29 2 _ O.length (wns O)) := hown
      have HBW : Hid (Below w.heap.size w wo) := hw
      have HWO : Hid (Wl wo _ O) := Wl.own hown
      obtain ⟨oad, oc, hov, hom, honc, _⟩ := own_form2 hown
      subst hov
      unfold maxLen at hom
      clear hown
      by_cases hba : b ≤ a
      · have HM : Hid (mrgL (ls.take (k + 1)) = O) := by show _ = _; rw [HE.out]; unfold mone; rw [if_pos (show (a, b).2 ≤ (a, b).1 from hba)]
        have hw0 := hw.alloc hsz (.cells #[.int .i64 a, .int .i64 b] 29)
        clear hw
        go_wp2_with fail
        go_roundw
        case rel => exact ⟨k + 1, by omega, by go_num, by rw [HM.out]; exact HOW.out.alloc _, hw0⟩
        case measure => simp [intOf]; omega
      · have HM : Hid (mrgL (ls.take (k + 1)) = (mrun (a, b) O).ah ++ [(mrun (a, b) O).s] ++ (mrun (a, b) O).be) := by show _ = _; rw [HE.out]; unfold mone; rw [if_neg (show ¬ (a, b).2 ≤ (a, b).1 from hba)]
        have HST : Hid (IW 29 wo wo.heap.size (wo.alloc (.cells #[.int .i64 a, .int .i64 b] 29)) (.slice none 0 0) (.slice none 0 0) ⟨(a, b), [], []⟩) := IW.start _ _ _ _ _
        have HLEN : Hid (∀ j, j ≤ O.length → (mrun (a, b) (O.take j)).ah.length + (mrun (a, b) (O.take j)).be.length ≤ j) := by
          intro j hj
          have h1 := (mrun_ok (a, b) (by show a < b; omega) (O.take j) ⟨fun s hs => HCN.out.1 s (List.mem_of_mem_take hs), HCN.out.2.sublist (List.take_sublist _ _)⟩).len
          have h2 := List.length_take_le j O
          omega
        clear hw HE
        go_wp2_with fail
        go_loopw [6, 7, 23] (fun av bv i W => ∃ j : Nat, j ≤ O.length ∧ i = .int .i64 j ∧ Hid (IW 29 wo wo.heap.size W av bv (mrun (a, b) (O.take j)))) (fun _ _ i _ => O.length - (intOf i).toNat)
        case atStart => exact ⟨0, Nat.zero_le _, rfl, HST.out⟩
        case round =>
          obtain ⟨j, hj, rfl, hiw⟩ := hrel
          have hl2 := HLEN.out j hj
          obtain ⟨x, hx⟩ : ∃ x, x = mrun (a, b) (O.take j) := ⟨_, rfl⟩
          rw [← hx] at hiw hl2
          obtain ⟨⟨p, q⟩, ah, be⟩ := x
          have hs0 := hiw.out.c0
          have hs1 := hiw.out.c1
          have hf0 := hiw.out.f0
          have hf1 := hiw.out.f1
          have hss := hiw.out.sz
          simp only at hs0 hs1 hl2
          by_cases hjl : j < O.length
          · obtain ⟨oad', oc', hov', _, _, hoc'⟩ := HWO.out
            simp only [Value.slice.injEq] at hov'
            obtain ⟨rfl, _, rfl⟩ := hov'
            obtain ⟨og, oof, rfl, hogs, hoce⟩ := hoc' (by omega)
            obtain ⟨e1, e2⟩ := hoce j hjl
            obtain ⟨c, hc⟩ : ∃ c, c = (O[j]).1 := ⟨_, rfl⟩
            obtain ⟨d, hd⟩ : ∃ d, d = (O[j]).2 := ⟨_, rfl⟩
            rw [← hc] at e1
            rw [← hd] at e2
            have u1 := (hiw.out.bel.cell (p := ⟨og, oof + j * 2, none⟩) hogs).trans e1
            have u2 := (hiw.out.bel.cell (p := ⟨og, oof + j * 2 + 1, none⟩) hogs).trans e2
            have hogq : og < wr.heap.size := by omega
            have HX : Hid (mrun (a, b) (O.take (j + 1)) = mstep ⟨(p, q), ah, be⟩ (c, d)) := by
              show _ = _
              rw [mrun_take _ _ _ hjl, ← hx, hc, hd]
            have hji : (j : Int) < (O.length : Int) := by omega
            have hj0 : (0 : Int) ≤ (j : Int) := by omega
            clear hoce e1 e2 hc hd hx hoc'
            have HI1 := hiw.out.alloc (.cells #[.int .i64 c, .int .i64 d] 29)
            have HI2 := HI1.alloc (.cells #[.int .i64 c, .int .i64 d] 29)
            have HI1H : Hid (IW 29 wo wo.heap.size _ _ _ _) := HI1
            have HI2H : Hid (IW 29 wo wo.heap.size _ _ _ _) := HI2
            obtain ⟨aad, acap, rfl, ham, hanc, _⟩ := own_form2 hiw.out.a
            obtain ⟨bad, bcap, rfl, hbm, hbnc, _⟩ := own_form2 hiw.out.b
            unfold maxLen at ham hbm
            clear HI1 HI2
            by_cases h1 : d < p
            · have HXX : Hid (mrun (a, b) (O.take (j + 1)) = ⟨(p, q), ah ++ [(c, d)], be⟩) := by show _ = _; rw [HX.out]; unfold mstep; rw [if_pos (show (c, d).2 < (⟨(p, q), ah, be⟩ : M3).s.1 from h1)]
              go_wp2_with (at_builtin; refine wpList_append_lies _ rfl _ _ 23 rfl (wo.heap.size + 1) 29 i1 (.agg #[.int .i64 0, .int .i64 0]) 2 16 Try.underlying23 hi1 hy0 hy1 hy2 rfl (by decide) _ _ _ rfl HI2H.out.a ⟨wr.heap.size + 1, 0, none⟩ 1 1 [.int .i64 c, .int .i64 d] rfl rfl ?c1 ?c2 (by omega) ?c3 ?c4 ?c5 _ rfl ?_)
              case c2 => exact ⟨rfl, rfl⟩
              case c3 => unfold maxLen; omega
              case c4 => omega
              case c5 => omega
              · intro g3 c3 w5 hown' hgrow hat hlt3
                have HN : Hid (IW 29 wo wo.heap.size w5 _ _ _) := HI2H.out.growA g3 _ c3 (c, d) hown' hgrow (hat.imp id (fun h => h.trans (by simp)))
                clear hown' hgrow hat
                go_wp2_with fail
                go_roundw
                case rel => exact ⟨j + 1, by omega, by go_num, by rw [HXX.out]; exact HN.out⟩
                case measure => simp [intOf]; omega
            · by_cases h2 : q < c
              · have HXX : Hid (mrun (a, b) (O.take (j + 1)) = ⟨(p, q), ah, be ++ [(c, d)]⟩) := by show _ = _; rw [HX.out]; unfold mstep; rw [if_neg (show ¬ (c, d).2 < (⟨(p, q), ah, be⟩ : M3).s.1 from h1), if_pos (show (⟨(p, q), ah, be⟩ : M3).s.2 < (c, d).1 from h2)]
                go_wp2_with (at_builtin; refine wpList_append_lies _ rfl _ _ 23 rfl (wo.heap.size + 1) 29 i1 (.agg #[.int .i64 0, .int .i64 0]) 2 16 Try.underlying23 hi1 hy0 hy1 hy2 rfl (by decide) _ _ _ rfl HI2H.out.b ⟨wr.heap.size + 1, 0, none⟩ 1 1 [.int .i64 c, .int .i64 d] rfl rfl ?c1 ?c2 (by omega) ?c3 ?c4 ?c5 _ rfl ?_)
                case c2 => exact ⟨rfl, rfl⟩
                case c3 => unfold maxLen; omega
                case c4 => omega
                case c5 => omega
                · intro g3 c3 w5 hown' hgrow hat hlt3
                  have HN : Hid (IW 29 wo wo.heap.size w5 _ _ _) := HI2H.out.growB g3 _ c3 (c, d) hown' hgrow (hat.imp id (fun h => h.trans (by simp)))
                  clear hown' hgrow hat
                  go_wp2_with fail
                  go_roundw
                  case rel => exact ⟨j + 1, by omega, by go_num, by rw [HXX.out]; exact HN.out⟩
                  case measure => simp [intOf]; omega
              · have HXX : Hid (mrun (a, b) (O.take (j + 1)) = ⟨(min p c, max q d), ah, be⟩) := by show _ = _; rw [HX.out]; unfold mstep; rw [if_neg (show ¬ (c, d).2 < (⟨(p, q), ah, be⟩ : M3).s.1 from h1), if_neg (show ¬ (⟨(p, q), ah, be⟩ : M3).s.2 < (c, d).1 from h2)]
                have HN : Hid (IW 29 wo wo.heap.size _ _ _ ⟨(min p c, max q d), ah, be⟩) := (hiw.out.set (min p c) (max q d)).alloc (.cells #[.int .i64 c, .int .i64 d] 29)
                go_wp2_with fail
                go_roundw
                case rel => exact ⟨j + 1, by omega, by go_num, by rw [HXX.out]; exact HN.out⟩
                case measure => simp [intOf]; omega
          · have hxO : mrun (a, b) O = ⟨(p, q), ah, be⟩ := by
              rw [hx, List.take_of_length_le (by omega)]
            have HMM : Hid (mrgL (ls.take (k + 1)) = ah ++ [(p, q)] ++ be) := by show _ = _; rw [HM.out, hxO]
            clear hx hxO
            have HI2H : Hid (IW 29 wo wo.heap.size _ _ _ _) := hiw.out.alloc (.cells #[.int .i64 p, .int .i64 q] 29)
            obtain ⟨aad, acap, rfl, ham, hanc, _⟩ := own_form2 hiw.out.a
            unfold maxLen at ham
            have hB := hiw.out.b
            go_wp2_with (at_builtin; refine wpList_append_lies _ rfl _ _ 23 rfl (wo.heap.size + 1) 29 i1 (.agg #[.int .i64 0, .int .i64 0]) 2 16 Try.underlying23 hi1 hy0 hy1 hy2 rfl (by decide) _ _ _ rfl HI2H.out.a ⟨wr.heap.size, 0, none⟩ 1 1 [.int .i64 p, .int .i64 q] rfl rfl ?e1 ?e2 (by omega) ?e3 ?e4 ?e5 _ rfl ?_)
            case e2 => exact ⟨rfl, rfl⟩
            case e3 => unfold maxLen; omega
            case e4 => omega
            case e5 => omega
            · intro g3 c3 w5 hown' hgrow hat hlt3
              have HN : Hid (IW 29 wo wo.heap.size w5 _ _ _) := HI2H.out.growA g3 _ c3 (p, q) hown' hgrow (hat.imp id (fun h => h.trans (by simp)))
              clear hown' hgrow hat
              have HB5 : Hid (Below w.heap.size w w5) := HBW.out.trans (HN.out.bel.mono HBW.out.size)
              have hsz5 := HN.out.sz
              have hszo := HBW.out.size
              rcases HN.out.b.2 with ⟨hbv, hb0⟩ | ⟨g4, c4, cur4, hbv, hgb, hg4, hr4⟩
              · subst hbv
                have hbe : be = [] := List.eq_nil_of_length_eq_zero hb0
                subst hbe
                have HA : Hid (w5.ownsRow (wo.heap.size + 1) 29 2 _ (ah ++ [(p, q)]).length (wns (ah ++ [(p, q)]))) := HN.out.a
                go_wp2_with (at_builtin; refine wpList_append_own_none rfl _ _ 23 rfl (wo.heap.size + 1) 29 i1 2 Try.underlying23 hi1 _ _ _ rfl HN.out.a rfl ?_)
                go_wp2_with fail
                go_roundw
                case rel => exact ⟨k + 1, by omega, by go_num, by rw [HMM.out, List.append_nil]; exact own_le HA.out (by omega), HB5.out⟩
                case measure => simp [intOf]; omega
              · subst hbv
                have hla : (ah ++ [(p, q)]).length = ah.length + 1 := by simp
                go_wp2_with (at_builtin; refine wpList_append_own _ rfl _ _ 23 rfl (wo.heap.size + 1) 29 i1 (.agg #[.int .i64 0, .int .i64 0]) 2 16 Try.underlying23 hi1 hy0 hy1 hy2 rfl (by decide) _ _ _ rfl HN.out.a ⟨g4, 0, none⟩ be.length c4 (wns be) rfl (wns_length be) (HN.out.b.cells rfl) (wns_one be) ?g3 ?g4 ?g5 ?_)
                case g3 => unfold maxLen; omega
                case g4 => omega
                case g5 => omega
                · intro v' w6 hown' hgrow _
                  have hB1 : Below w.heap.size w w6 := HB5.out.grown hgrow (by omega) (fun bb hb => by have := (HN.out.a.lt bb hb).1; omega)
                  have hown6 : w6.ownsRow w.heap.size 29 2 v' (mrgL (ls.take (k + 1))).length (wns (mrgL (ls.take (k + 1)))) := by
                    rw [HMM.out, wns_app, List.length_append, hla]; exact own_le hown' (by omega)
                  clear hown' hgrow
                  go_wp2_with fail
                  go_roundw
                  case rel => exact ⟨k + 1, by omega, by go_num, hown6, hB1⟩
                  case measure => simp [intOf]; omega
    · have hEnd : mrgL (ls.take k) = mrgL ls := by rw [List.take_of_length_le (by omega)]
      rw [hEnd] at hown
      go_wp2_with fail
      go_ret
      exact ⟨_, rfl, hown, hw⟩
end Go.Proofs.Ytkmbhgbmdeoppaa
