/-
  The walk through TokenPairs: it answers true and turns nothing that was there; the lists of strings can be read, and the package variable that the library reads holds some number.
-/
import Derived.Test.YtoccjnbodoiibabDoorSpecX
import Derived.Test.YtoccjnbodoiibabDoorWTokens
import Derived.Test.YtoccjnbodoiibabDoorWEqP
namespace Go.Proofs.YtoccjnbodoiibabDoor
open Go.RowKit

theorem qt_plain (l q : List UInt8) (h : qt l = (q, 0)) : allPlain l = true ∧ ¬ 1000 < l.length := by
  unfold qt at h
  split at h
  · simp at h
  · rename_i hl
    split at h
    · rename_i hp; exact ⟨hp, hl⟩
    · simp at h
theorem lit2 : (⟨#[59, 32]⟩ : ByteArray).size = 2 := rfl
theorem lit1 : (⟨#[61]⟩ : ByteArray).size = 1 := rfl
theorem text_data (t nm q vv : ByteArray) (xs : List Pr) (h : t.data.toList = text xs) : (t ++ (⟨#[59, 32]⟩ ++ nm ++ ⟨#[61]⟩ ++ q)).data.toList = text (xs ++ [(Pr.mk nm.data.toList vv.data.toList q.data.toList)]) := by
  rw [text_snoc, ByteArray.data_append, ByteArray.data_append, ByteArray.data_append, ByteArray.data_append, Array.toList_append, Array.toList_append, Array.toList_append, Array.toList_append, h]
  simp [seg]

set_option maxHeartbeats 8000000 in
set_option maxRecDepth 100000 in
theorem walkTokenPairs (a0 : Option Addr) (n0 c0 : Nat) (l0 : List ByteArray) (a1 : Option Addr) (n1 c1 : Nat) (l1 : List ByteArray) (w : World) (z0 : IsStrs w a0 n0 c0 l0) (z1 : IsStrs w a1 n1 c1 l1) (hm : ∃ m, w.cell? ⟨0, 0, none⟩ = some (.int .i64 m)) :
    Calls Tryd.prog 4 #[.slice a0 n0 c0, .slice a1 n1 c1] w fun e w' => e = .returned (.bool true) ∧ Below w.heap.size w w' := by
  obtain ⟨m, hm⟩ := hm
  obtain ⟨i0, hi, hz0, hz1, hz2⟩ := info_parts infoP
  have HM : Hid (w.cell? ⟨0, 0, none⟩ = some (.int .i64 m)) := hm
  obtain ⟨ts, hts⟩ : ∃ ts, ts = toks (elems n0 l0) 8 := ⟨_, rfl⟩
  have HTS : Hid (ts = toks (elems n0 l0) 8) := hts
  have HG : Hid (∀ t ∈ ts, token t = true ∧ t.length ≤ 30) := by
    intro t ht
    rw [hts] at ht
    have := toks_good _ _ t ht
    unfold good at this
    rw [Bool.and_eq_true, decide_eq_true_eq] at this
    exact this
  have hl : ts.length ≤ 8 := by rw [hts]; exact toks_len _ _
  have HI : Hid (IsStrs w a0 n0 c0 l0) := z0
  have HJ : Hid (IsStrs w a1 n1 c1 l1) := z1
  obtain ⟨hn1, hc1, _⟩ := z1.le
  unfold maxLen at hc1
  clear hts z0 z1 hm
  go_enter Tryd.func4, Tryd.ntmps4
  go_wp2_with fail
  refine (tokens_any _ _ _ _ 8 _ HI.out (by omega)).mono ?_
  rintro e w1 ⟨v, rfl, hown0, hb⟩
  rw [← HTS.out] at hown0
  obtain ⟨ad, cap, hv, hcm, hnc, hcells⟩ := own_slice hown0
  subst hv
  unfold maxLen at hcm
  have HCL : Hid (0 < ts.length → ∃ g, ad = some ⟨g, 0, none⟩ ∧ w.heap.size ≤ g ∧ g < w1.heap.size ∧ ∀ j, j < ts.length → w1.cell? ⟨g, j, none⟩ = (strs ts)[j]?) := hcells
  have hbs := hb.size
  have HB : Hid (Below w.heap.size w w1) := hb
  clear hcells hown0 hb
  go_wp2_with fail
  go_loopw [5, 6, 19] (fun sv v i wr => ∃ (k : Nat) (xs : List Pr) (t : ByteArray), k ≤ ts.length ∧ i = .int .i64 k ∧ sv = .string t ∧ t.data.toList = text xs ∧ t.size ≤ 840 ∧ xs.length ≤ k ∧ (∀ x ∈ xs, PrOk x) ∧ wr.ownsRow w1.heap.size 28 2 v xs.length (pars (xs.map par)) ∧ Below w1.heap.size w1 wr) (fun _ _ i _ => ts.length - (intOf i).toNat)
  case atStart => exact ⟨0, [], ⟨#[118, 97, 108, 117, 101]⟩, by omega, rfl, rfl, rfl, by decide, by simp, fun x hx => (by cases hx), World.ownsRow_nil _ _ _ _, Below.refl _ _⟩
  case round =>
    obtain ⟨k, xs, t, hk, rfl, rfl, ht, hts, hxl, hok, hown, hw⟩ := hrel
    have HT : Hid (t.data.toList = text xs) := ht
    have HOK : Hid (∀ x ∈ xs, PrOk x) := hok
    have hsz := hw.size
    clear ht hok
    by_cases hlt : k < ts.length
    · obtain ⟨g, rfl, hgB, hgs, hce⟩ := HCL.out (by omega)
      have hcell : wr.cell? ⟨g, k, none⟩ = some (.string ⟨(ts[k]).toArray⟩) := by
        rw [hw.cell (p := ⟨g, k, none⟩) hgs, hce k hlt]
        exact strs_get ts k hlt
      obtain ⟨nm, hnm⟩ : ∃ nm : ByteArray, nm = ⟨(ts[k]).toArray⟩ := ⟨_, rfl⟩
      rw [← hnm] at hcell
      obtain ⟨hg1, hg2⟩ := HG.out ts[k] (List.getElem_mem hlt)
      have HNT : Hid (token nm.data.toList = true) := by show _ = _; rw [hnm]; exact hg1
      have hns : nm.size ≤ 30 := by rw [hnm, ← size_list]; exact hg2
      obtain ⟨lw, hlw⟩ : ∃ lw : ByteArray, lw = ⟨(lower nm.data.toList).toArray⟩ := ⟨_, rfl⟩
      have HLW : Hid ((⟨(lower nm.data.toList).toArray⟩ : ByteArray) = lw) := hlw.symm
      clear hce hnm hg1 hg2 hlw
      by_cases hkv : (k : Int) < (n1 : Int)
      · obtain ⟨b1, off1, rfl, hb1s, hce1, hes1⟩ := HJ.out.cell k (by omega)
        obtain ⟨vv, hvv⟩ : ∃ vv : ByteArray, vv = l1.getD k ByteArray.empty := ⟨_, rfl⟩
        rw [← hvv] at hce1 hes1
        have hcv : wr.cell? ⟨b1, off1 + k, none⟩ = some (.string vv) := by
          rw [hw.cell (p := ⟨b1, off1 + k, none⟩) (by simp only; omega), HB.out.cell (p := ⟨b1, off1 + k, none⟩) hb1s]; exact hce1
        clear hvv hce1
        obtain ⟨q, en, hqq⟩ : ∃ (q : ByteArray) (en : Int), qt vv.data.toList = (q.data.toList, en) := ⟨⟨(qt vv.data.toList).1.toArray⟩, (qt vv.data.toList).2, rfl⟩
        have HQ : Hid (qt vv.data.toList = (q.data.toList, en)) := hqq
        rcases qt_cases _ _ _ hqq with ⟨hne, hq0⟩ | ⟨hne, hql, hqe⟩
        · have hd1 : (en != 0) = true := by simp [hne]
          clear hne hq0 hqq
          go_wp2_with fail
          refine (quote_at _ q en HQ.out _).mono ?_
          rintro e w2 ⟨rfl, hb2⟩
          have hown2 := own_below3 hown hb2
          have hw2 := hw.trans (hb2.mono hw.size)
          have hw2s := hw2.size
          clear hown hw hb2 hcell hcv
          go_wp2_with fail
          go_roundw
          case rel => exact ⟨k + 1, xs, t, by omega, by go_num, rfl, HT.out, hts, by omega, HOK.out, hown2, hw2⟩
          case measure => simp [intOf]; omega
        · subst hne
          have hqs : q.size ≤ 2002 := by rw [← size_list]; exact hql
          have hpl := qt_plain _ _ hqq
          have hvs : vv.size ≤ 1000 := by rw [← size_list]; omega
          have HVM : Hid (vv.size ≤ maxLen) := by show vv.size ≤ maxLen; unfold maxLen; omega
          have hvq : vv.size + 2 ≤ q.size := by
            have h1 := congrArg List.length hqe
            have h2 := esc_len vv.data.toList
            rw [size_list] at h1 h2
            simp at h1
            omega
          clear hqq hql
          by_cases hbig : 800 < (t.size : Int) + (q.size : Int)
          · clear hqe hpl
            go_wp2_with fail
            refine (quote_at _ q 0 HQ.out _).mono ?_
            rintro e w2 ⟨rfl, hb2⟩
            have hown2 := own_below3 hown hb2
            have hw2 := hw.trans (hb2.mono hw.size)
            have hw2s := hw2.size
            clear hown hw hb2 hcell hcv
            go_wp2_with fail
            go_roundw
            case rel => exact ⟨k + 1, xs, t, by omega, by go_num, rfl, HT.out, hts, by omega, HOK.out, hown2, hw2⟩
            case measure => simp [intOf]; omega
          · cases htk : token vv.data.toList
            · have HTK : Hid (token vv.data.toList = false) := htk
              have HPR : Hid (PrOk (Pr.mk nm.data.toList vv.data.toList q.data.toList)) := ⟨HNT.out, .inr ⟨hqe, hpl.1, hpl.2⟩⟩
              clear htk hqe hpl
              go_wp2_with fail
              refine (quote_at _ q 0 HQ.out _).mono ?_
              rintro e w2 ⟨rfl, hb2⟩
              have hown2 := own_below3 hown hb2
              have hw2 := hw.trans (hb2.mono hw.size)
              have hw2s := hw2.size
              clear hown hw hb2 hcell hcv
              go_wp2_with fail
              refine (isToken_any _ _ HVM.out).mono ?_
              rintro e w9 ⟨rfl, rfl⟩
              rw [HTK.out]
              go_wp2_with fail
              refine (lower_any _ _ (by omega)).mono ?_
              rintro e w3 ⟨rfl, hb3⟩
              rw [HLW.out]
              have hown3 := own_below3 hown2 hb3
              have hw3 := hw2.trans (hb3.mono hw2s)
              have hw3s := hw3.size
              clear hown2 hw2 hb3
              go_wp2_with (at_builtin; refine wpList_append_own _ rfl _ _ 22 rfl w1.heap.size 28 i0 (.agg #[.string ⟨#[]⟩, .string ⟨#[]⟩]) 2 32 Tryd.underlying22 hi hz0 hz1 hz2 rfl (by decide) _ _ _ rfl (hown3.alloc _) ⟨w3.heap.size, 0, none⟩ 1 1 [.string lw, .string vv] rfl rfl ?c1p1 ?c2p1 ?c3p1 ?c4p1 ?c5p1 ?_)
              case c1p1 => exact two_cell _ _ _ _
              case c2p1 => intro x hx; simp at hx; rcases hx with rfl | rfl <;> rfl
              case c3p1 => unfold maxLen; omega
              case c4p1 => omega
              case c5p1 => simp; omega
              · intro v' w4 hown' hgrow _
                have hB : Below w1.heap.size w1 w4 := (hw3.alloc (by omega) _).grown hgrow (by simp; omega) (fun b hb => ((hown3.alloc (.cells #[.string lw, .string vv] 28)).lt b hb).1)
                have hown4 : w4.ownsRow w1.heap.size 28 2 v' (xs ++ [(Pr.mk nm.data.toList vv.data.toList q.data.toList)]).length (pars ((xs ++ [(Pr.mk nm.data.toList vv.data.toList q.data.toList)]).map par)) := by
                  rw [List.map_append, List.map_singleton, ← pars_snoc, List.length_append]
                  have e1 : (⟨(par (Pr.mk nm.data.toList vv.data.toList q.data.toList)).1.toArray⟩ : ByteArray) = lw := HLW.out
                  rw [e1]
                  exact hown'
                clear hown' hgrow hown3 hw3
                go_wp2_with fail
                go_roundw
                case rel =>
                  refine ⟨k + 1, xs ++ [(Pr.mk nm.data.toList vv.data.toList q.data.toList)], _, by omega, by go_num, rfl, ?_, ?_, ?_, ?_, hown4, hB⟩
                  · exact text_data t nm q vv xs HT.out
                  · simp only [ByteArray.size_append, lit2, lit1]; omega
                  · simp; omega
                  · intro x hx
                    simp only [List.mem_append, List.mem_singleton] at hx
                    rcases hx with hx | rfl
                    · exact HOK.out x hx
                    · exact HPR.out
                case measure => simp [intOf]; omega
            · have HTK : Hid (token vv.data.toList = true) := htk
              by_cases hev : k % 2 = 0
              · have hd2 : ((k : Int) % 2 == 0) = true := by rw [beq_iff_eq]; omega
                have HPR : Hid (PrOk (Pr.mk nm.data.toList vv.data.toList vv.data.toList)) := ⟨HNT.out, .inl ⟨rfl, htk⟩⟩
                clear htk hqe hpl hev
                go_wp2_with fail
                refine (quote_at _ q 0 HQ.out _).mono ?_
                rintro e w2 ⟨rfl, hb2⟩
                have hown2 := own_below3 hown hb2
                have hw2 := hw.trans (hb2.mono hw.size)
                have hw2s := hw2.size
                clear hown hw hb2 hcell hcv
                go_wp2_with fail
                refine (isToken_any _ _ HVM.out).mono ?_
                rintro e w9 ⟨rfl, rfl⟩
                rw [HTK.out]
                go_wp2_with fail
                refine (lower_any _ _ (by omega)).mono ?_
                rintro e w3 ⟨rfl, hb3⟩
                rw [HLW.out]
                have hown3 := own_below3 hown2 hb3
                have hw3 := hw2.trans (hb3.mono hw2s)
                have hw3s := hw3.size
                clear hown2 hw2 hb3
                go_wp2_with (at_builtin; refine wpList_append_own _ rfl _ _ 22 rfl w1.heap.size 28 i0 (.agg #[.string ⟨#[]⟩, .string ⟨#[]⟩]) 2 32 Tryd.underlying22 hi hz0 hz1 hz2 rfl (by decide) _ _ _ rfl (hown3.alloc _) ⟨w3.heap.size, 0, none⟩ 1 1 [.string lw, .string vv] rfl rfl ?c1p2 ?c2p2 ?c3p2 ?c4p2 ?c5p2 ?_)
                case c1p2 => exact two_cell _ _ _ _
                case c2p2 => intro x hx; simp at hx; rcases hx with rfl | rfl <;> rfl
                case c3p2 => unfold maxLen; omega
                case c4p2 => omega
                case c5p2 => simp; omega
                · intro v' w4 hown' hgrow _
                  have hB : Below w1.heap.size w1 w4 := (hw3.alloc (by omega) _).grown hgrow (by simp; omega) (fun b hb => ((hown3.alloc (.cells #[.string lw, .string vv] 28)).lt b hb).1)
                  have hown4 : w4.ownsRow w1.heap.size 28 2 v' (xs ++ [(Pr.mk nm.data.toList vv.data.toList vv.data.toList)]).length (pars ((xs ++ [(Pr.mk nm.data.toList vv.data.toList vv.data.toList)]).map par)) := by
                    rw [List.map_append, List.map_singleton, ← pars_snoc, List.length_append]
                    have e1 : (⟨(par (Pr.mk nm.data.toList vv.data.toList vv.data.toList)).1.toArray⟩ : ByteArray) = lw := HLW.out
                    rw [e1]
                    exact hown'
                  clear hown' hgrow hown3 hw3
                  go_wp2_with fail
                  go_roundw
                  case rel =>
                    refine ⟨k + 1, xs ++ [(Pr.mk nm.data.toList vv.data.toList vv.data.toList)], _, by omega, by go_num, rfl, ?_, ?_, ?_, ?_, hown4, hB⟩
                    · exact text_data t nm vv vv xs HT.out
                    · simp only [ByteArray.size_append, lit2, lit1]; omega
                    · simp; omega
                    · intro x hx
                      simp only [List.mem_append, List.mem_singleton] at hx
                      rcases hx with hx | rfl
                      · exact HOK.out x hx
                      · exact HPR.out
                  case measure => simp [intOf]; omega
              · have hd2 : ((k : Int) % 2 == 0) = false := by rw [beq_eq_false_iff_ne]; omega
                have HPR : Hid (PrOk (Pr.mk nm.data.toList vv.data.toList q.data.toList)) := ⟨HNT.out, .inr ⟨hqe, hpl.1, hpl.2⟩⟩
                clear htk hqe hpl hev
                go_wp2_with fail
                refine (quote_at _ q 0 HQ.out _).mono ?_
                rintro e w2 ⟨rfl, hb2⟩
                have hown2 := own_below3 hown hb2
                have hw2 := hw.trans (hb2.mono hw.size)
                have hw2s := hw2.size
                clear hown hw hb2 hcell hcv
                go_wp2_with fail
                refine (isToken_any _ _ HVM.out).mono ?_
                rintro e w9 ⟨rfl, rfl⟩
                rw [HTK.out]
                go_wp2_with fail
                refine (lower_any _ _ (by omega)).mono ?_
                rintro e w3 ⟨rfl, hb3⟩
                rw [HLW.out]
                have hown3 := own_below3 hown2 hb3
                have hw3 := hw2.trans (hb3.mono hw2s)
                have hw3s := hw3.size
                clear hown2 hw2 hb3
                go_wp2_with (at_builtin; refine wpList_append_own _ rfl _ _ 22 rfl w1.heap.size 28 i0 (.agg #[.string ⟨#[]⟩, .string ⟨#[]⟩]) 2 32 Tryd.underlying22 hi hz0 hz1 hz2 rfl (by decide) _ _ _ rfl (hown3.alloc _) ⟨w3.heap.size, 0, none⟩ 1 1 [.string lw, .string vv] rfl rfl ?c1p3 ?c2p3 ?c3p3 ?c4p3 ?c5p3 ?_)
                case c1p3 => exact two_cell _ _ _ _
                case c2p3 => intro x hx; simp at hx; rcases hx with rfl | rfl <;> rfl
                case c3p3 => unfold maxLen; omega
                case c4p3 => omega
                case c5p3 => simp; omega
                · intro v' w4 hown' hgrow _
                  have hB : Below w1.heap.size w1 w4 := (hw3.alloc (by omega) _).grown hgrow (by simp; omega) (fun b hb => ((hown3.alloc (.cells #[.string lw, .string vv] 28)).lt b hb).1)
                  have hown4 : w4.ownsRow w1.heap.size 28 2 v' (xs ++ [(Pr.mk nm.data.toList vv.data.toList q.data.toList)]).length (pars ((xs ++ [(Pr.mk nm.data.toList vv.data.toList q.data.toList)]).map par)) := by
                    rw [List.map_append, List.map_singleton, ← pars_snoc, List.length_append]
                    have e1 : (⟨(par (Pr.mk nm.data.toList vv.data.toList q.data.toList)).1.toArray⟩ : ByteArray) = lw := HLW.out
                    rw [e1]
                    exact hown'
                  clear hown' hgrow hown3 hw3
                  go_wp2_with fail
                  go_roundw
                  case rel =>
                    refine ⟨k + 1, xs ++ [(Pr.mk nm.data.toList vv.data.toList q.data.toList)], _, by omega, by go_num, rfl, ?_, ?_, ?_, ?_, hown4, hB⟩
                    · exact text_data t nm q vv xs HT.out
                    · simp only [ByteArray.size_append, lit2, lit1]; omega
                    · simp; omega
                    · intro x hx
                      simp only [List.mem_append, List.mem_singleton] at hx
                      rcases hx with hx | rfl
                      · exact HOK.out x hx
                      · exact HPR.out
                  case measure => simp [intOf]; omega
      · obtain ⟨vv, hvv⟩ : ∃ vv : ByteArray, vv = ⟨#[]⟩ := ⟨_, rfl⟩
        have HVV : Hid ((⟨#[]⟩ : ByteArray) = vv) := hvv.symm
        obtain ⟨q, en, hqq⟩ : ∃ (q : ByteArray) (en : Int), qt vv.data.toList = (q.data.toList, en) := ⟨⟨(qt vv.data.toList).1.toArray⟩, (qt vv.data.toList).2, rfl⟩
        have HQ : Hid (qt vv.data.toList = (q.data.toList, en)) := hqq
        have hee : q.data.toList = [34, 34] ∧ en = 0 := by
          rw [hvv] at hqq
          have e : qt (⟨#[]⟩ : ByteArray).data.toList = ([34, 34], 0) := rfl
          rw [e, Prod.mk.injEq] at hqq
          exact ⟨hqq.1.symm, hqq.2.symm⟩
        obtain ⟨hqe, rfl⟩ := hee
        have hqs : q.size = 2 := by rw [← size_list, hqe]; rfl
        have HTK : Hid (token vv.data.toList = false) := by show _ = _; rw [hvv]; rfl
        have HVM : Hid (vv.size ≤ maxLen) := by show vv.size ≤ maxLen; rw [hvv]; decide
        have HPR : Hid (PrOk (Pr.mk nm.data.toList vv.data.toList q.data.toList)) := ⟨HNT.out, .inr ⟨by show q.data.toList = _; rw [hqe, hvv]; rfl, by show allPlain vv.data.toList = true; rw [hvv]; rfl, by show ¬ 1000 < vv.data.toList.length; rw [hvv]; decide⟩⟩
        have hqs' : q.size ≤ 2002 := by omega
        clear hqq hqe hvv
        by_cases hbig : 800 < (t.size : Int) + (q.size : Int)
        · go_wp2_with fail
          rw [HVV.out]
          refine (quote_at _ q 0 HQ.out _).mono ?_
          rintro e w2 ⟨rfl, hb2⟩
          have hown2 := own_below3 hown hb2
          have hw2 := hw.trans (hb2.mono hw.size)
          have hw2s := hw2.size
          clear hown hw hb2 hcell
          go_wp2_with fail
          go_roundw
          case rel => exact ⟨k + 1, xs, t, by omega, by go_num, rfl, HT.out, hts, by omega, HOK.out, hown2, hw2⟩
          case measure => simp [intOf]; omega
        · go_wp2_with fail
          rw [HVV.out]
          refine (quote_at _ q 0 HQ.out _).mono ?_
          rintro e w2 ⟨rfl, hb2⟩
          have hown2 := own_below3 hown hb2
          have hw2 := hw.trans (hb2.mono hw.size)
          have hw2s := hw2.size
          clear hown hw hb2 hcell
          go_wp2_with fail
          refine (isToken_any _ _ HVM.out).mono ?_
          rintro e w9 ⟨rfl, rfl⟩
          rw [HTK.out]
          go_wp2_with fail
          refine (lower_any _ _ (by omega)).mono ?_
          rintro e w3 ⟨rfl, hb3⟩
          rw [HLW.out]
          have hown3 := own_below3 hown2 hb3
          have hw3 := hw2.trans (hb3.mono hw2s)
          have hw3s := hw3.size
          clear hown2 hw2 hb3
          go_wp2_with (at_builtin; refine wpList_append_own _ rfl _ _ 22 rfl w1.heap.size 28 i0 (.agg #[.string ⟨#[]⟩, .string ⟨#[]⟩]) 2 32 Tryd.underlying22 hi hz0 hz1 hz2 rfl (by decide) _ _ _ rfl (hown3.alloc _) ⟨w3.heap.size, 0, none⟩ 1 1 [.string lw, .string vv] rfl rfl ?c1p4 ?c2p4 ?c3p4 ?c4p4 ?c5p4 ?_)
          case c1p4 => exact two_cell _ _ _ _
          case c2p4 => intro x hx; simp at hx; rcases hx with rfl | rfl <;> rfl
          case c3p4 => unfold maxLen; omega
          case c4p4 => omega
          case c5p4 => simp; omega
          · intro v' w4 hown' hgrow _
            have hB : Below w1.heap.size w1 w4 := (hw3.alloc (by omega) _).grown hgrow (by simp; omega) (fun b hb => ((hown3.alloc (.cells #[.string lw, .string vv] 28)).lt b hb).1)
            have hown4 : w4.ownsRow w1.heap.size 28 2 v' (xs ++ [(Pr.mk nm.data.toList vv.data.toList q.data.toList)]).length (pars ((xs ++ [(Pr.mk nm.data.toList vv.data.toList q.data.toList)]).map par)) := by
              rw [List.map_append, List.map_singleton, ← pars_snoc, List.length_append]
              have e1 : (⟨(par (Pr.mk nm.data.toList vv.data.toList q.data.toList)).1.toArray⟩ : ByteArray) = lw := HLW.out
              rw [e1]
              exact hown'
            clear hown' hgrow hown3 hw3
            go_wp2_with fail
            go_roundw
            case rel =>
              refine ⟨k + 1, xs ++ [(Pr.mk nm.data.toList vv.data.toList q.data.toList)], _, by omega, by go_num, rfl, ?_, ?_, ?_, ?_, hown4, hB⟩
              · exact text_data t nm q vv xs HT.out
              · simp only [ByteArray.size_append, lit2, lit1]; omega
              · simp; omega
              · intro x hx
                simp only [List.mem_append, List.mem_singleton] at hx
                rcases hx with hx | rfl
                · exact HOK.out x hx
                · exact HPR.out
            case measure => simp [intOf]; omega
    · have HFIN : Hid (paramsS t.data.toList = (value, xs.map par, 0)) := by
        show _ = _
        rw [HT.out]
        exact params_text xs HOK.out (by rw [← HT.out, size_list]; omega) (by omega)
      have HM1 : Hid (wr.cell? ⟨0, 0, none⟩ = some (.int .i64 m)) := cell_keep (HB.out.trans (hw.mono hbs)) HM.out
      go_wp2_with fail
      refine (params_any _ m _ HM1.out).mono ?_
      rintro e w2 ⟨v2, rfl, hown2, hb2⟩
      rw [HFIN.out] at hown2 ⊢
      have hown3 := own_below3 hown hb2
      have hw2 := (HB.out.trans (hw.mono hbs)).trans (hb2.mono (Nat.le_trans hbs hsz))
      clear hown hb2
      go_wp2_with fail
      refine (eqP_same _ _ (xs.map par) _ _ _ (by simp; omega) hown2 (by rw [List.length_map]; exact hown3)).mono ?_
      rintro e w3 ⟨rfl, hb3⟩
      go_wp2_with fail
      go_ret
      exact ⟨rfl, hw2.trans (hb3.mono hw2.size)⟩
end Go.Proofs.YtoccjnbodoiibabDoor
