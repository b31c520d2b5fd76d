/-
  What FieldParse of the document's answers computes; the text has less than 2^32 - 15 bytes, and the package variable that the library reads holds some number.
-/
import Derived.Test.YtofafonppajfkaaDoorWParse
import Derived.Test.YtofafonppajfkaaDoorWRChk
import Derived.Test.YtofafonppajfkaaDoorWRLine
namespace Go.Proofs.YtofafonppajfkaaDoor
open Go.RowKit

theorem rdF_tok (l : List UInt8) (k : Nat) (h : Lib.index l [58] = k) (ht : token (l.take k) = false) : rdF l = (([], []), 3) := by
  have e := chk1_tok (l.take k, trimL (l.drop (k + 1))) ht
  rw [rdF_bad l k h (by rw [e]; decide), e]
theorem ext_drop (s r : ByteArray) (n : Nat) (h : r = s.extract n s.size) : r.data.toList = s.data.toList.drop n := by
  rw [h, Lib.extract_data, List.take_of_length_le (by rw [List.length_drop, size_list]; omega)]
theorem ext_take (s r : ByteArray) (n : Nat) (h : r = s.extract 0 n) : r.data.toList = s.data.toList.take n := by
  rw [h, Lib.extract_data, List.drop_zero]; rfl

theorem pair_set {w : World} {g : Nat} {t : TypeId} {n u a b : Value} (h : w.heap[g]? = some (.cells #[n, u] t (0, 0))) : ((w.setCell ⟨g, 0, none⟩ a).setCell ⟨g, 1, none⟩ b).heap[g]? = some (.cells #[a, b] t (0, 0)) := by
  rw [heap_setCell_same _ g 1 _ t b (heap_setCell_same w g 0 _ t a h)]
  rfl

set_option maxHeartbeats 8000000 in
set_option maxRecDepth 100000 in
theorem rparse_any (s : ByteArray) (m : Int) (w : World) (hm : w.cell? ⟨0, 0, none⟩ = some (.int .i64 m)) (hs : s.size < 4294967281) :
    Calls Tryd.prog 34 #[.string s] w fun e w' => ∃ v, e = .returned (.tuple #[v, .int .i64 (parN s.data.toList), .int .i64 (parS s.data.toList []).2.2]) ∧
      w'.ownsRow w.heap.size 72 2 v (parS s.data.toList []).1.length (flds (parS s.data.toList []).1) ∧ Below w.heap.size w w' := by
  obtain ⟨i0, hi, hz0, hz1, hz2⟩ := info_parts infoF
  have HM : Hid (w.cell? ⟨0, 0, none⟩ = some (.int .i64 m)) := hm
  clear hm
  have hsl := size_list s
  have HSL : Hid (s.data.toList.length = s.size) := hsl
  clear hsl
  go_enter Tryd.func34, Tryd.ntmps34
  go_wp2_with fail
  go_loopw [5, 6] (fun v av wr => ∃ (n : Nat) (ps : List Fld), av = .int .i64 n ∧ n ≤ s.size ∧ parS (s.data.toList.drop n) ps = parS s.data.toList [] ∧ ps.length ≤ 30 ∧ wr.ownsRow w.heap.size 72 2 v ps.length (flds ps) ∧ Below w.heap.size w wr) (fun _ av _ => s.size - (intOf av).toNat)
  case atStart => exact ⟨0, [], rfl, Nat.zero_le _, by rw [List.drop_zero], by simp, World.ownsRow_nil _ _ _ _, Below.refl _ _⟩
  case round =>
    obtain ⟨n, ps, rfl, hns, hpar, hpl, hown, hw⟩ := hrel
    obtain ⟨r, hr⟩ : ∃ r : ByteArray, r = s.extract n s.size := ⟨_, rfl⟩
    have hrd := ext_drop s r n hr
    have HRR : Hid (s.extract n s.size = r) := hr.symm
    have HRD : Hid (r.data.toList = s.data.toList.drop n) := hrd
    have HPAR : Hid (parS r.data.toList ps = parS s.data.toList []) := by show _ = _; rw [hrd]; exact hpar
    have hrs : r.size = s.size - n := by rw [hr, ByteArray.size_extract]; omega
    have hrl := size_list r
    clear hpar hrd hr
    have hsz := hw.size
    have HMr : Hid (wr.cell? ⟨0, 0, none⟩ = some (.int .i64 m)) := cell_keep hw HM.out
    obtain ⟨ad, cap, hv, hcm, hnc, hcx⟩ := own_form2 hown
    subst hv
    clear hcx
    unfold maxLen at hcm
    have hni : (n : Int) ≤ (s.size : Int) := by omega
    rcases index_two' r.data.toList [13, 10] with hix | ⟨k, hix, hk⟩
    · obtain ⟨c, hc⟩ : ∃ c : Int, c = if 1101 < r.data.toList.length then 2 else 8 := ⟨_, rfl⟩
      have HIX : Hid (Lib.index r.data.toList [13, 10] = -1) := hix
      have HC : Hid ((if 1101 < r.data.toList.length then 2 else 8 : Int) = c) := hc.symm
      have HR : Hid (parS s.data.toList [] = ([], [], c)) := by show _ = _; rw [← HPAR.out, par_none _ _ hix, hc]
      have hcb : (c != 0) = true := by rw [hc]; split <;> rfl
      have HC0 : Hid (c ≠ 0) := by show _ ≠ _; rw [hc]; split <;> decide
      clear hix hc hrl
      go_wp2_with fail
      rw [HRR.out]
      refine (lineOf_no r 1100 (by omega) HIX.out m _ HMr.out (by omega)).mono ?_
      rintro e w1 ⟨rfl, rfl⟩
      rw [HC.out]
      go_wp2_with fail
      go_ret3
      refine ⟨.slice none 0 0, ret_three ?_ (by rw [HR.out]), by rw [HR.out]; exact World.ownsRow_nil _ _ _ _, hw⟩
      unfold parN; rw [HR.out, if_neg HC0.out]
    · replace hk : k + 2 ≤ r.size := by simpa using hk
      have HIX : Hid (Lib.index r.data.toList [13, 10] = k) := hix
      have HB : Hid (s.data.toList.drop (n + (k + 2)) = r.data.toList.drop (k + 2)) := by show _ = _; rw [HRD.out, List.drop_drop]
      by_cases hk1 : 1100 < k
      · have HR : Hid (parS s.data.toList [] = ([], [], 2)) := by show _ = _; rw [← HPAR.out]; exact par_large _ _ k HIX.out (by omega) (.inl hk1)
        clear hix hrl
        go_wp2_with fail
        rw [HRR.out]
        refine (lineOf_large r 1100 k HIX.out hk1 m _ HMr.out (by omega)).mono ?_
        rintro e w1 ⟨rfl, rfl⟩
        go_wp2_with fail
        go_ret3
        refine ⟨.slice none 0 0, ret_three ?_ (by rw [HR.out]), by rw [HR.out]; exact World.ownsRow_nil _ _ _ _, hw⟩
        unfold parN; rw [HR.out, if_neg (by decide)]
      · by_cases hk0 : k = 0
        · subst hk0
          have HA : Hid ((⟨#[]⟩ : ByteArray).data.toList = r.data.toList.take 0) := by show _ = _; simp
          have HR : Hid (parS s.data.toList [] = (ps, s.data.toList.drop (n + 2), 0)) := by show _ = _; rw [← HPAR.out, par_end _ _ hix, HRD.out, List.drop_drop]
          clear hix hrl
          go_wp2_with fail
          rw [HRR.out]
          refine (lineOf_yes r ⟨#[]⟩ 1100 0 HIX.out (by omega) hk HA.out m _ HMr.out (by omega)).mono ?_
          rintro e w1 ⟨rfl, rfl⟩
          go_wp2_with fail
          go_ret3
          refine ⟨_, ret_three ?_ (by rw [HR.out]), by rw [HR.out]; exact hown, hw⟩
          unfold parN; rw [HR.out, if_pos rfl, List.length_drop, HSL.out]
          omega
        · obtain ⟨a, ha⟩ : ∃ a : ByteArray, a.data.toList = r.data.toList.take k := ⟨⟨(r.data.toList.take k).toArray⟩, rfl⟩
          have HA : Hid (a.data.toList = r.data.toList.take k) := ha
          have has : a.size = k := by rw [← size_list, ha, List.length_take, hrl]; omega
          have hem : a.toList.isEmpty = false := by
            rw [ByteArray.toList_eq, isEmpty_size, has]; simp [hk0]
          clear ha hrl hix
          by_cases h2 : 29 < (ps.length : Int)
          · have HR : Hid (parS s.data.toList [] = ([], [], 2)) := by show _ = _; rw [← HPAR.out]; exact par_large _ _ k HIX.out hk0 (.inr (by omega))
            go_wp2_with fail
            rw [HRR.out]
            refine (lineOf_yes r a 1100 k HIX.out (by omega) hk HA.out m _ HMr.out (by omega)).mono ?_
            rintro e w1 ⟨rfl, rfl⟩
            go_wp2_with fail
            go_ret3
            refine ⟨.slice none 0 0, ret_three ?_ (by rw [HR.out]), by rw [HR.out]; exact World.ownsRow_nil _ _ _ _, hw⟩
            unfold parN; rw [HR.out, if_neg (by decide)]
          · have hnl : ¬ (1100 < k ∨ 30 ≤ ps.length) := by omega
            rcases index_two' a.data.toList [58] with hjx | ⟨j, hjx, hj⟩
            · have HJX : Hid (Lib.index a.data.toList (⟨#[58]⟩ : ByteArray).data.toList = -1) := hjx
              have HR : Hid (parS s.data.toList [] = ([], [], 3)) := by
                show _ = _
                rw [← HPAR.out, par_bad _ _ k HIX.out hk0 hnl (by rw [← HA.out, rdF_no _ hjx]; decide), ← HA.out, rdF_no _ hjx]
              clear hjx hnl
              go_wp2_with fail
              rw [HRR.out]
              refine (lineOf_yes r a 1100 k HIX.out (by omega) hk HA.out m _ HMr.out (by omega)).mono ?_
              rintro e w1 ⟨rfl, rfl⟩
              go_wp2_with fail
              refine (index_at a _ (-1) HJX.out m _ HMr.out (by omega)).mono ?_
              rintro e w2 ⟨rfl, rfl⟩
              go_wp2_with fail
              go_ret3
              refine ⟨.slice none 0 0, ret_three ?_ (by rw [HR.out]), by rw [HR.out]; exact World.ownsRow_nil _ _ _ _, hw⟩
              unfold parN; rw [HR.out, if_neg (by decide)]
            · replace hj : j + 1 ≤ a.size := by simpa using hj
              have HJX : Hid (Lib.index a.data.toList (⟨#[58]⟩ : ByteArray).data.toList = j) := hjx
              obtain ⟨x, hx⟩ : ∃ x : ByteArray, x = a.extract 0 j := ⟨_, rfl⟩
              have HX : Hid (a.extract 0 j = x) := hx.symm
              have HXD : Hid (x.data.toList = a.data.toList.take j) := ext_take a x j hx
              have hxs : x.size ≤ 1100 := by rw [hx, ByteArray.size_extract]; omega
              have HXM : Hid (x.size ≤ maxLen) := by show _ ≤ _; unfold maxLen; omega
              have hj0 : decide ((j : Int) < 0) = false := decide_eq_false (by omega)
              clear hx
              cases htk : token x.data.toList
              · have HTK : Hid (token x.data.toList = false) := htk
                have HR : Hid (parS s.data.toList [] = ([], [], 3)) := by
                  have e := rdF_tok a.data.toList j hjx (by rw [← HXD.out]; exact htk)
                  show _ = _
                  rw [← HPAR.out, par_bad _ _ k HIX.out hk0 hnl (by rw [← HA.out, e]; decide), ← HA.out, e]
                clear hjx hnl htk
                go_wp2_with fail
                rw [HRR.out]
                refine (lineOf_yes r a 1100 k HIX.out (by omega) hk HA.out m _ HMr.out (by omega)).mono ?_
                rintro e w1 ⟨rfl, rfl⟩
                go_wp2_with fail
                refine (index_at a _ j HJX.out m _ HMr.out (by omega)).mono ?_
                rintro e w2 ⟨rfl, rfl⟩
                go_wp2_with fail
                rw [HX.out]
                refine (rtoken_any x _ HXM.out).mono ?_
                rintro e w3 ⟨rfl, rfl⟩
                rw [HTK.out]
                go_wp2_with fail
                go_ret3
                refine ⟨.slice none 0 0, ret_three ?_ (by rw [HR.out]), by rw [HR.out]; exact World.ownsRow_nil _ _ _ _, hw⟩
                unfold parN; rw [HR.out, if_neg (by decide)]
              · have HTK : Hid (token x.data.toList = true) := htk
                obtain ⟨bb, hbb⟩ : ∃ bb : ByteArray, bb = a.extract (j + 1) a.size := ⟨_, rfl⟩
                have HBB : Hid (a.extract (j + 1) a.size = bb) := hbb.symm
                have HBD : Hid (bb.data.toList = a.data.toList.drop (j + 1)) := ext_drop a bb (j + 1) hbb
                have hbs : bb.size ≤ 1100 := by rw [hbb, ByteArray.size_extract]; omega
                obtain ⟨t, ht⟩ : ∃ t : ByteArray, t.data.toList = trimL bb.data.toList := ⟨⟨(trimL bb.data.toList).toArray⟩, rfl⟩
                have HT : Hid (t.data.toList = trimL bb.data.toList) := ht
                have hts : t.size ≤ 1100 := by rw [← size_list, ht]; have := trimL_len bb.data.toList; rw [size_list] at this; omega
                have HTM : Hid (t.size ≤ maxLen) := by show _ ≤ _; unfold maxLen; omega
                obtain ⟨c, hc⟩ : ∃ c, c = chk1 (x.data.toList, t.data.toList) := ⟨_, rfl⟩
                have HC : Hid (chk1 (x.data.toList, t.data.toList) = c) := hc.symm
                have HJ : Hid (Lib.index a.data.toList [58] = j) := hjx
                have HNL : Hid (¬ (1100 < k ∨ 30 ≤ ps.length)) := hnl
                have has2 : a.size ≤ 1100 := by omega
                have hsm : n + (k + 2) ≤ s.size := by omega
                clear hbb ht hc htk hjx hnl has
                have hj1 : (j : Int) ≤ (a.size : Int) := by omega
                have hj2 : (j : Int) + 1 ≤ (a.size : Int) := by omega
                have hj3 : (0 : Int) ≤ (j : Int) + 1 := by omega
                have hwr : IntKind.i64.wrap ((j : Int) + 1) = (j : Int) + 1 := by rw [IntKind.wrap_i64]; omega
                have hjn : ((j : Int) + 1).toNat = j + 1 := by omega
                go_wp2_with fail
                rw [HRR.out]
                refine (lineOf_yes r a 1100 k HIX.out (by omega) hk HA.out m _ HMr.out (by omega)).mono ?_
                rintro e w1 ⟨rfl, rfl⟩
                go_wp2_with fail
                refine (index_at a _ j HJX.out m _ HMr.out (by omega)).mono ?_
                rintro e w2 ⟨rfl, rfl⟩
                go_wp2_with fail
                rw [HX.out]
                refine (rtoken_any x _ HXM.out).mono ?_
                rintro e w3 ⟨rfl, rfl⟩
                rw [HTK.out]
                go_wp2_with fail
                go_region_held3 (fun _ => True) (trivial) (first | (go_at_call 54; rw [HBB.out]; refine (rtrim_at bb.size bb t _ (Nat.le_refl _) (by omega) HT.out).mono ?_; rintro e w4 ⟨rfl, hb4⟩; first | (have hx : w4.heap[w3.heap.size]? = some (.cells #[.string ⟨#[]⟩, .string ⟨#[]⟩] 72 (0, 0)) := pair_below (pair_new w3.drew _ _ _) hb4; obtain ⟨g1, g2, g3, g4, g5⟩ := pair_all hx) | skip))
                all_goals go_wp2_with fail
                all_goals rw [HX.out]
                · skip
                  have hbx : Below w3.heap.size w3 (w4.alloc (.cells #[.string x, .string t] 72)) := (((Below.refl _ w3).drew).trans (hb4.mono (Nat.le_refl _))).alloc (by have := hb4.size; exact this) _
                  have HGX : Hid ((w4.alloc (.cells #[.string x, .string t] 72)).heap[w4.heap.size]? = some (.cells #[.string x, .string t] 72 (0, 0))) := pair_new _ _ _ _
                  have hownx := own_below3 hown hbx
                  have hwx := hw.trans (hbx.mono hsz)
                  clear hown hbx hb4
                  refine (roneField_any x t _ HXM.out HTM.out).mono ?_
                  rintro e w5 ⟨rfl, hb5⟩
                  rw [HC.out]
                  have hown5 := own_below3 hownx hb5
                  have hw5 := hwx.trans (hb5.mono hwx.size)
                  have hsz5 := hw5.size
                  obtain ⟨n1, n2, _, _, n5⟩ := pair_all (pair_below HGX.out hb5)
                  clear hownx hb5
                  by_cases hc0 : c = 0
                  · subst hc0
                    have HR : Hid (parS (s.data.toList.drop (n + (k + 2))) (ps ++ [(x.data.toList, t.data.toList)]) = parS s.data.toList []) := by
                      have e := rdF_ok a.data.toList j HJ.out (by rw [← HXD.out, ← HBD.out, ← HT.out]; exact HC.out)
                      rw [← HXD.out, ← HBD.out, ← HT.out] at e
                      show _ = _
                      rw [← HPAR.out, par_ok _ _ k HIX.out hk0 HNL.out (by rw [← HA.out, e]), ← HA.out, e, HB.out]
                    go_wp2_with (at_builtin; refine wpList_append_own _ rfl _ _ 22 rfl w.heap.size 72 i0 (.agg #[.string ⟨#[]⟩, .string ⟨#[]⟩]) 2 32 Tryd.underlying22 hi hz0 hz1 hz2 rfl (by decide) _ _ _ rfl (hown5.alloc _) ⟨w5.heap.size, 0, none⟩ 1 1 [.string x, .string t] rfl rfl ?c1 ?c2 ?c3 ?c4 ?c5 ?_)
                    case c1 =>
                      intro j z h
                      match j, h with
                      | 0, h => simp at h; subst h; simp [Addr.add]
                      | 1, h => simp at h; subst h; simp [Addr.add]
                    case c2 => intro z hx; simp at hx; rcases hx with rfl | rfl <;> rfl
                    case c3 => unfold maxLen; omega
                    case c4 => omega
                    case c5 => simp; omega
                    · intro v' w6 hown' hgrow _
                      have hB : Below w.heap.size w w6 := (hw5.alloc (by omega) _).grown hgrow (by simp; omega) (fun b hb => ((hown5.alloc (.cells #[.string x, .string t] 72)).lt b hb).1)
                      have hown6 : w6.ownsRow w.heap.size 72 2 v' (ps ++ [(x.data.toList, t.data.toList)]).length (flds (ps ++ [(x.data.toList, t.data.toList)])) := by
                        rw [← flds_snoc, List.length_append]; exact hown'
                      clear hown' hgrow hown5 hw5
                      go_wp2_with fail
                      go_roundw
                      case rel => exact ⟨n + (k + 2), ps ++ [(x.data.toList, t.data.toList)], by go_num, by omega, HR.out, by simp; omega, hown6, hB⟩
                      case measure => simp [intOf]; omega
                  · have hcb : (c != 0) = true := by simpa using hc0
                    have HC0 : Hid (c ≠ 0) := hc0
                    have HR : Hid (parS s.data.toList [] = ([], [], c)) := by
                      have e := rdF_bad a.data.toList j HJ.out (by rw [← HXD.out, ← HBD.out, ← HT.out, HC.out]; exact hc0)
                      rw [← HXD.out, ← HBD.out, ← HT.out, HC.out] at e
                      show _ = _
                      rw [← HPAR.out, par_bad _ _ k HIX.out hk0 HNL.out (by rw [← HA.out, e]; exact hc0), ← HA.out, e]
                    clear hc0 hown5
                    go_wp2_with fail
                    go_ret3
                    refine ⟨.slice none 0 0, ret_three ?_ (by rw [HR.out]), by rw [HR.out]; exact World.ownsRow_nil _ _ _ _, hw5⟩
                    unfold parN; rw [HR.out, if_neg HC0.out]
                · skip
                  have hbx : Below w3.heap.size w3 ((w4.setCell ⟨w3.heap.size, 0, none⟩ (.string x)).setCell ⟨w3.heap.size, 1, none⟩ (.string t)) := (((((Below.refl _ w3).drew).alloc (Nat.le_refl _) _).trans (hb4.mono (by simp))).setCell (p := ⟨w3.heap.size, 0, none⟩) (Nat.le_refl _) _).setCell (p := ⟨w3.heap.size, 1, none⟩) (Nat.le_refl _) _
                  have HGX : Hid (((w4.setCell ⟨w3.heap.size, 0, none⟩ (.string x)).setCell ⟨w3.heap.size, 1, none⟩ (.string t)).heap[w3.heap.size]? = some (.cells #[.string x, .string t] 72 (0, 0))) := pair_set hx
                  have hownx := own_below3 hown hbx
                  have hwx := hw.trans (hbx.mono hsz)
                  clear hx g1 g2 g3 g4 g5
                  clear hown hbx hb4
                  refine (roneField_any x t _ HXM.out HTM.out).mono ?_
                  rintro e w5 ⟨rfl, hb5⟩
                  rw [HC.out]
                  have hown5 := own_below3 hownx hb5
                  have hw5 := hwx.trans (hb5.mono hwx.size)
                  have hsz5 := hw5.size
                  obtain ⟨n1, n2, _, _, n5⟩ := pair_all (pair_below HGX.out hb5)
                  clear hownx hb5
                  by_cases hc0 : c = 0
                  · subst hc0
                    have HR : Hid (parS (s.data.toList.drop (n + (k + 2))) (ps ++ [(x.data.toList, t.data.toList)]) = parS s.data.toList []) := by
                      have e := rdF_ok a.data.toList j HJ.out (by rw [← HXD.out, ← HBD.out, ← HT.out]; exact HC.out)
                      rw [← HXD.out, ← HBD.out, ← HT.out] at e
                      show _ = _
                      rw [← HPAR.out, par_ok _ _ k HIX.out hk0 HNL.out (by rw [← HA.out, e]), ← HA.out, e, HB.out]
                    go_wp2_with (at_builtin; refine wpList_append_own _ rfl _ _ 22 rfl w.heap.size 72 i0 (.agg #[.string ⟨#[]⟩, .string ⟨#[]⟩]) 2 32 Tryd.underlying22 hi hz0 hz1 hz2 rfl (by decide) _ _ _ rfl (hown5.alloc _) ⟨w5.heap.size, 0, none⟩ 1 1 [.string x, .string t] rfl rfl ?c1 ?c2 ?c3 ?c4 ?c5 ?_)
                    case c1 =>
                      intro j z h
                      match j, h with
                      | 0, h => simp at h; subst h; simp [Addr.add]
                      | 1, h => simp at h; subst h; simp [Addr.add]
                    case c2 => intro z hx; simp at hx; rcases hx with rfl | rfl <;> rfl
                    case c3 => unfold maxLen; omega
                    case c4 => omega
                    case c5 => simp; omega
                    · intro v' w6 hown' hgrow _
                      have hB : Below w.heap.size w w6 := (hw5.alloc (by omega) _).grown hgrow (by simp; omega) (fun b hb => ((hown5.alloc (.cells #[.string x, .string t] 72)).lt b hb).1)
                      have hown6 : w6.ownsRow w.heap.size 72 2 v' (ps ++ [(x.data.toList, t.data.toList)]).length (flds (ps ++ [(x.data.toList, t.data.toList)])) := by
                        rw [← flds_snoc, List.length_append]; exact hown'
                      clear hown' hgrow hown5 hw5
                      go_wp2_with fail
                      go_roundw
                      case rel => exact ⟨n + (k + 2), ps ++ [(x.data.toList, t.data.toList)], by go_num, by omega, HR.out, by simp; omega, hown6, hB⟩
                      case measure => simp [intOf]; omega
                  · have hcb : (c != 0) = true := by simpa using hc0
                    have HC0 : Hid (c ≠ 0) := hc0
                    have HR : Hid (parS s.data.toList [] = ([], [], c)) := by
                      have e := rdF_bad a.data.toList j HJ.out (by rw [← HXD.out, ← HBD.out, ← HT.out, HC.out]; exact hc0)
                      rw [← HXD.out, ← HBD.out, ← HT.out, HC.out] at e
                      show _ = _
                      rw [← HPAR.out, par_bad _ _ k HIX.out hk0 HNL.out (by rw [← HA.out, e]; exact hc0), ← HA.out, e]
                    clear hc0 hown5
                    go_wp2_with fail
                    go_ret3
                    refine ⟨.slice none 0 0, ret_three ?_ (by rw [HR.out]), by rw [HR.out]; exact World.ownsRow_nil _ _ _ _, hw5⟩
                    unfold parN; rw [HR.out, if_neg HC0.out]
end Go.Proofs.YtofafonppajfkaaDoor
