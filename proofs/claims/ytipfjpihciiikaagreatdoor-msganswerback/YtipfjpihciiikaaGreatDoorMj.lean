/-
  What FieldParse of the document's answers computes; the text has less than 2^32 - 15 bytes, and the package variable that the library reads holds some number.
-/
import Derived.Test.YtipfjpihciiikaaGreatDoorMi
import Derived.Deep.RegionHeld3
import Derived.Lib.SplitLaws
import Derived.Laws.OwnMore
import Derived.Test.YtipfjpihciiikaaGreatDoorShelf
import Derived.Test.YtipfjpihciiikaaGreatDoorRows
import Derived.BigQuiet
import Derived.Deep.QuietTactic
namespace Go.Proofs.YtipfjpihciiikaaGreatDoor
open Go.RowKit

theorem rdF_tok (l : List UInt8) (k : Nat) (h : Lib.index l [58] = k) (ht : token (l.take k) = false) : rdF l = (([], []), 3) := by
  have e := chk1_tok (l.take k, trimL (l.drop (k + 1))) ht
  rw [rdF_bad l k h (by rw [e]; decide), e]
theorem ext_drop (s r : ByteArray) (n : Nat) (h : r = s.extract n s.size) : r.data.toList = s.data.toList.drop n := by
  rw [h, Lib.extract_data, List.take_of_length_le (by rw [List.length_drop, size_list]; omega)]
theorem ext_take (s r : ByteArray) (n : Nat) (h : r = s.extract 0 n) : r.data.toList = s.data.toList.take n := by
  rw [h, Lib.extract_data, List.drop_zero]; rfl

theorem pair_set {w : World} {g : Nat} {t : TypeId} {n u a b : Value} (h : w.heap[g]? = some (.cells #[n, u] t (0, 0))) : ((w.setCell ⟨g, 0, none⟩ a).setCell ⟨g, 1, none⟩ b).heap[g]? = some (.cells #[a, b] t (0, 0)) := by
  rw [heap_setCell_same _ g 1 _ t b (heap_setCell_same w g 0 _ t a h)]
  rfl

set_option maxHeartbeats 8000000 in
set_option maxRecDepth 100000 in
theorem rparse_any (s : ByteArray) (m : Int) (w : World) (hm : w.cell? ⟨0, 0, none⟩ = some (.int .i64 m)) (hs : s.size < 4294967281) :
    Calls Tryz.prog 55 #[.string s] w fun e w' => ∃ v, e = .returned (.tuple #[v, .int .i64 (parN s.data.toList), .int .i64 (parS s.data.toList []).2.2]) ∧
      w'.ownsRow w.heap.size 57 2 v (parS s.data.toList []).1.length (flds (parS s.data.toList []).1) ∧ Below w.heap.size w w' := by
  obtain ⟨i0, hi, hz0, hz1, hz2⟩ := info_parts infoF
  have HM : Hid (w.cell? ⟨0, 0, none⟩ = some (.int .i64 m)) := hm
  clear hm
  have hsl := size_list s
  have HSL : Hid (s.data.toList.length = s.size) := hsl
  clear hsl
  go_enter Tryz.func55, Tryz.ntmps55
  go_wp2_with fail
  go_loopw [5, 6] (fun v av wr => ∃ (n : Nat) (ps : List Fld), av = .int .i64 n ∧ n ≤ s.size ∧ parS (s.data.toList.drop n) ps = parS s.data.toList [] ∧ ps.length ≤ 30 ∧ wr.ownsRow w.heap.size 57 2 v ps.length (flds ps) ∧ Below w.heap.size w wr) (fun _ av _ => s.size - (intOf av).toNat)
  case atStart => exact ⟨0, [], rfl, Nat.zero_le _, by rw [List.drop_zero], by simp, World.ownsRow_nil _ _ _ _, Below.refl _ _⟩
  case round =>
    obtain ⟨n, ps, rfl, hns, hpar, hpl, hown, hw⟩ := hrel
    obtain ⟨r, hr⟩ : ∃ r : ByteArray, r = s.extract n s.size := ⟨_, rfl⟩
    have hrd := ext_drop s r n hr
    have HRR : Hid (s.extract n s.size = r) := hr.symm
    have HRD : Hid (r.data.toList = s.data.toList.drop n) := hrd
    have HPAR : Hid (parS r.data.toList ps = parS s.data.toList []) := by show _ = _; rw [hrd]; exact hpar
    have hrs : r.size = s.size - n := by rw [hr, ByteArray.size_extract]; omega
    have hrl := size_list r
    clear hpar hrd hr
    have hsz := hw.size
    have HMr : Hid (wr.cell? ⟨0, 0, none⟩ = some (.int .i64 m)) := cell_keep hw HM.out
    obtain ⟨ad, cap, hv, hcm, hnc, hcx⟩ := own_form2 hown
    subst hv
    clear hcx
    unfold maxLen at hcm
    have hni : (n : Int) ≤ (s.size : Int) := by omega
    rcases index_two' r.data.toList [13, 10] with hix | ⟨k, hix, hk⟩
    · obtain ⟨c, hc⟩ : ∃ c : Int, c = if 1101 < r.data.toList.length then 2 else 8 := ⟨_, rfl⟩
      have HIX : Hid (Lib.index r.data.toList [13, 10] = -1) := hix
      have HC : Hid ((if 1101 < r.data.toList.length then 2 else 8 : Int) = c) := hc.symm
      have HR : Hid (parS s.data.toList [] = ([], [], c)) := by show _ = _; rw [← HPAR.out, par_none _ _ hix, hc]
      have hcb : (c != 0) = true := by rw [hc]; split <;> rfl
      have HC0 : Hid (c ≠ 0) := by show _ ≠ _; rw [hc]; split <;> decide
      clear hix hc hrl
      go_wp2_with fail
      rw [HRR.out]
      refine (lineOf_no r 1100 (by omega) HIX.out m _ HMr.out (by omega)).mono ?_
      rintro e w1 ⟨rfl, rfl⟩
      rw [HC.out]
      go_wp2_with fail
      go_ret3
      refine ⟨.slice none 0 0, ret_three ?_ (by rw [HR.out]), by rw [HR.out]; exact World.ownsRow_nil _ _ _ _, hw⟩
      unfold parN; rw [HR.out, if_neg HC0.out]
    · replace hk : k + 2 ≤ r.size := by simpa using hk
      have HIX : Hid (Lib.index r.data.toList [13, 10] = k) := hix
      have HB : Hid (s.data.toList.drop (n + (k + 2)) = r.data.toList.drop (k + 2)) := by show _ = _; rw [HRD.out, List.drop_drop]
      by_cases hk1 : 1100 < k
      · have HR : Hid (parS s.data.toList [] = ([], [], 2)) := by show _ = _; rw [← HPAR.out]; exact par_large _ _ k HIX.out (by omega) (.inl hk1)
        clear hix hrl
        go_wp2_with fail
        rw [HRR.out]
        refine (lineOf_large r 1100 k HIX.out hk1 m _ HMr.out (by omega)).mono ?_
        rintro e w1 ⟨rfl, rfl⟩
        go_wp2_with fail
        go_ret3
        refine ⟨.slice none 0 0, ret_three ?_ (by rw [HR.out]), by rw [HR.out]; exact World.ownsRow_nil _ _ _ _, hw⟩
        unfold parN; rw [HR.out, if_neg (by decide)]
      · by_cases hk0 : k = 0
        · subst hk0
          have HA : Hid ((⟨#[]⟩ : ByteArray).data.toList = r.data.toList.take 0) := by show _ = _; simp
          have HR : Hid (parS s.data.toList [] = (ps, s.data.toList.drop (n + 2), 0)) := by show _ = _; rw [← HPAR.out, par_end _ _ hix, HRD.out, List.drop_drop]
          clear hix hrl
          go_wp2_with fail
          rw [HRR.out]
          refine (lineOf_yes r ⟨#[]⟩ 1100 0 HIX.out (by omega) hk HA.out m _ HMr.out (by omega)).mono ?_
          rintro e w1 ⟨rfl, rfl⟩
          go_wp2_with fail
          go_ret3
          refine ⟨_, ret_three ?_ (by rw [HR.out]), by rw [HR.out]; exact hown, hw⟩
          unfold parN; rw [HR.out, if_pos rfl, List.length_drop, HSL.out]
          omega
        · obtain ⟨a, ha⟩ : ∃ a : ByteArray, a.data.toList = r.data.toList.take k := ⟨⟨(r.data.toList.take k).toArray⟩, rfl⟩
          have HA : Hid (a.data.toList = r.data.toList.take k) := ha
          have has : a.size = k := by rw [← size_list, ha, List.length_take, hrl]; omega
          have hem : a.toList.isEmpty = false := by
            rw [ByteArray.toList_eq, isEmpty_size, has]; simp [hk0]
          clear ha hrl hix
          by_cases h2 : 29 < (ps.length : Int)
          · have HR : Hid (parS s.data.toList [] = ([], [], 2)) := by show _ = _; rw [← HPAR.out]; exact par_large _ _ k HIX.out hk0 (.inr (by omega))
            go_wp2_with fail
            rw [HRR.out]
            refine (lineOf_yes r a 1100 k HIX.out (by omega) hk HA.out m _ HMr.out (by omega)).mono ?_
            rintro e w1 ⟨rfl, rfl⟩
            go_wp2_with fail
            go_ret3
            refine ⟨.slice none 0 0, ret_three ?_ (by rw [HR.out]), by rw [HR.out]; exact World.ownsRow_nil _ _ _ _, hw⟩
            unfold parN; rw [HR.out, if_neg (by decide)]
          · have hnl : ¬ (1100 < k ∨ 30 ≤ ps.length) := by omega
            rcases index_two' a.data.toList [58] with hjx | ⟨j, hjx, hj⟩
            · have HJX : Hid (Lib.index a.data.toList (⟨#[58]⟩ : ByteArray).data.toList = -1) := hjx
              have HR : Hid (parS s.data.toList [] = ([], [], 3)) := by
                show _ = _
                rw [← HPAR.out, par_bad _ _ k HIX.out hk0 hnl (by rw [← HA.out, rdF_no _ hjx]; decide), ← HA.out, rdF_no _ hjx]
              clear hjx hnl
              go_wp2_with fail
              rw [HRR.out]
              refine (lineOf_yes r a 1100 k HIX.out (by omega) hk HA.out m _ HMr.out (by omega)).mono ?_
              rintro e w1 ⟨rfl, rfl⟩
              go_wp2_with fail
              refine (index_at a _ (-1) HJX.out m _ HMr.out (by omega)).mono ?_
              rintro e w2 ⟨rfl, rfl⟩
              go_wp2_with fail
              go_ret3
              refine ⟨.slice none 0 0, ret_three ?_ (by rw [HR.out]), by rw [HR.out]; exact World.ownsRow_nil _ _ _ _, hw⟩
              unfold parN; rw [HR.out, if_neg (by decide)]
            · replace hj : j + 1 ≤ a.size := by simpa using hj
              have HJX : Hid (Lib.index a.data.toList (⟨#[58]⟩ : ByteArray).data.toList = j) := hjx
              obtain ⟨x, hx⟩ : ∃ x : ByteArray, x = a.extract 0 j := ⟨_, rfl⟩
              have HX : Hid (a.extract 0 j = x) := hx.symm
              have HXD : Hid (x.data.toList = a.data.toList.take j) := ext_take a x j hx
              have hxs : x.size ≤ 1100 := by rw [hx, ByteArray.size_extract]; omega
              have HXM : Hid (x.size ≤ maxLen) := by show _ ≤ _; unfold maxLen; omega
              have hj0 : decide ((j : Int) < 0) = false := decide_eq_false (by omega)
              clear hx
              cases htk : token x.data.toList
              · have HTK : Hid (token x.data.toList = false) := htk
                have HR : Hid (parS s.data.toList [] = ([], [], 3)) := by
                  have e := rdF_tok a.data.toList j hjx (by rw [← HXD.out]; exact htk)
                  show _ = _
                  rw [← HPAR.out, par_bad _ _ k HIX.out hk0 hnl (by rw [← HA.out, e]; decide), ← HA.out, e]
                clear hjx hnl htk
                go_wp2_with fail
                rw [HRR.out]
                refine (lineOf_yes r a 1100 k HIX.out (by omega) hk HA.out m _ HMr.out (by omega)).mono ?_
                rintro e w1 ⟨rfl, rfl⟩
                go_wp2_with fail
                refine (index_at a _ j HJX.out m _ HMr.out (by omega)).mono ?_
                rintro e w2 ⟨rfl, rfl⟩
                go_wp2_with fail
                rw [HX.out]
                refine (rtoken_any x _ HXM.out).mono ?_
                rintro e w3 ⟨rfl, rfl⟩
                rw [HTK.out]
                go_wp2_with fail
                go_ret3
                refine ⟨.slice none 0 0, ret_three ?_ (by rw [HR.out]), by rw [HR.out]; exact World.ownsRow_nil _ _ _ _, hw⟩
                unfold parN; rw [HR.out, if_neg (by decide)]
              · have HTK : Hid (token x.data.toList = true) := htk
                obtain ⟨bb, hbb⟩ : ∃ bb : ByteArray, bb = a.extract (j + 1) a.size := ⟨_, rfl⟩
                have HBB : Hid (a.extract (j + 1) a.size = bb) := hbb.symm
                have HBD : Hid (bb.data.toList = a.data.toList.drop (j + 1)) := ext_drop a bb (j + 1) hbb
                have hbs : bb.size ≤ 1100 := by rw [hbb, ByteArray.size_extract]; omega
                obtain ⟨t, ht⟩ : ∃ t : ByteArray, t.data.toList = trimL bb.data.toList := ⟨⟨(trimL bb.data.toList).toArray⟩, rfl⟩
                have HT : Hid (t.data.toList = trimL bb.data.toList) := ht
                have hts : t.size ≤ 1100 := by rw [← size_list, ht]; have := trimL_len bb.data.toList; rw [size_list] at this; omega
                have HTM : Hid (t.size ≤ maxLen) := by show _ ≤ _; unfold maxLen; omega
                obtain ⟨c, hc⟩ : ∃ c, c = chk1 (x.data.toList, t.data.toList) := ⟨_, rfl⟩
                have HC : Hid (chk1 (x.data.toList, t.data.toList) = c) := hc.symm
                have HJ : Hid (Lib.index a.data.toList [58] = j) := hjx
                have HNL : Hid (¬ (1100 < k ∨ 30 ≤ ps.length)) := hnl
                have has2 : a.size ≤ 1100 := by omega
                have hsm : n + (k + 2) ≤ s.size := by omega
                clear hbb ht hc htk hjx hnl has
                have hj1 : (j : Int) ≤ (a.size : Int) := by omega
                have hj2 : (j : Int) + 1 ≤ (a.size : Int) := by omega
                have hj3 : (0 : Int) ≤ (j : Int) + 1 := by omega
                have hwr : IntKind.i64.wrap ((j : Int) + 1) = (j : Int) + 1 := by rw [IntKind.wrap_i64]; omega
                have hjn : ((j : Int) + 1).toNat = j + 1 := by omega
                go_wp2_with fail
                rw [HRR.out]
                refine (lineOf_yes r a 1100 k HIX.out (by omega) hk HA.out m _ HMr.out (by omega)).mono ?_
                rintro e w1 ⟨rfl, rfl⟩
                go_wp2_with fail
                refine (index_at a _ j HJX.out m _ HMr.out (by omega)).mono ?_
                rintro e w2 ⟨rfl, rfl⟩
                go_wp2_with fail
                rw [HX.out]
                refine (rtoken_any x _ HXM.out).mono ?_
                rintro e w3 ⟨rfl, rfl⟩
                rw [HTK.out]
                go_wp2_with fail
                go_region_held3 (fun _ => True) (trivial) (first | (go_at_call 90; rw [HBB.out]; refine (rtrim_at bb.size bb t _ (Nat.le_refl _) (by omega) HT.out).mono ?_; rintro e w4 ⟨rfl, hb4⟩; first | (have hx : w4.heap[w3.heap.size]? = some (.cells #[.string ⟨#[]⟩, .string ⟨#[]⟩] 57 (0, 0)) := pair_below (pair_new w3.drew _ _ _) hb4; obtain ⟨g1, g2, g3, g4, g5⟩ := pair_all hx) | skip))
                all_goals go_wp2_with fail
                all_goals rw [HX.out]
                · skip
                  have hbx : Below w3.heap.size w3 (w4.alloc (.cells #[.string x, .string t] 57)) := (((Below.refl _ w3).drew).trans (hb4.mono (Nat.le_refl _))).alloc (by have := hb4.size; exact this) _
                  have HGX : Hid ((w4.alloc (.cells #[.string x, .string t] 57)).heap[w4.heap.size]? = some (.cells #[.string x, .string t] 57 (0, 0))) := pair_new _ _ _ _
                  have hownx := own_below3 hown hbx
                  have hwx := hw.trans (hbx.mono hsz)
                  clear hown hbx hb4
                  refine (roneField_any x t _ HXM.out HTM.out).mono ?_
                  rintro e w5 ⟨rfl, hb5⟩
                  rw [HC.out]
                  have hown5 := own_below3 hownx hb5
                  have hw5 := hwx.trans (hb5.mono hwx.size)
                  have hsz5 := hw5.size
                  obtain ⟨n1, n2, _, _, n5⟩ := pair_all (pair_below HGX.out hb5)
                  clear hownx hb5
                  by_cases hc0 : c = 0
                  · subst hc0
                    have HR : Hid (parS (s.data.toList.drop (n + (k + 2))) (ps ++ [(x.data.toList, t.data.toList)]) = parS s.data.toList []) := by
                      have e := rdF_ok a.data.toList j HJ.out (by rw [← HXD.out, ← HBD.out, ← HT.out]; exact HC.out)
                      rw [← HXD.out, ← HBD.out, ← HT.out] at e
                      show _ = _
                      rw [← HPAR.out, par_ok _ _ k HIX.out hk0 HNL.out (by rw [← HA.out, e]), ← HA.out, e, HB.out]
                    go_wp2_with (at_builtin; refine wpList_append_own _ rfl _ _ 22 rfl w.heap.size 57 i0 (.agg #[.string ⟨#[]⟩, .string ⟨#[]⟩]) 2 32 Tryz.underlying22 hi hz0 hz1 hz2 rfl (by decide) _ _ _ rfl (hown5.alloc _) ⟨w5.heap.size, 0, none⟩ 1 1 [.string x, .string t] rfl rfl ?c1 ?c2 ?c3 ?c4 ?c5 ?_)
                    case c1 =>
                      intro j z h
                      match j, h with
                      | 0, h => simp at h; subst h; simp [Addr.add]
                      | 1, h => simp at h; subst h; simp [Addr.add]
                    case c2 => intro z hx; simp at hx; rcases hx with rfl | rfl <;> rfl
                    case c3 => unfold maxLen; omega
                    case c4 => omega
                    case c5 => simp; omega
                    · intro v' w6 hown' hgrow _
                      have hB : Below w.heap.size w w6 := (hw5.alloc (by omega) _).grown hgrow (by simp; omega) (fun b hb => ((hown5.alloc (.cells #[.string x, .string t] 57)).lt b hb).1)
                      have hown6 : w6.ownsRow w.heap.size 57 2 v' (ps ++ [(x.data.toList, t.data.toList)]).length (flds (ps ++ [(x.data.toList, t.data.toList)])) := by
                        rw [← flds_snoc, List.length_append]; exact hown'
                      clear hown' hgrow hown5 hw5
                      go_wp2_with fail
                      go_roundw
                      case rel => exact ⟨n + (k + 2), ps ++ [(x.data.toList, t.data.toList)], by go_num, by omega, HR.out, by simp; omega, hown6, hB⟩
                      case measure => simp [intOf]; omega
                  · have hcb : (c != 0) = true := by simpa using hc0
                    have HC0 : Hid (c ≠ 0) := hc0
                    have HR : Hid (parS s.data.toList [] = ([], [], c)) := by
                      have e := rdF_bad a.data.toList j HJ.out (by rw [← HXD.out, ← HBD.out, ← HT.out, HC.out]; exact hc0)
                      rw [← HXD.out, ← HBD.out, ← HT.out, HC.out] at e
                      show _ = _
                      rw [← HPAR.out, par_bad _ _ k HIX.out hk0 HNL.out (by rw [← HA.out, e]; exact hc0), ← HA.out, e]
                    clear hc0 hown5
                    go_wp2_with fail
                    go_ret3
                    refine ⟨.slice none 0 0, ret_three ?_ (by rw [HR.out]), by rw [HR.out]; exact World.ownsRow_nil _ _ _ _, hw5⟩
                    unfold parN; rw [HR.out, if_neg HC0.out]
                · skip
                  have hbx : Below w3.heap.size w3 ((w4.setCell ⟨w3.heap.size, 0, none⟩ (.string x)).setCell ⟨w3.heap.size, 1, none⟩ (.string t)) := (((((Below.refl _ w3).drew).alloc (Nat.le_refl _) _).trans (hb4.mono (by simp))).setCell (p := ⟨w3.heap.size, 0, none⟩) (Nat.le_refl _) _).setCell (p := ⟨w3.heap.size, 1, none⟩) (Nat.le_refl _) _
                  have HGX : Hid (((w4.setCell ⟨w3.heap.size, 0, none⟩ (.string x)).setCell ⟨w3.heap.size, 1, none⟩ (.string t)).heap[w3.heap.size]? = some (.cells #[.string x, .string t] 57 (0, 0))) := pair_set hx
                  have hownx := own_below3 hown hbx
                  have hwx := hw.trans (hbx.mono hsz)
                  clear hx g1 g2 g3 g4 g5
                  clear hown hbx hb4
                  refine (roneField_any x t _ HXM.out HTM.out).mono ?_
                  rintro e w5 ⟨rfl, hb5⟩
                  rw [HC.out]
                  have hown5 := own_below3 hownx hb5
                  have hw5 := hwx.trans (hb5.mono hwx.size)
                  have hsz5 := hw5.size
                  obtain ⟨n1, n2, _, _, n5⟩ := pair_all (pair_below HGX.out hb5)
                  clear hownx hb5
                  by_cases hc0 : c = 0
                  · subst hc0
                    have HR : Hid (parS (s.data.toList.drop (n + (k + 2))) (ps ++ [(x.data.toList, t.data.toList)]) = parS s.data.toList []) := by
                      have e := rdF_ok a.data.toList j HJ.out (by rw [← HXD.out, ← HBD.out, ← HT.out]; exact HC.out)
                      rw [← HXD.out, ← HBD.out, ← HT.out] at e
                      show _ = _
                      rw [← HPAR.out, par_ok _ _ k HIX.out hk0 HNL.out (by rw [← HA.out, e]), ← HA.out, e, HB.out]
                    go_wp2_with (at_builtin; refine wpList_append_own _ rfl _ _ 22 rfl w.heap.size 57 i0 (.agg #[.string ⟨#[]⟩, .string ⟨#[]⟩]) 2 32 Tryz.underlying22 hi hz0 hz1 hz2 rfl (by decide) _ _ _ rfl (hown5.alloc _) ⟨w5.heap.size, 0, none⟩ 1 1 [.string x, .string t] rfl rfl ?c1 ?c2 ?c3 ?c4 ?c5 ?_)
                    case c1 =>
                      intro j z h
                      match j, h with
                      | 0, h => simp at h; subst h; simp [Addr.add]
                      | 1, h => simp at h; subst h; simp [Addr.add]
                    case c2 => intro z hx; simp at hx; rcases hx with rfl | rfl <;> rfl
                    case c3 => unfold maxLen; omega
                    case c4 => omega
                    case c5 => simp; omega
                    · intro v' w6 hown' hgrow _
                      have hB : Below w.heap.size w w6 := (hw5.alloc (by omega) _).grown hgrow (by simp; omega) (fun b hb => ((hown5.alloc (.cells #[.string x, .string t] 57)).lt b hb).1)
                      have hown6 : w6.ownsRow w.heap.size 57 2 v' (ps ++ [(x.data.toList, t.data.toList)]).length (flds (ps ++ [(x.data.toList, t.data.toList)])) := by
                        rw [← flds_snoc, List.length_append]; exact hown'
                      clear hown' hgrow hown5 hw5
                      go_wp2_with fail
                      go_roundw
                      case rel => exact ⟨n + (k + 2), ps ++ [(x.data.toList, t.data.toList)], by go_num, by omega, HR.out, by simp; omega, hown6, hB⟩
                      case measure => simp [intOf]; omega
                  · have hcb : (c != 0) = true := by simpa using hc0
                    have HC0 : Hid (c ≠ 0) := hc0
                    have HR : Hid (parS s.data.toList [] = ([], [], c)) := by
                      have e := rdF_bad a.data.toList j HJ.out (by rw [← HXD.out, ← HBD.out, ← HT.out, HC.out]; exact hc0)
                      rw [← HXD.out, ← HBD.out, ← HT.out, HC.out] at e
                      show _ = _
                      rw [← HPAR.out, par_bad _ _ k HIX.out hk0 HNL.out (by rw [← HA.out, e]; exact hc0), ← HA.out, e]
                    clear hc0 hown5
                    go_wp2_with fail
                    go_ret3
                    refine ⟨.slice none 0 0, ret_three ?_ (by rw [HR.out]), by rw [HR.out]; exact World.ownsRow_nil _ _ _ _, hw5⟩
                    unfold parN; rw [HR.out, if_neg HC0.out]
end Go.Proofs.YtipfjpihciiikaaGreatDoor

/-
  What ChunksBack of the document's answers computes; the text has less than 2^32 - 15 bytes, and the package variable that the library reads holds some number.
-/
namespace Go.Proofs.YtipfjpihciiikaaGreatDoor
open Go.RowKit

theorem ret_sii' {a b : ByteArray} {i j k l : Int} (h : a = b) (h' : i = j) (h'' : k = l) : Ending.returned (.tuple #[.string a, .int .i64 i, .int .i64 k]) = .returned (.tuple #[.string b, .int .i64 j, .int .i64 l]) := by rw [h, h', h'']
set_option maxHeartbeats 8000000 in
set_option maxRecDepth 100000 in
theorem rback_any (s : ByteArray) (t : ByteArray) (N : Nat) (C : Int) (hA : ans (runD start s.data.toList 0) = (t.data.toList, N, C)) (m : Int) (w : World) (hm : w.cell? ⟨0, 0, none⟩ = some (.int .i64 m)) (hs : s.size < 4294967281) :
    Calls Tryz.prog 56 #[.string s] w fun e w' => e = .returned (.tuple #[.string t, .int .i64 (N : Int), .int .i64 C]) ∧ Below w.heap.size w w' := by
  have HSL : Hid (s.data.toList.length = s.size) := size_list s
  have HM : Hid (w.cell? ⟨0, 0, none⟩ = some (.int .i64 m)) := hm
  have HE : Hid (∀ x i c, ans (runD start s.data.toList 0) = (x, i, c) → (⟨x.toArray⟩ : ByteArray) = t ∧ (i : Int) = (N : Int) ∧ c = C) := by
    intro x i c h
    rw [hA] at h
    simp only [Prod.mk.injEq] at h
    obtain ⟨h1, h2, h3⟩ := h
    refine ⟨?_, by omega, h3.symm⟩
    apply ByteArray.ext; apply Array.ext'; rw [h1]
  clear hm hA
  go_enter Tryz.func56, Tryz.ntmps56
  go_wp2_with fail
  go_loop [5, 6] (fun ov av => ∃ (a : Nat) (o : ByteArray), ov = .string o ∧ av = .int .i64 a ∧ a ≤ s.size ∧ o.size ≤ 5000 ∧ At s.data.toList a o.data.toList) (fun _ av => s.size - (intOf av).toNat)
  case atStart => exact ⟨0, ⟨#[]⟩, rfl, rfl, Nat.zero_le _, by decide, at_start _⟩
  case round =>
    obtain ⟨a, o, rfl, rfl, ha, ho, hat⟩ := hrel
    have HAT : Hid (At s.data.toList a o.data.toList) := hat
    obtain ⟨r0, hr0, hr0s, hsl0⟩ := slice_from s a ha
    have HR0 : Hid (r0.data.toList = s.data.toList.drop a) := hr0
    have hr0z : r0.size ≤ 140737488351232 := by omega
    clear hat hr0 hr0s
    go_wp2_with fail
    refine (rhead_any r0 _ hr0z).mono ?_
    rintro e w' ⟨n, k, c, rfl, hq, rfl⟩
    rw [HR0.out] at hq
    rcases hq with ⟨rfl, hq⟩ | ⟨rfl, hq⟩ | ⟨rfl, hq⟩
    · have HQ : Hid (_ ∧ _ ∧ _) := HE.out _ _ _ (at_short HAT.out hq)
      clear hq
      go_wp2_with fail
      go_ret3
      exact ⟨ret_sii' HQ.out.1 HQ.out.2.1 HQ.out.2.2, Below.refl _ _⟩
    · have HQ : Hid (_ ∧ _ ∧ _) := HE.out _ _ _ (at_bad HAT.out hq)
      clear hq
      go_wp2_with fail
      go_ret3
      exact ⟨ret_sii' HQ.out.1 HQ.out.2.1 HQ.out.2.2, Below.refl _ _⟩
    · obtain ⟨hak, hrun⟩ := at_head HAT.out hq
      rw [HSL.out] at hak
      have hn6 := hq.2.1
      obtain ⟨b, hb⟩ : ∃ b, b = a + k := ⟨_, rfl⟩
      rw [← hb] at hrun hak
      have hab : (a : Int) + (k : Int) = (b : Int) := by omega
      have hk2 : a ≤ b := by omega
      have HRUN : Hid (runD start s.data.toList 0 = aft o.data.toList n (s.data.toList.drop b) b) := hrun
      have HOL : Hid (o.data.toList.length = o.size) := size_list o
      clear hq hrun hb hsl0
      by_cases hbig : 5000 < (o.size : Int) + (n : Int)
      · have HQ : Hid (_ ∧ _ ∧ _) := HE.out _ _ _ (aft_large HRUN.out (by rw [HOL.out]; omega))
        go_wp2_with fail
        go_ret3
        exact ⟨ret_sii' HQ.out.1 HQ.out.2.1 HQ.out.2.2, Below.refl _ _⟩
      · have HBIG : Hid (¬ 5000 < o.data.toList.length + n) := by show ¬ _; rw [HOL.out]; omega
        by_cases hn0 : n = 0
        · subst hn0
          obtain ⟨r1, hr1, hr1s, hsl1⟩ := slice_from s b hak
          have hf := aft_fields HRUN.out HBIG.out (by rw [HSL.out]; exact hak)
          rw [← hr1] at hf
          have HR1 : Hid (r1.size = s.size - b) := hr1s
          have hr1z : r1.size < 4294967281 := by omega
          clear hr1 hr1s
          go_wp2_with fail
          refine (rparse_any r1 m _ HM.out hr1z).mono ?_
          rintro e w2 ⟨v, rfl, _, hb2⟩
          by_cases hz : (parS r1.data.toList []).2.2 = 0
          · rw [if_pos hz] at hf
            have hpn : parN r1.data.toList = (r1.size : Int) - ((parS r1.data.toList []).2.1.length : Int) := by unfold parN; rw [if_pos hz, size_list]
            have hle := par_rest r1.data.toList []
            rw [size_list] at hle
            obtain ⟨P, hP⟩ : ∃ P, parN r1.data.toList = P := ⟨_, rfl⟩
            obtain ⟨Z, hZ⟩ : ∃ Z, (parS r1.data.toList []).2.1.length = Z := ⟨_, rfl⟩
            rw [hZ] at hf hle hpn
            rw [hP] at hpn
            rw [hP, hz]
            obtain ⟨q1, q2, q3⟩ := HE.out _ _ _ hf
            rw [HSL.out] at q2
            have HQ1 : Hid (o = t) := q1
            have HQ3 : Hid ((0 : Int) = C) := q3
            have hr1s := HR1.out
            have HQ2 : Hid ((b : Int) + P = (N : Int)) := by show _ = _; omega
            have hP1 : 0 ≤ P ∧ P ≤ 4294967296 := by omega
            obtain ⟨hP1, hP2⟩ := hP1
            clear q1 q2 q3 hf hz hpn hP hZ hle hr1s
            go_wp2_with fail
            go_ret3
            exact ⟨ret_sii' HQ1.out HQ2.out HQ3.out, hb2⟩
          · rw [if_neg hz] at hf
            have HQ : Hid (_ ∧ _ ∧ _) := HE.out _ _ _ hf
            have hzb : ((parS r1.data.toList []).2.2 != 0) = true := by simpa using hz
            clear hf hz
            go_wp2_with fail
            go_ret3
            exact ⟨ret_sii' HQ.out.1 HQ.out.2.1 HQ.out.2.2, hb2⟩
        · have hn0' : ((n : Int) == 0) = false := by rw [beq_eq_false_iff_ne]; omega
          obtain ⟨p, hp⟩ : ∃ p, p = b + n := ⟨_, rfl⟩
          have hbp : (b : Int) + (n : Int) = (p : Int) := by omega
          by_cases hsh : (s.size : Int) ≤ (p : Int)
          · have HQ : Hid (_ ∧ _ ∧ _) := HE.out _ _ _ (aft_short HRUN.out HBIG.out hn0 (.inl (by rw [HSL.out]; omega)))
            clear hn0 hp
            go_wp2_with fail
            go_ret3
            exact ⟨ret_sii' HQ.out.1 HQ.out.2.1 HQ.out.2.2, Below.refl _ _⟩
          · obtain ⟨q, hqq⟩ : ∃ q : Nat, (q : Int) = min (s.size : Int) ((p : Int) + 2) := ⟨min s.size (p + 2), by omega⟩
            have hmin : min (s.size : Int) ((p : Int) + 2) = (q : Int) := hqq.symm
            obtain ⟨en, hen, hens, hsl2⟩ := slice_part s p q (by omega) (by omega)
            have hen2 : en.data.toList = (s.data.toList.drop p).take 2 := by
              rw [hen]
              rcases (show q = p + 2 ∨ (q = s.size ∧ s.size < p + 2) by omega) with h | ⟨h, h'⟩
              · rw [show q - p = 2 by omega]
              · rw [List.take_of_length_le (by rw [List.length_drop, HSL.out]; omega), List.take_of_length_le (by rw [List.length_drop, HSL.out]; omega)]
            obtain ⟨t1, t2, t3⟩ := take_two (z := s.data.toList.drop p)
            rw [← hen2] at t1 t2 t3
            have hsl2' := hsl2
            by_cases h13 : en.data.toList = [13]
            · have HQ : Hid (_ ∧ _ ∧ _) := HE.out _ _ _ (aft_short HRUN.out HBIG.out hn0 (.inr (by rw [← hp]; exact t1 h13)))
              have hc13 : (en.toList == [13]) = true := by rw [ByteArray.toList_eq, h13]; rfl
              clear hn0 hp t1 t2 t3 h13 hen hens hen2 hqq
              go_wp2_with fail
              go_ret3
              exact ⟨ret_sii' HQ.out.1 HQ.out.2.1 HQ.out.2.2, Below.refl _ _⟩
            · have hc13 : (en.toList == [13]) = false := by rw [ByteArray.toList_eq, beq_eq_false_iff_ne]; exact h13
              by_cases h2 : en.data.toList = [13, 10]
              · have hc2 : (en.toList == [13, 10]) = true := by rw [ByteArray.toList_eq, h2]; rfl
                obtain ⟨z, hz⟩ := t2 h2
                obtain ⟨pt, hpt, hpts, hsl3⟩ := slice_part s b p (by omega) (by omega)
                have hnx := aft_next HRUN.out HBIG.out hn0 (by rw [← hp]; exact hz)
                rw [← hp, show n = p - b by omega, ← hpt] at hnx
                have HNX : Hid (At s.data.toList (p + 2) (o ++ pt).data.toList) := by
                  show At _ _ _
                  rw [ByteArray.data_append, Array.toList_append]; exact hnx
                have hp2 : p + 2 ≤ s.size := by have := hnx.1; rw [HSL.out] at this; exact this
                have hos : (o ++ pt).size = o.size + pt.size := ByteArray.size_append
                have HO2 : Hid ((o ++ pt).size ≤ 5000) := by show _ ≤ _; omega
                have HP3 : Hid ((b : Int) + ((n : Int) + 2) = ((p + 2 : Nat) : Int)) := by show _ = _; omega
                have hA1 : ¬ 9223372036854775807 < o.size + pt.size := by omega
                clear hn0 hp t1 t2 t3 h13 hen hens hen2 hqq h2 hz hpt hnx hos
                go_wp2_with fail
                go_round
                case rel => exact ⟨p + 2, o ++ pt, rfl, by rw [← HP3.out], hp2, HO2.out, HNX.out⟩
                case measure => have := HP3.out; simp [intOf]; omega
              · have hc2 : (en.toList == [13, 10]) = false := by rw [ByteArray.toList_eq, beq_eq_false_iff_ne]; exact h2
                have HQ : Hid (_ ∧ _ ∧ _) := HE.out _ _ _ (aft_bad HRUN.out HBIG.out hn0 (by rw [HSL.out]; omega) (by rw [← hp]; intro h; exact h13 (by rw [hen2, h]; rfl)) (by rw [← hp]; exact t3 h2))
                clear hn0 hp t1 t2 t3 h13 hen hens hen2 hqq h2
                go_wp2_with fail
                go_ret3
                exact ⟨ret_sii' HQ.out.1 HQ.out.2.1 HQ.out.2.2, Below.refl _ _⟩
end Go.Proofs.YtipfjpihciiikaaGreatDoor

/-
  What messageOf of the document's answers computes: what is read behind the first line; the text has less than 2^32 - 15 bytes.
-/
namespace Go.Proofs.YtipfjpihciiikaaGreatDoor
open Go.RowKit

set_option maxHeartbeats 1000000 in
set_option maxRecDepth 100000 in
theorem none_at (c : Int) (w : World) : Calls Tryz.prog 54 #[.int .i64 c] w fun e w' => e = .returned (.tuple #[.slice none 0 0, .string ⟨#[]⟩, .int .i64 0, .int .i64 c]) ∧ w' = w := by
  go_enter Tryz.func54, Tryz.ntmps54
  go_wp2_with fail
  refine bodyPost_ret (results_four rfl _ _ _) rfl ?_
  exact ⟨rfl, rfl⟩
set_option maxHeartbeats 4000000 in
set_option maxRecDepth 100000 in
theorem rmsgOf_at (req : Bool) (mm : ByteArray) (code : Int) (s t : ByteArray) (fs : List Fld) (i : Nat) (c : Int) (h : rdB (kd req mm.data.toList code) s.data.toList = (fs, t.data.toList, i, c)) (m : Int) (w : World) (hs : s.size < 4294967281) (hm : w.cell? ⟨0, 0, none⟩ = some (.int .i64 m)) :
    Calls Tryz.prog 27 #[.string s, .bool req, .string mm, .int .i64 code] w fun e w' => ∃ v, e = .returned (.tuple #[v, .string t, .int .i64 (i : Int), .int .i64 c]) ∧ FlO w.heap.size w' v fs ∧ Below w.heap.size w w' := by
  have HM : Hid (w.cell? ⟨0, 0, none⟩ = some (.int .i64 m)) := hm
  have HZ : Hid (s.size < 4294967281) := hs
  clear hm
  have emp : ∀ x : Int, ([], [], 0, x) = (fs, t.data.toList, i, c) → fs = [] ∧ t = ⟨#[]⟩ ∧ i = 0 ∧ c = x := by
    intro x hx
    simp only [Prod.mk.injEq] at hx
    exact ⟨hx.1.symm, by apply ByteArray.ext; apply Array.ext'; exact hx.2.1.symm, hx.2.2.1.symm, hx.2.2.2.symm⟩
  have HP : Hid (Calls Tryz.prog 55 #[.string s] w fun e w' => ∃ v, e = .returned (.tuple #[v, .int .i64 (parN s.data.toList), .int .i64 (parS s.data.toList []).2.2]) ∧ FlO w.heap.size w' v (parS s.data.toList []).1 ∧ Below w.heap.size w w') := rparse_any s m w HM.out HZ.out
  by_cases hc : (parS s.data.toList []).2.2 = 0
  · have hN := parN_ok hc
    have hle := par_rest' s.data.toList
    rw [size_list] at hle hN
    obtain ⟨r, hr, hrs, hsl⟩ := slice_from s (s.size - (parS s.data.toList []).2.1.length) (by omega)
    have hrl : r.data.toList = (parS s.data.toList []).2.1 := by
      rw [hr, ← size_list, par_drop _ hc]
    have hchk : chk (parS s.data.toList []).1 = 0 := ((parS_is s.data.toList _ _ _ rfl).2 hc).1
    have HB : Hid (bulkF (parS s.data.toList []).1 ≤ 1048576) := bulk_chk _ hchk
    obtain ⟨x, y, z, hk⟩ : ∃ x y z, kd req mm.data.toList code (parS s.data.toList []).1 = (x, y, z) := ⟨_, _, _, rfl⟩
    have HK : Hid (kd req mm.data.toList code (parS s.data.toList []).1 = (x, y, z)) := hk
    have HP2 : Hid (Calls Tryz.prog 55 #[.string s] w fun e w' => ∃ v, e = .returned (.tuple #[v, .int .i64 ((s.size - (parS s.data.toList []).2.1.length : Nat) : Int), .int .i64 0]) ∧ FlO w.heap.size w' v (parS s.data.toList []).1 ∧ Below w.heap.size w w') := by
      have := HP.out
      rw [hc, hN] at this
      exact this
    obtain ⟨at_, hat⟩ : ∃ a : Nat, a = s.size - (parS s.data.toList []).2.1.length := ⟨_, rfl⟩
    have hrl2 := congrArg List.length hrl
    rw [size_list] at hrl2
    have hrat : at_ + r.size = s.size := by omega
    rw [← hat] at hsl HP2
    have hw := rdB_rb (kd_ok req mm.data.toList code) hc
    rw [h, hk] at hw
    simp only at hw
    rw [← hrl, size_list, size_list, show s.size - r.size = at_ by omega] at hw
    clear HP
    obtain ⟨gs, hgs⟩ : ∃ gs, gs = (parS s.data.toList []).1 := ⟨_, rfl⟩
    rw [← hgs] at HP2 HB HK hw
    rcases kd_ok req mm.data.toList code (parS s.data.toList []).1 with ⟨e, h1, he⟩ | h1 | h1 | h1 | ⟨n', h1, hn0, hn⟩
    · rw [hk] at h1
      simp only [Prod.mk.injEq] at h1
      obtain ⟨rfl, rfl, rfl⟩ := h1
      have hw := rdB_err (K := kd req mm.data.toList code) hc (by rw [hk]; exact he)
      rw [h, hk] at hw
      obtain ⟨rfl, rfl, rfl, rfl⟩ := emp _ hw.symm
      have hcb : (c != 0) = true := by simpa using he
      clear h hc hk hN hle hr hrs hrl hrl2 hchk hat emp hgs hw he hsl
      go_enter Tryz.func27, Tryz.ntmps27
      go_wp2_with fail
      refine HP2.out.mono ?_
      rintro e w1 ⟨v, rfl, hfl, hb1⟩
      have HFL : Hid (FlO w.heap.size w1 v gs) := hfl
      clear hfl
      go_wp2_with fail
      refine (rkind_at req mm code v _ 0 0 c HK.out _ HFL.out.fl HB.out).mono ?_
      rintro e w2 ⟨rfl, hb2⟩
      have HFL2 : Hid (FlO w.heap.size w2 v gs) := HFL.out.below hb2
      have hw2 := hb1.trans (hb2.mono hb1.size)
      clear hb1 hb2 HFL
      go_wp2_with fail
      refine (none_at _ _).mono ?_
      rintro e w9 ⟨rfl, rfl⟩
      go_wp2_with fail
      refine bodyPost_ret (results_four rfl _ _ _) rfl ?_
      exact ⟨_, rfl, FlO.nil _ _, hw2⟩
    · rw [hk] at h1
      simp only [Prod.mk.injEq] at h1
      obtain ⟨rfl, rfl, rfl⟩ := h1
      replace hw := hw rfl
      have e1 : rbS 1 0 r.data.toList = ([], 0, 0) := by
        unfold rbS; rw [if_neg (by decide), if_neg (by decide), if_neg (by omega)]; simp
      rw [e1] at hw
      simp only [Prod.mk.injEq, ne_eq, not_true, if_false, Nat.add_zero] at hw
      obtain ⟨rfl, ht, hi, rfl⟩ := hw
      have HI : Hid ((at_ : Int) = (i : Int)) := by show _ = _; omega
      obtain rfl : t = ⟨#[]⟩ := by apply ByteArray.ext; apply Array.ext'; exact ht
      clear h hc hk hN hle hr hrs hrl hrl2 hchk hat emp e1 ht hi
      go_enter Tryz.func27, Tryz.ntmps27
      go_wp2_with fail
      refine HP2.out.mono ?_
      rintro e w1 ⟨v, rfl, hfl, hb1⟩
      have HFL : Hid (FlO w.heap.size w1 v fs) := hfl
      clear hfl
      go_wp2_with fail
      refine (rkind_at req mm code v _ 1 0 0 HK.out _ HFL.out.fl HB.out).mono ?_
      rintro e w2 ⟨rfl, hb2⟩
      have HFL2 : Hid (FlO w.heap.size w2 v fs) := HFL.out.below hb2
      have hw2 := hb1.trans (hb2.mono hb1.size)
      clear hb1 hb2 HFL
      go_wp2_with fail
      refine bodyPost_ret (results_four rfl _ _ _) rfl ?_
      exact ⟨v, ret_4 HI.out rfl, HFL2.out, hw2⟩
    · rw [hk] at h1
      simp only [Prod.mk.injEq] at h1
      obtain ⟨rfl, rfl, rfl⟩ := h1
      replace hw := hw rfl
      obtain ⟨u, j, f, hu⟩ : ∃ (u : ByteArray) (j : Nat) (f : Int), ans (runD start r.data.toList 0) = (u.data.toList, j, f) := ⟨⟨(ans (runD start r.data.toList 0)).1.toArray⟩, _, _, rfl⟩
      have e1 : rbS 3 0 r.data.toList = (u.data.toList, j, f) := by unfold rbS; rw [if_pos rfl, hu]
      have HU : Hid (ans (runD start r.data.toList 0) = (u.data.toList, j, f)) := hu
      have HRS : Hid (r.size < 4294967281) := by show _ < _; have := HZ.out; omega
      have hjl : j ≤ r.size := by
        have := rb_len (k := 3) (n := 0) (r := r.data.toList) (by omega)
        rw [e1, size_list] at this
        exact this
      rw [e1] at hw
      simp only at hw
      by_cases hf0 : f = 0
      · subst hf0
        rw [if_neg (by simp)] at hw
        simp only [Prod.mk.injEq] at hw
        obtain ⟨rfl, ht, hi, rfl⟩ := hw
        obtain rfl : t = u := by apply ByteArray.ext; apply Array.ext'; exact ht
        have HI : Hid ((at_ : Int) + (j : Int) = (i : Int)) := by show _ = _; omega
        clear h hc hk hN hle hr hrs hrl hrl2 hchk hat emp e1 ht hi hu
        go_enter Tryz.func27, Tryz.ntmps27
        go_wp2_with fail
        refine HP2.out.mono ?_
        rintro e w1 ⟨v, rfl, hfl, hb1⟩
        have HFL : Hid (FlO w.heap.size w1 v fs) := hfl
        clear hfl
        go_wp2_with fail
        refine (rkind_at req mm code v _ 3 0 0 HK.out _ HFL.out.fl HB.out).mono ?_
        rintro e w2 ⟨rfl, hb2⟩
        have HFL2 : Hid (FlO w.heap.size w2 v fs) := HFL.out.below hb2
        have hw2 := hb1.trans (hb2.mono hb1.size)
        clear hb1 hb2 HFL
        go_wp2_with fail
        have HM2 : Hid (w2.cell? ⟨0, 0, none⟩ = some (.int .i64 m)) := cell_keep hw2 HM.out
        refine (rback_any r t j 0 HU.out m _ HM2.out HRS.out).mono ?_
        rintro e w3 ⟨rfl, hb3⟩
        have HFL3 : Hid (FlO w.heap.size w3 v fs) := HFL2.out.below hb3
        have hw3 := hw2.trans (hb3.mono hw2.size)
        clear hw2 hb3
        go_wp2_with fail
        refine bodyPost_ret (results_four rfl _ _ _) rfl ?_
        exact ⟨v, ret_4 (by simpa using HI.out) rfl, HFL3.out, hw3⟩
      · rw [if_pos hf0] at hw
        obtain ⟨rfl, rfl, rfl, rfl⟩ := emp _ hw.symm
        have hfb : (c != 0) = true := by simpa using hf0
        clear h hc hk hN hle hr hrs hrl hrl2 hchk hat emp hgs hw e1 hu hf0
        go_enter Tryz.func27, Tryz.ntmps27
        go_wp2_with fail
        refine HP2.out.mono ?_
        rintro e w1 ⟨v, rfl, hfl, hb1⟩
        have HFL : Hid (FlO w.heap.size w1 v gs) := hfl
        clear hfl
        go_wp2_with fail
        refine (rkind_at req mm code v _ 3 0 0 HK.out _ HFL.out.fl HB.out).mono ?_
        rintro e w2 ⟨rfl, hb2⟩
        have HFL2 : Hid (FlO w.heap.size w2 v gs) := HFL.out.below hb2
        have hw2 := hb1.trans (hb2.mono hb1.size)
        clear hb1 hb2 HFL
        go_wp2_with fail
        have HM2 : Hid (w2.cell? ⟨0, 0, none⟩ = some (.int .i64 m)) := cell_keep hw2 HM.out
        refine (rback_any r u j c HU.out m _ HM2.out HRS.out).mono ?_
        rintro e w3 ⟨rfl, hb3⟩
        have hw3 := hw2.trans (hb3.mono hw2.size)
        clear hw2 hb3
        go_wp2_with fail
        refine (none_at _ _).mono ?_
        rintro e w9 ⟨rfl, rfl⟩
        go_wp2_with fail
        refine bodyPost_ret (results_four rfl _ _ _) rfl ?_
        exact ⟨_, rfl, FlO.nil _ _, hw3⟩
    · rw [hk] at h1
      simp only [Prod.mk.injEq] at h1
      obtain ⟨rfl, rfl, rfl⟩ := h1
      replace hw := hw rfl
      by_cases hb0 : 5000 < r.size
      · have e1 : rbS 4 0 r.data.toList = ([], 0, 2) := by simp [rbS, hb0]
        rw [e1, if_pos (by simp)] at hw
        obtain ⟨rfl, rfl, rfl, rfl⟩ := emp _ hw.symm
        have hb5 : (5000 : Int) < (r.size : Int) := by omega
        clear h hc hk hN hle hr hrs hrl hrl2 hchk hat emp hgs hw e1 hb0
        go_enter Tryz.func27, Tryz.ntmps27
        go_wp2_with fail
        refine HP2.out.mono ?_
        rintro e w1 ⟨v, rfl, hfl, hb1⟩
        have HFL : Hid (FlO w.heap.size w1 v gs) := hfl
        clear hfl
        go_wp2_with fail
        refine (rkind_at req mm code v _ 4 0 0 HK.out _ HFL.out.fl HB.out).mono ?_
        rintro e w2 ⟨rfl, hb2⟩
        have HFL2 : Hid (FlO w.heap.size w2 v gs) := HFL.out.below hb2
        have hw2 := hb1.trans (hb2.mono hb1.size)
        clear hb1 hb2 HFL
        go_wp2_with fail
        refine (none_at _ _).mono ?_
        rintro e w9 ⟨rfl, rfl⟩
        go_wp2_with fail
        refine bodyPost_ret (results_four rfl _ _ _) rfl ?_
        exact ⟨_, rfl, FlO.nil _ _, hw2⟩
      · have e1 : rbS 4 0 r.data.toList = (r.data.toList, r.size, 0) := by simp [rbS, hb0]
        rw [e1, if_neg (by simp)] at hw
        simp only [Prod.mk.injEq] at hw
        obtain ⟨rfl, ht, hi, rfl⟩ := hw
        obtain rfl : t = r := by apply ByteArray.ext; apply Array.ext'; exact ht
        have HI : Hid ((s.size : Int) = (i : Int)) := by show _ = _; omega
        have hb5 : ¬ (5000 : Int) < (t.size : Int) := by omega
        clear h hc hk hN hle hr hrs hrl hrl2 hchk hat emp e1 hb0 ht hi
        go_enter Tryz.func27, Tryz.ntmps27
        go_wp2_with fail
        refine HP2.out.mono ?_
        rintro e w1 ⟨v, rfl, hfl, hb1⟩
        have HFL : Hid (FlO w.heap.size w1 v fs) := hfl
        clear hfl
        go_wp2_with fail
        refine (rkind_at req mm code v _ 4 0 0 HK.out _ HFL.out.fl HB.out).mono ?_
        rintro e w2 ⟨rfl, hb2⟩
        have HFL2 : Hid (FlO w.heap.size w2 v fs) := HFL.out.below hb2
        have hw2 := hb1.trans (hb2.mono hb1.size)
        clear hb1 hb2 HFL
        go_wp2_with fail
        refine bodyPost_ret (results_four rfl _ _ _) rfl ?_
        exact ⟨v, ret_4 HI.out rfl, HFL2.out, hw2⟩
    · rw [hk] at h1
      simp only [Prod.mk.injEq] at h1
      obtain ⟨rfl, rfl, rfl⟩ := h1
      replace hw := hw rfl
      obtain ⟨b, rfl⟩ : ∃ b : Nat, y = (b : Int) := ⟨y.toNat, by omega⟩
      by_cases hb0 : r.size < b
      · have e1 : rbS 2 b r.data.toList = ([], 0, 8) := by
          unfold rbS; rw [if_neg (by decide), if_neg (by decide), if_pos (by rw [size_list]; omega)]
        rw [e1, if_pos (by simp)] at hw
        obtain ⟨rfl, rfl, rfl, rfl⟩ := emp _ hw.symm
        have hb5 : (r.size : Int) < (b : Int) := by omega
        clear h hc hk hN hle hr hrs hrl hrl2 hchk hat emp hgs hw e1 hb0 hn hn0
        go_enter Tryz.func27, Tryz.ntmps27
        go_wp2_with fail
        refine HP2.out.mono ?_
        rintro e w1 ⟨v, rfl, hfl, hb1⟩
        have HFL : Hid (FlO w.heap.size w1 v gs) := hfl
        clear hfl
        go_wp2_with fail
        refine (rkind_at req mm code v _ 2 b 0 HK.out _ HFL.out.fl HB.out).mono ?_
        rintro e w2 ⟨rfl, hb2⟩
        have HFL2 : Hid (FlO w.heap.size w2 v gs) := HFL.out.below hb2
        have hw2 := hb1.trans (hb2.mono hb1.size)
        clear hb1 hb2 HFL
        go_wp2_with fail
        refine (none_at _ _).mono ?_
        rintro e w9 ⟨rfl, rfl⟩
        go_wp2_with fail
        refine bodyPost_ret (results_four rfl _ _ _) rfl ?_
        exact ⟨_, rfl, FlO.nil _ _, hw2⟩
      · have e1 : rbS 2 b r.data.toList = (r.data.toList.take b, b, 0) := by
          unfold rbS; rw [if_neg (by decide), if_neg (by decide), if_neg (by rw [size_list]; omega)]; rfl
        obtain ⟨q, hq, hqs, hsq⟩ := slice_to r b (by omega)
        rw [e1, if_neg (by simp), ← hq] at hw
        simp only [Prod.mk.injEq] at hw
        obtain ⟨rfl, ht, hi, rfl⟩ := hw
        obtain rfl : t = q := by apply ByteArray.ext; apply Array.ext'; exact ht
        have HI : Hid ((at_ : Int) + (b : Int) = (i : Int)) := by show _ = _; omega
        have hb5 : ¬ (r.size : Int) < (b : Int) := by omega
        clear h hc hk hN hle hr hrs hrl hrl2 hchk hat emp e1 hb0 ht hi hq hqs hn hn0
        go_enter Tryz.func27, Tryz.ntmps27
        go_wp2_with fail
        refine HP2.out.mono ?_
        rintro e w1 ⟨v, rfl, hfl, hb1⟩
        have HFL : Hid (FlO w.heap.size w1 v fs) := hfl
        clear hfl
        go_wp2_with fail
        refine (rkind_at req mm code v _ 2 b 0 HK.out _ HFL.out.fl HB.out).mono ?_
        rintro e w2 ⟨rfl, hb2⟩
        have HFL2 : Hid (FlO w.heap.size w2 v fs) := HFL.out.below hb2
        have hw2 := hb1.trans (hb2.mono hb1.size)
        clear hb1 hb2 HFL
        have mixed : Tryz.prog.follows Departure.mixedOrders = true := by kernel_rfl
        go_wp2_with fail
        go_region_o
        all_goals go_wp2
        all_goals (try simp only [Exit.inBlock, Exit.then])
        all_goals refine bodyPost_ret (results_four rfl _ _ _) rfl ?_
        all_goals exact ⟨v, ret_4 (by simpa using HI.out) rfl, HFL2.out.below (drewN_below _ _ 1), hw2.drew⟩
  · have hw := rdB_bad (K := kd req mm.data.toList code) hc
    rw [h] at hw
    obtain ⟨rfl, rfl, rfl, rfl⟩ := emp _ hw.symm
    have hcb : ((parS s.data.toList []).2.2 != 0) = true := by simpa using hc
    obtain ⟨q, hq⟩ : ∃ q, q = (parS s.data.toList []).2.2 := ⟨_, rfl⟩
    rw [← hq] at hcb HP ⊢
    clear h hc emp hw hq
    go_enter Tryz.func27, Tryz.ntmps27
    go_wp2_with fail
    refine HP.out.mono ?_
    rintro e w1 ⟨v, rfl, hfl, hb1⟩
    clear hfl HP
    go_wp2_with fail
    refine (none_at _ _).mono ?_
    rintro e w2 ⟨rfl, rfl⟩
    go_wp2_with fail
    refine bodyPost_ret (results_four rfl _ _ _) rfl ?_
    exact ⟨_, rfl, FlO.nil _ _, hb1⟩
end Go.Proofs.YtipfjpihciiikaaGreatDoor

/-
  What LineRequestOf of the document's answers computes; the text has less than 2^32 - 15 bytes, and the package variable that the library reads holds some number.
-/
namespace Go.Proofs.YtipfjpihciiikaaGreatDoor
open Go.RowKit

theorem infoS : (Tryz.prog.info? 9).map (fun i => (i.zero, i.size, i.bytes)) = some (some (.string ⟨#[]⟩), 1, 16) := by kernel_rfl
/-- What stands between the blanks, and two empty texts behind it. -/
def words (l : ByteArray) : List ByteArray := Lib.splitB ⟨#[32]⟩ 0 (Lib.countB l ⟨#[32]⟩) l ++ [⟨#[]⟩, ⟨#[]⟩]
theorem words_len (l : ByteArray) : (words l).length = Lib.countB l ⟨#[32]⟩ + 1 + 2 := by
  unfold words
  rw [List.length_append, Lib.splitB_all ⟨#[32]⟩ (by decide) 0 _ l rfl]; rfl
theorem words_two (l : ByteArray) : ∃ x y, ((words l).map Value.string)[0]? = some (.string x) ∧ ((words l).map Value.string)[1]? = some (.string y) ∧ (words l)[0]? = some x ∧ (words l)[1]? = some y := by
  have h := words_len l
  match hw : words l, h with
  | x :: y :: r, _ => exact ⟨x, y, rfl, rfl, rfl, rfl⟩
  | [x], h => simp at h
  | [], h => simp at h
theorem words_of (l : ByteArray) (m t : List UInt8) (h : l.data.toList = reqB m t) (hm : ∀ b ∈ m, b ≠ 32) (ht : ∀ b ∈ t, b ≠ 32) (x y : ByteArray) (hx : (words l)[0]? = some x) (hy : (words l)[1]? = some y) : x.data.toList = m ∧ y.data.toList = t := by
  have i1 : Lib.indexB l ⟨#[32]⟩ = (m.length : Int) := by
    show Lib.index l.data.toList [32] = _
    rw [h]; exact index_byte_at 32 m _ hm
  have hz := size_list l
  rw [h, reqB_len] at hz
  obtain ⟨r, hr⟩ : ∃ r : ByteArray, r = l.extract (m.length + 1) l.size := ⟨_, rfl⟩
  have hrd : r.data.toList = t ++ verB := by
    rw [hr, Lib.extract_data, h]
    unfold reqB
    rw [List.drop_append, List.drop_of_length_le (by omega), Nat.add_sub_cancel_left, List.nil_append, List.drop_succ_cons, List.drop_zero]
    exact List.take_of_length_le (by simp [verB]; omega)
  have i2 : Lib.indexB r ⟨#[32]⟩ = (t.length : Int) := by
    show Lib.index r.data.toList [32] = _
    rw [hrd]; exact index_byte_at 32 t _ ht
  have c1 := Lib.countB_hit l ⟨#[32]⟩ m.length (by decide) i1
  have c2 := Lib.countB_hit r ⟨#[32]⟩ t.length (by decide) i2
  have e1 : m.length + (⟨#[32]⟩ : ByteArray).size = m.length + 1 := rfl
  rw [e1, ← hr, c2] at c1
  generalize Lib.countB (r.extract (t.length + (⟨#[32]⟩ : ByteArray).size) r.size) ⟨#[32]⟩ = q at c1
  have ew : words l = l.extract 0 (m.length + 0) :: r.extract 0 (t.length + 0) :: (Lib.splitB ⟨#[32]⟩ 0 q (r.extract (t.length + (⟨#[32]⟩ : ByteArray).size) r.size) ++ [⟨#[]⟩, ⟨#[]⟩]) := by
    unfold words
    rw [c1, show 1 + (1 + q) = (q + 1) + 1 by omega, Lib.splitB_hit _ _ _ _ _ i1, e1, ← hr, Lib.splitB_hit _ _ _ _ _ i2]
    rfl
  rw [ew] at hx hy
  simp only [List.getElem?_cons_zero, List.getElem?_cons_succ, Option.some.injEq] at hx hy
  constructor
  · rw [← hx, Lib.extract_from_zero, h, Nat.add_zero]
    exact List.take_left' rfl
  · rw [← hy, Lib.extract_from_zero, hrd, Nat.add_zero]
    exact List.take_left' rfl

theorem splitB_small (sep : ByteArray) : ∀ (k : Nat) (s p : ByteArray), p ∈ Lib.splitB sep 0 k s → p.size ≤ s.size := by
  intro k
  induction k with
  | zero =>
    intro s p h
    rw [Lib.splitB_zero, List.mem_singleton] at h
    rw [h]; exact Nat.le_refl _
  | succ k ih =>
    intro s p h
    unfold Lib.splitB at h
    split at h
    · rw [List.mem_singleton] at h
      rw [h]; exact Nat.le_refl _
    · rw [List.mem_cons] at h
      rcases h with h | h
      · rw [h, ByteArray.size_extract]; omega
      · have := ih _ p h
        rw [ByteArray.size_extract] at this; omega
theorem words_small (l x : ByteArray) (j : Nat) (h : (words l)[j]? = some x) : x.size ≤ l.size := by
  have hm := List.mem_of_getElem? h
  unfold words at hm
  rw [List.mem_append] at hm
  rcases hm with hm | hm
  · exact splitB_small _ _ _ _ hm
  · simp at hm; subst hm; exact Nat.zero_le _

theorem ret_ss {a b c d : ByteArray} {v u : Value} (h : a = b) (h' : c = d) : Ending.returned (.tuple #[.string a, .string c, v, u]) = .returned (.tuple #[.string b, .string d, v, u]) := by rw [h, h']

set_option maxHeartbeats 4000000 in
set_option maxRecDepth 100000 in
/-- A line that is cut off: what its words say. -/
theorem rparseR_line (s l : ByteArray) (k : Nat) (hix : Lib.index s.data.toList [13, 10] = k) (hk : k ≤ 300) (hks : k + 2 ≤ s.size) (hl : l.data.toList = s.data.toList.take k) (X Y : ByteArray) (n c : Int)
    (hp : ∀ x y : ByteArray, (words l)[0]? = some x → (words l)[1]? = some y → ∀ (z : ByteArray) (d : Int), prR x.data.toList y.data.toList = (z.data.toList, d) → (d = 0 ∧ z.data.toList = l.data.toList ++ [13, 10] ∧ X = x ∧ Y = y ∧ n = k + 2 ∧ c = 0) ∨ ((d ≠ 0 ∨ z.data.toList ≠ l.data.toList ++ [13, 10]) ∧ X = ⟨#[]⟩ ∧ Y = ⟨#[]⟩ ∧ n = 0 ∧ c = 3))
    (m : Int) (w : World) (hm : w.cell? ⟨0, 0, none⟩ = some (.int .i64 m)) (hs : s.size < 4294967281) :
    Calls Tryz.prog 26 #[.string s] w fun e w' => e = .returned (.tuple #[.string X, .string Y, .int .i64 n, .int .i64 c]) ∧ Below w.heap.size w w' := by
  obtain ⟨i0, hi, hz0, hz1, hz2⟩ := info_parts infoS
  have hls : l.size ≤ 300 := by rw [← size_list, hl, List.length_take]; omega
  obtain ⟨x, y, hx, hy, hx', hy'⟩ := words_two l
  obtain ⟨z, d, hz⟩ : ∃ (z : ByteArray) (d : Int), prR x.data.toList y.data.toList = (z.data.toList, d) := ⟨⟨(prR x.data.toList y.data.toList).1.toArray⟩, (prR x.data.toList y.data.toList).2, rfl⟩
  have hcase := hp x y hx' hy' z d hz
  have hcl : Lib.countB l ⟨#[32]⟩ ≤ 301 := by
    have := Lib.count_le l.data.toList (⟨#[32]⟩ : ByteArray).data.toList
    rw [size_list] at this
    show Lib.count _ _ ≤ _
    omega
  have hwl := words_len l
  have hxs : x.size ≤ 300 := by have := words_small l x 0 hx'; omega
  have hys : y.size ≤ 300 := by have := words_small l y 1 hy'; omega
  have HXS : Hid (x.size ≤ maxLen) := by show _ ≤ _; unfold maxLen; omega
  have HYS : Hid (y.size ≤ maxLen) := by show _ ≤ _; unfold maxLen; omega
  have HIX : Hid (Lib.index s.data.toList [13, 10] = k) := hix
  have HL : Hid (l.data.toList = s.data.toList.take k) := hl
  have HM : Hid (w.cell? ⟨0, 0, none⟩ = some (.int .i64 m)) := hm
  have HZ : Hid (prR x.data.toList y.data.toList = (z.data.toList, d)) := hz
  have HC : Hid ((d = 0 ∧ z.data.toList = l.data.toList ++ [13, 10] ∧ X = x ∧ Y = y ∧ n = k + 2 ∧ c = 0) ∨ ((d ≠ 0 ∨ z.data.toList ≠ l.data.toList ++ [13, 10]) ∧ X = ⟨#[]⟩ ∧ Y = ⟨#[]⟩ ∧ n = 0 ∧ c = 3)) := hcase
  have HX : Hid (((words l).map Value.string)[0]? = some (.string x)) := hx
  have HY : Hid (((words l).map Value.string)[1]? = some (.string y)) := hy
  have HW : Hid ((words l).length = Lib.countB l ⟨#[32]⟩ + 1 + 2) := hwl
  obtain ⟨q, hq⟩ : ∃ q, q = Lib.countB l ⟨#[32]⟩ := ⟨_, rfl⟩
  have HQ : Hid (q = Lib.countB l ⟨#[32]⟩) := hq
  have hql : q ≤ 301 := by omega
  have HLIT : Hid ((w.alloc (.cells ((Lib.splitB ⟨#[32]⟩ 0 (Lib.countB l ⟨#[32]⟩) l).map Value.string).toArray 9)).ownsRow w.heap.size 9 1 (.slice (some ⟨w.heap.size, 0, none⟩) (q + 1) (q + 1)) (q + 1) ((Lib.splitB ⟨#[32]⟩ 0 (Lib.countB l ⟨#[32]⟩) l).map Value.string)) := by
    have h := World.ownsRow_lit (base := w.heap.size) (e := 9) (size := 1) w ((Lib.splitB ⟨#[32]⟩ 0 (Lib.countB l ⟨#[32]⟩) l).map Value.string).toArray (q + 1) (Nat.le_refl _) (by unfold maxLen; omega) (by
      rw [List.size_toArray, List.length_map, Lib.splitB_all ⟨#[32]⟩ (by decide) 0 _ l rfl, hq]; omega)
    exact h
  clear hix hl hm hz hcase hx hy hwl hp hx' hy' hcl hq
  go_enter Tryz.func26, Tryz.ntmps26
  go_wp2_with fail
  refine (lineOf_yes s l 300 k HIX.out hk hks HL.out m _ HM.out hs).mono ?_
  rintro e w1 ⟨rfl, rfl⟩
  go_wp2_with fail
  refine (Tryz.strings_Split l ⟨#[32]⟩ m _ (by omega) HM.out (by decide)).mono ?_
  rintro e w2 ⟨rfl, rfl⟩
  rw [← HQ.out]
  have hown := HLIT.out
  rw [← HQ.out] at hown
  have HV : Hid ((Lib.splitB ⟨#[32]⟩ 0 q l).map Value.string ++ [.string ⟨#[]⟩, .string ⟨#[]⟩] = (words l).map Value.string) := by
    show _ = _
    unfold words; rw [← HQ.out, List.map_append]; rfl
  obtain ⟨W2, hW2⟩ : ∃ W2, W2 = w1.alloc (.cells ((Lib.splitB ⟨#[32]⟩ 0 q l).map Value.string).toArray 9) := ⟨_, rfl⟩
  have hb2 : Below w1.heap.size w1 W2 := by rw [hW2]; exact (Below.refl _ _).alloc (Nat.le_refl _) _
  rw [← hW2]
  rw [← hW2] at hown
  clear hW2 HLIT
  have hs2 := hb2.size
  generalize (Lib.splitB ⟨#[32]⟩ 0 q l).map Value.string = vs at hown HV
  go_wp2_with (at_builtin; refine wpList_append_own _ rfl _ _ 78 rfl w1.heap.size 9 i0 (.string ⟨#[]⟩) 1 16 Tryz.underlying78 hi hz0 hz1 hz2 rfl (by decide) _ _ _ rfl (hown.alloc _) ⟨W2.heap.size, 0, none⟩ 2 2 [.string ⟨#[]⟩, .string ⟨#[]⟩] rfl rfl ?c1 ?c2 ?c3 ?c4 ?c5 ?_)
  case c1 =>
    intro j u h
    match j, h with
    | 0, h => simp at h; subst h; simp [Addr.add]
    | 1, h => simp at h; subst h; simp [Addr.add]
  case c2 => intro u hu; simp at hu; subst hu; rfl
  case c3 => unfold maxLen; omega
  case c4 => omega
  case c5 => simp; omega
  · intro v' w3 hown' hgrow _
    have hB : Below w1.heap.size w1 w3 := (hb2.alloc (by omega) _).grown hgrow (by simp; omega) (fun b hb => ((hown.alloc (.cells #[.string ⟨#[]⟩, .string ⟨#[]⟩] 9)).lt b hb).1)
    rw [HV.out] at hown'
    obtain ⟨ad, cap, hv, hcm, hnc, hcells⟩ := own_form2 hown'
    obtain ⟨g, hg, hg1, hg2, hcell⟩ := hcells (by omega)
    have c0 := hcell 0 (by omega)
    have c1 := hcell 1 (by omega)
    rw [HX.out] at c0
    rw [HY.out] at c1
    subst hg
    subst hv
    unfold maxLen at hcm
    clear hcells hcell hown' hgrow hown hb2 hs2 HV
    have hN : 3 ≤ q + 1 + 2 := by omega
    generalize q + 1 + 2 = N at hnc hN
    have b0 : 0 < N := by omega
    have b1 : (1 : Int) < (N : Int) := by omega
    go_wp2_with fail
    go_region_held3 (fun w' => w'.cell? ⟨g, 0, none⟩ = some (.string x) ∧ w'.cell? ⟨g, 1, none⟩ = some (.string y)) (go_keep) (first | (go_at_call 22; refine (rprintR_at x y z d HZ.out _ HXS.out HYS.out).mono ?_; rintro e w4 ⟨rfl, hb4⟩; have d0 : w4.cell? ⟨g, 0, none⟩ = some (.string x) := cell_keep hb4 c0; have d1 : w4.cell? ⟨g, 1, none⟩ = some (.string y) := cell_keep hb4 c1))
    have hB4 : Below w1.heap.size w1 w4 := hB.drew.trans (hb4.mono hB.size)
    clear hb4 hB
    have heq : (z.toList == (l ++ ⟨#[13, 10]⟩ : ByteArray).toList) = decide (z.data.toList = l.data.toList ++ [13, 10]) := by
      rw [ByteArray.toList_eq, ByteArray.toList_eq, ByteArray.data_append, Array.toList_append, Bool.eq_iff_iff]; simp
    have HE : Hid ((z.toList == (l ++ ⟨#[13, 10]⟩ : ByteArray).toList) = decide (z.data.toList = l.data.toList ++ [13, 10])) := heq
    clear heq
    rcases HC.out with ⟨hd, hz, hX, hY, hn, hc⟩ | ⟨hd, hX, hY, hn, hc⟩
    · have hq1 : (z.toList == (l ++ ⟨#[13, 10]⟩ : ByteArray).toList) = true := by rw [HE.out]; exact decide_eq_true hz
      subst hd hX hY hn hc
      clear hz
      have mixed : Tryz.prog.follows Departure.mixedOrders = true := by kernel_rfl
      go_wp2_with fail
      go_region_o
      all_goals go_wp2
      all_goals (try simp only [Exit.inBlock, Exit.then])
      all_goals refine bodyPost_ret (results_four rfl _ _ _) rfl ?_
      all_goals exact ⟨rfl, hB4.drew⟩
    · subst hX hY hn hc
      by_cases hd0 : d = 0
      · have hz : z.data.toList ≠ l.data.toList ++ [13, 10] := by rcases hd with h | h; exact absurd hd0 h; exact h
        have hq1 : (z.toList == (l ++ ⟨#[13, 10]⟩ : ByteArray).toList) = false := by rw [HE.out]; exact decide_eq_false hz
        subst hd0
        clear hd hz
        go_wp2_with fail
        (try simp only [Exit.inBlock, Exit.then])
        refine bodyPost_ret (results_four rfl _ _ _) rfl ?_
        exact ⟨rfl, hB4⟩
      · have hcb : (d != 0) = true := by simpa using hd0
        clear hd hd0
        go_wp2_with fail
        (try simp only [Exit.inBlock, Exit.then])
        refine bodyPost_ret (results_four rfl _ _ _) rfl ?_
        exact ⟨rfl, hB4⟩
end Go.Proofs.YtipfjpihciiikaaGreatDoor

/-
  What LineRequestOf of the document's answers computes, whole; the text has less than 2^32 - 15 bytes, and the package variable that the library reads holds some number.
-/
namespace Go.Proofs.YtipfjpihciiikaaGreatDoor
open Go.RowKit

set_option maxHeartbeats 2000000 in
set_option maxRecDepth 100000 in
theorem rparseR_at (s x y : ByteArray) (n c : Int) (h : paR s.data.toList = ((x.data.toList, y.data.toList), n, c)) (m : Int) (w : World) (hm : w.cell? ⟨0, 0, none⟩ = some (.int .i64 m)) (hs : s.size < 4294967281) :
    Calls Tryz.prog 26 #[.string s] w fun e w' => e = .returned (.tuple #[.string x, .string y, .int .i64 n, .int .i64 c]) ∧ Below w.heap.size w w' := by
  have hsl := size_list s
  rcases index_two' s.data.toList [13, 10] with hix | ⟨k, hix, hk⟩
  · rw [paR_no _ hix] at h
    simp only [Prod.mk.injEq] at h
    obtain ⟨⟨h1, h2⟩, rfl, h4⟩ := h
    obtain rfl : (⟨#[]⟩ : ByteArray) = x := mk_self x [] h1.symm
    obtain rfl : (⟨#[]⟩ : ByteArray) = y := mk_self y [] h2.symm
    have HC : Hid ((if 300 + 1 < s.data.toList.length then 2 else 8 : Int) = c) := h4
    have hc0 : (c != 0) = true := by rw [← h4]; split <;> rfl
    have HM : Hid (w.cell? ⟨0, 0, none⟩ = some (.int .i64 m)) := hm
    have HIX : Hid (Lib.index s.data.toList [13, 10] = -1) := hix
    clear h1 h2 h4 hm hix hsl
    go_enter Tryz.func26, Tryz.ntmps26
    go_wp2_with fail
    refine (lineOf_no s 300 (by omega) HIX.out m _ HM.out hs).mono ?_
    rintro e w1 ⟨rfl, rfl⟩
    rw [HC.out]
    go_wp2_with fail
    (try simp only [Exit.inBlock, Exit.then])
    refine bodyPost_ret (results_four rfl _ _ _) rfl ?_
    exact ⟨rfl, Below.refl _ _⟩
  · by_cases hk3 : 300 < k
    · rw [paR_large _ k hix hk3] at h
      simp only [Prod.mk.injEq] at h
      obtain ⟨⟨h1, h2⟩, rfl, rfl⟩ := h
      obtain rfl : (⟨#[]⟩ : ByteArray) = x := mk_self x [] h1.symm
      obtain rfl : (⟨#[]⟩ : ByteArray) = y := mk_self y [] h2.symm
      have HM : Hid (w.cell? ⟨0, 0, none⟩ = some (.int .i64 m)) := hm
      have HIX : Hid (Lib.index s.data.toList [13, 10] = k) := hix
      clear h1 h2 hm hix hsl
      go_enter Tryz.func26, Tryz.ntmps26
      go_wp2_with fail
      refine (lineOf_large s 300 k HIX.out hk3 m _ HM.out hs).mono ?_
      rintro e w1 ⟨rfl, rfl⟩
      go_wp2_with fail
      (try simp only [Exit.inBlock, Exit.then])
      refine bodyPost_ret (results_four rfl _ _ _) rfl ?_
      exact ⟨rfl, Below.refl _ _⟩
    · obtain ⟨l, hl⟩ : ∃ l : ByteArray, l.data.toList = s.data.toList.take k := ⟨⟨(s.data.toList.take k).toArray⟩, rfl⟩
      replace hk : k + 2 ≤ s.size := by simpa using hk
      refine rparseR_line s l k hix (by omega) hk hl x y n c ?_ m w hm hs
      intro a b ha hb z d hz
      cases hr : rdR (s.data.toList.take k) with
      | none =>
        rw [paR_bad _ k hix (by omega) hr] at h
        simp only [Prod.mk.injEq] at h
        obtain ⟨⟨h1, h2⟩, rfl, rfl⟩ := h
        refine .inr ⟨?_, (mk_self x [] h1.symm).symm, (mk_self y [] h2.symm).symm, rfl, rfl⟩
        cases hok : meth a.data.toList && targ b.data.toList
        · rw [prR_no _ _ hok, Prod.mk.injEq] at hz
          exact .inl (by rw [← hz.2]; decide)
        · rw [Bool.and_eq_true] at hok
          rw [prR_ok _ _ hok.1 hok.2, Prod.mk.injEq] at hz
          refine .inr fun e => ?_
          rw [← hz.1] at e
          have e' : reqB a.data.toList b.data.toList = l.data.toList := List.append_cancel_right e
          rw [hl] at e'
          exact rdR_none _ hr _ _ hok.1 hok.2 e'.symm
      | some v =>
        rw [paR_ok _ k hix (by omega) v hr] at h
        simp only [Prod.mk.injEq] at h
        obtain ⟨h1, h3, rfl⟩ := h
        subst h1
        obtain ⟨h4, h5, h6⟩ := rdR_some _ _ _ hr
        obtain ⟨e1, e2⟩ := words_of l x.data.toList y.data.toList (by rw [hl]; exact h4) (meth_no _ 32 (by decide) h5) (targ_no _ 32 (by decide) h6) a b ha hb
        rw [e1, e2, prR_ok _ _ h5 h6, Prod.mk.injEq] at hz
        refine .inl ⟨hz.2.symm, ?_, ?_, ?_, h3.symm, rfl⟩
        · rw [← hz.1, hl, h4]
        · apply ByteArray.ext; apply Array.ext'; exact e1.symm
        · apply ByteArray.ext; apply Array.ext'; exact e2.symm
end Go.Proofs.YtipfjpihciiikaaGreatDoor

/-
  What MsgRequestOf of the document's answers computes; the text has less than 2^32 - 15 bytes.
-/
namespace Go.Proofs.YtipfjpihciiikaaGreatDoor
open Go.RowKit

set_option maxHeartbeats 2000000 in
set_option maxRecDepth 100000 in
theorem rreadQ_at (s x y t : ByteArray) (fs : List Fld) (i : Nat) (c : Int) (h : rdQ KQr s.data.toList = ((x.data.toList, y.data.toList), fs, t.data.toList, i, c)) (m : Int) (w : World) (hs : s.size < 4294967281) (hm : w.cell? ⟨0, 0, none⟩ = some (.int .i64 m)) :
    Calls Tryz.prog 12 #[.string s] w fun e w' => ∃ v, e = .returned (.tuple #[.agg #[.string x, .string y, v, .string t], .int .i64 (i : Int), .int .i64 c]) ∧ FlO w.heap.size w' v fs ∧ Below w.heap.size w w' := by
  have HM : Hid (w.cell? ⟨0, 0, none⟩ = some (.int .i64 m)) := hm
  have HZ : Hid (s.size < 4294967281) := hs
  clear hm hs
  have emp : ∀ z : Int, (([], []), [], [], 0, z) = ((x.data.toList, y.data.toList), fs, t.data.toList, i, c) → x = ⟨#[]⟩ ∧ y = ⟨#[]⟩ ∧ fs = [] ∧ t = ⟨#[]⟩ ∧ i = 0 ∧ c = z := by
    intro z hx
    simp only [Prod.mk.injEq] at hx
    obtain ⟨⟨h1, h2⟩, h3, h4, h5, h6⟩ := hx
    exact ⟨by apply ByteArray.ext; apply Array.ext'; exact h1.symm, by apply ByteArray.ext; apply Array.ext'; exact h2.symm, h3.symm, by apply ByteArray.ext; apply Array.ext'; exact h4.symm, h5.symm, h6.symm⟩
  obtain ⟨p, q, n, d, hp⟩ : ∃ (p q : ByteArray) (n d : Int), paR s.data.toList = ((p.data.toList, q.data.toList), n, d) := ⟨⟨(paR s.data.toList).1.1.toArray⟩, ⟨(paR s.data.toList).1.2.toArray⟩, _, _, rfl⟩
  have HL2 : Hid (∀ o : Obj, Calls Tryz.prog 26 #[.string s] (w.alloc o) fun e w' => e = .returned (.tuple #[.string p, .string q, .int .i64 n, .int .i64 d]) ∧ Below (w.alloc o).heap.size (w.alloc o) w') := by
    intro o
    exact rparseR_at s p q n d hp m (w.alloc o) (cell_keep (below_alloc w o) HM.out) HZ.out
  unfold rdQ at h
  rw [hp] at h
  simp only at h
  by_cases hd : d = 0
  · subst hd
    rw [if_neg (by simp)] at h
    have hn := paR_num (s := s.data.toList) (by rw [hp])
    rw [hp, size_list] at hn
    simp only at hn
    obtain ⟨a, rfl⟩ : ∃ a : Nat, n = (a : Int) := ⟨n.toNat, by omega⟩
    obtain ⟨r, hr, hrs, hsl⟩ := slice_from s a (by omega)
    rw [Int.toNat_natCast, ← hr] at h
    obtain ⟨gs, u, j, f, hu⟩ : ∃ (gs : List Fld) (u : ByteArray) (j : Nat) (f : Int), rdB (KQr p.data.toList) r.data.toList = (gs, u.data.toList, j, f) := ⟨_, ⟨(rdB (KQr p.data.toList) r.data.toList).2.1.toArray⟩, _, _, rfl⟩
    have HU : Hid (rdB (kd true p.data.toList 0) r.data.toList = (gs, u.data.toList, j, f)) := hu
    rw [hu] at h
    simp only at h
    have HRS : Hid (r.size < 4294967281) := by show _ < _; have := HZ.out; omega
    have hsz : s.size ≤ 9223372036854775807 := by have := HZ.out; omega
    have hal : a ≤ s.size := by omega
    by_cases hf0 : f = 0
    · subst hf0
      rw [if_neg (by simp)] at h
      simp only [Prod.mk.injEq] at h
      obtain ⟨⟨h1, h2⟩, rfl, h4, h5, rfl⟩ := h
      obtain rfl : x = p := by apply ByteArray.ext; apply Array.ext'; exact h1.symm
      obtain rfl : y = q := by apply ByteArray.ext; apply Array.ext'; exact h2.symm
      obtain rfl : t = u := by apply ByteArray.ext; apply Array.ext'; exact h4.symm
      have hj : j ≤ r.size := by
        have := (rdB_is (kd_ok true x.data.toList 0) r.data.toList (kd_four x.data.toList 0)).2 (by rw [hu])
        rw [hu, size_list] at this
        exact this.2
      have hsum : a + j ≤ s.size := by omega
      have HI : Hid ((a : Int) + (j : Int) = (i : Int)) := by show _ = _; omega
      clear hp h1 h2 h4 h5 hu hr hrs emp hn
      go_enter Tryz.func12, Tryz.ntmps12
      go_wp2_with fail
      refine (HL2.out _).mono ?_
      rintro e w1 ⟨rfl, hb0⟩
      have hz1 := hb0.size
      rw [World.size_alloc] at hz1
      have hk1 := (hb0.block w.heap.size (by simp)).trans (heap_alloc_new _ _)
      have hb1 := below_new hb0
      clear hb0
      have HM1 : Hid (w1.cell? ⟨0, 0, none⟩ = some (.int .i64 m)) := cell_keep hb1 HM.out
      go_wp2_with fail
      refine (rmsgOf_at true x 0 r t gs j 0 HU.out m _ HRS.out HM1.out).mono ?_
      rintro e w2 ⟨v, rfl, hfl, hb2⟩
      obtain ⟨ad, cap, rfl, _⟩ := own_form2 hfl
      have HFL : Hid (FlO (w.heap.size + 1) w2 (.slice ad gs.length cap) gs) := hfl.le hz1
      have hk2 := (hb2.block w.heap.size (by omega)).trans hk1
      clear hk1
      have hw2 := hb1.trans (hb2.mono hb1.size)
      clear hb1 hb2 hfl
      have z0 := Lib.frozen_of_heap hk2 0
      have z1 := Lib.frozen_of_heap hk2 1
      have z2 := Lib.frozen_of_heap hk2 2
      have z3 := Lib.frozen_of_heap hk2 3
      have c0 : w2.cell? ⟨w.heap.size, 0, none⟩ = some (.string ⟨#[]⟩) := by simp [World.cell?, hk2]
      have c1 : w2.cell? ⟨w.heap.size, 1, none⟩ = some (.string ⟨#[]⟩) := by simp [World.cell?, hk2]
      have c2 : w2.cell? ⟨w.heap.size, 2, none⟩ = some (.slice none 0 0) := by simp [World.cell?, hk2]
      have c3 : w2.cell? ⟨w.heap.size, 3, none⟩ = some (.string ⟨#[]⟩) := by simp [World.cell?, hk2]
      have HK2 : Hid (w2.heap[w.heap.size]? = _) := hk2
      clear hk2
      go_wp2_with fail
      have e0 := set4_cell (a := .string x) (b := .string y) (c := .slice ad gs.length cap) (d := .string t) HK2.out 0
      have e1 := set4_cell (a := .string x) (b := .string y) (c := .slice ad gs.length cap) (d := .string t) HK2.out 1
      have e2 := set4_cell (a := .string x) (b := .string y) (c := .slice ad gs.length cap) (d := .string t) HK2.out 2
      have e3 := set4_cell (a := .string x) (b := .string y) (c := .slice ad gs.length cap) (d := .string t) HK2.out 3
      have hfin := HFL.out.set4 (show w.heap.size < w.heap.size + 1 by omega) (.string x) (.string y) (.slice ad gs.length cap) (.string t)
      have hbl := set4_below (.string x) (.string y) (.slice ad gs.length cap) (.string t) hw2 (Nat.le_refl _)
      change bodyPost _ _ _ _ _ (set4 w2 w.heap.size (.string x) (.string y) (.slice ad gs.length cap) (.string t))
      generalize set4 w2 w.heap.size (.string x) (.string y) (.slice ad gs.length cap) (.string t) = w3 at e0 e1 e2 e3 hfin hbl ⊢
      refine bodyPost_ret (v := .tuple #[.agg #[.string x, .string y, .slice ad gs.length cap, .string t], .int .i64 ((a : Int) + j), .int .i64 0]) (by simp [results, Tryz.results12, go_sem, e0, e1, e2, e3]) rfl ?_
      exact ⟨_, ret_q rfl rfl rfl rfl HI.out rfl, hfin.le (by omega), hbl⟩
    · rw [if_pos hf0] at h
      obtain ⟨rfl, rfl, rfl, rfl, rfl, rfl⟩ := emp _ h
      have hfb : (c != 0) = true := by simpa using hf0
      clear hp h hu hr hrs emp hn hf0
      go_enter Tryz.func12, Tryz.ntmps12
      go_wp2_with fail
      refine (HL2.out _).mono ?_
      rintro e w1 ⟨rfl, hb0⟩
      have hz1 := hb0.size
      rw [World.size_alloc] at hz1
      have hk1 := (hb0.block w.heap.size (by simp)).trans (heap_alloc_new _ _)
      have hb1 := below_new hb0
      clear hb0
      have HM1 : Hid (w1.cell? ⟨0, 0, none⟩ = some (.int .i64 m)) := cell_keep hb1 HM.out
      go_wp2_with fail
      refine (rmsgOf_at true p 0 r u gs j c HU.out m _ HRS.out HM1.out).mono ?_
      rintro e w2 ⟨v, rfl, hfl, hb2⟩
      have hk2 := (hb2.block w.heap.size (by omega)).trans hk1
      have hw2 := hb1.trans (hb2.mono hb1.size)
      clear hb1 hb2 hfl hk1
      have z0 := Lib.frozen_of_heap hk2 0
      have z1 := Lib.frozen_of_heap hk2 1
      have z2 := Lib.frozen_of_heap hk2 2
      have z3 := Lib.frozen_of_heap hk2 3
      have c0 : w2.cell? ⟨w.heap.size, 0, none⟩ = some (.string ⟨#[]⟩) := by simp [World.cell?, hk2]
      have c1 : w2.cell? ⟨w.heap.size, 1, none⟩ = some (.string ⟨#[]⟩) := by simp [World.cell?, hk2]
      have c2 : w2.cell? ⟨w.heap.size, 2, none⟩ = some (.slice none 0 0) := by simp [World.cell?, hk2]
      have c3 : w2.cell? ⟨w.heap.size, 3, none⟩ = some (.string ⟨#[]⟩) := by simp [World.cell?, hk2]
      have HK2 : Hid (w2.heap[w.heap.size]? = _) := hk2
      clear hk2
      go_wp2_with fail
      have e0 := set4_cell (a := .string ⟨#[]⟩) (b := .string ⟨#[]⟩) (c := .slice none 0 0) (d := .string ⟨#[]⟩) HK2.out 0
      have e1 := set4_cell (a := .string ⟨#[]⟩) (b := .string ⟨#[]⟩) (c := .slice none 0 0) (d := .string ⟨#[]⟩) HK2.out 1
      have e2 := set4_cell (a := .string ⟨#[]⟩) (b := .string ⟨#[]⟩) (c := .slice none 0 0) (d := .string ⟨#[]⟩) HK2.out 2
      have e3 := set4_cell (a := .string ⟨#[]⟩) (b := .string ⟨#[]⟩) (c := .slice none 0 0) (d := .string ⟨#[]⟩) HK2.out 3
      have hbl := set4_below (.string ⟨#[]⟩) (.string ⟨#[]⟩) (.slice none 0 0) (.string ⟨#[]⟩) hw2 (Nat.le_refl _)
      change bodyPost _ _ _ _ _ (set4 w2 w.heap.size (.string ⟨#[]⟩) (.string ⟨#[]⟩) (.slice none 0 0) (.string ⟨#[]⟩))
      generalize set4 w2 w.heap.size (.string ⟨#[]⟩) (.string ⟨#[]⟩) (.slice none 0 0) (.string ⟨#[]⟩) = w9 at e0 e1 e2 e3 hbl ⊢
      refine bodyPost_ret (v := .tuple #[.agg #[.string ⟨#[]⟩, .string ⟨#[]⟩, .slice none 0 0, .string ⟨#[]⟩], .int .i64 0, .int .i64 c]) (by simp [results, Tryz.results12, go_sem, e0, e1, e2, e3]) rfl ?_
      exact ⟨_, rfl, FlO.nil _ _, hbl⟩
  · rw [if_pos hd] at h
    obtain ⟨rfl, rfl, rfl, rfl, rfl, rfl⟩ := emp _ h
    have hdb : (c != 0) = true := by simpa using hd
    clear hp h emp hd
    go_enter Tryz.func12, Tryz.ntmps12
    go_wp2_with fail
    refine (HL2.out _).mono ?_
    rintro e w1 ⟨rfl, hb0⟩
    have hk1 := (hb0.block w.heap.size (by simp)).trans (heap_alloc_new _ _)
    have hb1 := below_new hb0
    clear hb0
    have z0 := Lib.frozen_of_heap hk1 0
    have z1 := Lib.frozen_of_heap hk1 1
    have z2 := Lib.frozen_of_heap hk1 2
    have z3 := Lib.frozen_of_heap hk1 3
    have c0 : w1.cell? ⟨w.heap.size, 0, none⟩ = some (.string ⟨#[]⟩) := by simp [World.cell?, hk1]
    have c1 : w1.cell? ⟨w.heap.size, 1, none⟩ = some (.string ⟨#[]⟩) := by simp [World.cell?, hk1]
    have c2 : w1.cell? ⟨w.heap.size, 2, none⟩ = some (.slice none 0 0) := by simp [World.cell?, hk1]
    have c3 : w1.cell? ⟨w.heap.size, 3, none⟩ = some (.string ⟨#[]⟩) := by simp [World.cell?, hk1]
    have HK2 : Hid (w1.heap[w.heap.size]? = _) := hk1
    clear hk1
    go_wp2_with fail
    have e0 := set4_cell (a := .string ⟨#[]⟩) (b := .string ⟨#[]⟩) (c := .slice none 0 0) (d := .string ⟨#[]⟩) HK2.out 0
    have e1 := set4_cell (a := .string ⟨#[]⟩) (b := .string ⟨#[]⟩) (c := .slice none 0 0) (d := .string ⟨#[]⟩) HK2.out 1
    have e2 := set4_cell (a := .string ⟨#[]⟩) (b := .string ⟨#[]⟩) (c := .slice none 0 0) (d := .string ⟨#[]⟩) HK2.out 2
    have e3 := set4_cell (a := .string ⟨#[]⟩) (b := .string ⟨#[]⟩) (c := .slice none 0 0) (d := .string ⟨#[]⟩) HK2.out 3
    have hbl := set4_below (.string ⟨#[]⟩) (.string ⟨#[]⟩) (.slice none 0 0) (.string ⟨#[]⟩) hb1 (Nat.le_refl _)
    change bodyPost _ _ _ _ _ (set4 w1 w.heap.size (.string ⟨#[]⟩) (.string ⟨#[]⟩) (.slice none 0 0) (.string ⟨#[]⟩))
    generalize set4 w1 w.heap.size (.string ⟨#[]⟩) (.string ⟨#[]⟩) (.slice none 0 0) (.string ⟨#[]⟩) = w9 at e0 e1 e2 e3 hbl ⊢
    refine bodyPost_ret (v := .tuple #[.agg #[.string ⟨#[]⟩, .string ⟨#[]⟩, .slice none 0 0, .string ⟨#[]⟩], .int .i64 0, .int .i64 c]) (by simp [results, Tryz.results12, go_sem, e0, e1, e2, e3]) rfl ?_
    exact ⟨_, rfl, FlO.nil _ _, hbl⟩
end Go.Proofs.YtipfjpihciiikaaGreatDoor

/-
  Eq of the document's answers on two lists of the same fields answers true and turns nothing that was there.
-/
namespace Go.Proofs.YtipfjpihciiikaaGreatDoor
open Go.RowKit

set_option maxHeartbeats 1000000 in
set_option maxRecDepth 100000 in
theorem eqF_same (v v' : Value) (ls : List Fld) (w : World) (h : Fl w v ls) (h' : Fl w v' ls) :
    Calls Tryz.prog 28 #[v, v'] w fun e w' => e = .returned (.bool true) ∧ Below w.heap.size w w' := by
  obtain ⟨ad, cap, hv, hnc, hcm, hc⟩ := h
  obtain ⟨ad', cap', hv', hnc', hcm', hc'⟩ := h'
  subst hv hv'
  unfold maxLen at hcm hcm'
  have HC : Hid (0 < ls.length → ∃ g off, ad = some ⟨g, off, none⟩ ∧ g < w.heap.size ∧
    ∀ (k : Nat) (h : k < ls.length), w.cell? ⟨g, off + k * 2, none⟩ = some (.string ⟨(ls[k]).1.toArray⟩) ∧ w.cell? ⟨g, off + k * 2 + 1, none⟩ = some (.string ⟨(ls[k]).2.toArray⟩)) := hc
  have HC' : Hid (0 < ls.length → ∃ g off, ad' = some ⟨g, off, none⟩ ∧ g < w.heap.size ∧
    ∀ (k : Nat) (h : k < ls.length), w.cell? ⟨g, off + k * 2, none⟩ = some (.string ⟨(ls[k]).1.toArray⟩) ∧ w.cell? ⟨g, off + k * 2 + 1, none⟩ = some (.string ⟨(ls[k]).2.toArray⟩)) := hc'
  clear hc hc'
  go_enter Tryz.func28, Tryz.ntmps28
  go_wp2_with fail
  go_loopw [14] (fun i wr => ∃ k : Nat, k ≤ ls.length ∧ i = .int .i64 k ∧ Below w.heap.size w wr) (fun i _ => ls.length - (intOf i).toNat)
  case atStart => exact ⟨0, Nat.zero_le _, rfl, Below.refl _ _⟩
  case round =>
    obtain ⟨k, hk, rfl, hw⟩ := hrel
    by_cases hlt : k < ls.length
    · obtain ⟨g, off, rfl, hgs, hce⟩ := HC.out (by omega)
      obtain ⟨g', off', rfl, hgs', hce'⟩ := HC'.out (by omega)
      obtain ⟨p1, p2⟩ := hce k hlt
      obtain ⟨q1, q2⟩ := hce' k hlt
      have c1 : wr.cell? ⟨g, off + k * 2, none⟩ = some (.string ⟨(ls[k]).1.toArray⟩) := by rw [hw.cell (p := ⟨g, off + k * 2, none⟩) hgs]; exact p1
      have c2 : wr.cell? ⟨g, off + k * 2 + 1, none⟩ = some (.string ⟨(ls[k]).2.toArray⟩) := by rw [hw.cell (p := ⟨g, off + k * 2 + 1, none⟩) hgs]; exact p2
      have d1 : wr.cell? ⟨g', off' + k * 2, none⟩ = some (.string ⟨(ls[k]).1.toArray⟩) := by rw [hw.cell (p := ⟨g', off' + k * 2, none⟩) hgs']; exact q1
      have d2 : wr.cell? ⟨g', off' + k * 2 + 1, none⟩ = some (.string ⟨(ls[k]).2.toArray⟩) := by rw [hw.cell (p := ⟨g', off' + k * 2 + 1, none⟩) hgs']; exact q2
      generalize (⟨(ls[k]).1.toArray⟩ : ByteArray) = x at c1 d1
      generalize (⟨(ls[k]).2.toArray⟩ : ByteArray) = y at c2 d2
      have hsz := hw.size
      have hgr : g < wr.heap.size := by omega
      have hgr' : g' < wr.heap.size := by omega
      clear hce hce' p1 p2 q1 q2
      have hki : (k : Int) < (ls.length : Int) := by omega
      have hk0 : (0 : Int) ≤ (k : Int) := by omega
      go_wp2_with fail
      go_quiet (fail)
      go_wp2_with fail
      go_roundw
      case rel => exact ⟨k + 1, by omega, by go_num, (hw.alloc (by omega) _).trans (drewN_below _ _ _)⟩
      case measure => simp [intOf]; omega
    · go_wp2_with fail
      go_ret
      exact ⟨rfl, hw⟩
end Go.Proofs.YtipfjpihciiikaaGreatDoor

/-
  What SameRequest of the document's answers computes of two that are the same.
-/
namespace Go.Proofs.YtipfjpihciiikaaGreatDoor
open Go.RowKit

set_option maxHeartbeats 1000000 in
set_option maxRecDepth 100000 in
theorem sameQ_at (x y t : ByteArray) (v v' : Value) (ls : List Fld) (w : World) (h : Fl w v ls) (h' : Fl w v' ls) :
    Calls Tryz.prog 13 #[.agg #[.string x, .string y, v, .string t], .agg #[.string x, .string y, v', .string t]] w fun e w' => e = .returned (.bool true) ∧ Below w.heap.size w w' := by
  have H1 : Hid (Fl w v ls) := h
  have H2 : Hid (Fl w v' ls) := h'
  clear h h'
  go_enter Tryz.func13, Tryz.ntmps13
  go_wp2_with fail
  refine (eqF_same _ _ _ _ (H1.out.below (below_alloc2 _ _ _)) (H2.out.below (below_alloc2 _ _ _))).mono ?_
  rintro e w1 ⟨rfl, hb1⟩
  have c3 : w1.cell? ⟨w.heap.size, 3, none⟩ = some (.string t) := (new_cell2 hb1 3).1
  have d3 : w1.cell? ⟨w.heap.size + 1, 3, none⟩ = some (.string t) := (new_cell2 hb1 3).2
  have hw1 := below_new2 hb1
  clear hb1
  go_wp2_with fail
  go_ret
  exact ⟨ret_bool (by simp), hw1⟩
end Go.Proofs.YtipfjpihciiikaaGreatDoor

/-
  The walk through MsgReadsRequest: it answers true and turns nothing that was there; the text is of bulk at most 1048576, and the listed variables that the library reads hold what their text lays.
-/
namespace Go.Proofs.YtipfjpihciiikaaGreatDoor
open Go.RowKit

set_option maxHeartbeats 2000000 in
set_option maxRecDepth 100000 in
theorem walkMsgReadsRequest (a0 : ByteArray) (w : World) (z0 : a0.size ≤ 1048576) (hm : ∃ m, w.cell? ⟨0, 0, none⟩ = some (.int .i64 m)) (hT : STabs w) :
    Calls Tryz.prog 4 #[.string a0] w fun e w' => e = .returned (.bool true) ∧ Below w.heap.size w w' := by
  obtain ⟨m, hm⟩ := hm
  have HM : Hid (w.cell? ⟨0, 0, none⟩ = some (.int .i64 m)) := hm
  have HS : Hid (STabs w) := hT
  have HZ : Hid (a0.size < 4294967281) := by show _ < _; omega
  clear hm hT z0
  obtain ⟨x, y, fs, t, i, c, hx⟩ : ∃ (x y : ByteArray) (fs : List Fld) (t : ByteArray) (i : Nat) (c : Int), rdQ KQr a0.data.toList = ((x.data.toList, y.data.toList), fs, t.data.toList, i, c) := ⟨⟨(rdQ KQr a0.data.toList).1.1.toArray⟩, ⟨(rdQ KQr a0.data.toList).1.2.toArray⟩, _, ⟨(rdQ KQr a0.data.toList).2.2.1.toArray⟩, _, _, rfl⟩
  have HX : Hid (rdQ KQr a0.data.toList = ((x.data.toList, y.data.toList), fs, t.data.toList, i, c)) := hx
  clear hx
  go_enter Tryz.func4, Tryz.ntmps4
  go_wp2_with fail
  refine (readQ_at a0 x y t fs i c HX.out m _ HZ.out HS.out HM.out).mono ?_
  rintro e w1 ⟨v1, rfl, hf1, hb1⟩
  obtain ⟨ad1, cap1, rfl, _⟩ := own_form2 hf1
  have HF1 : Hid (FlO w.heap.size w1 (.slice ad1 fs.length cap1) fs) := hf1
  have HM1 : Hid (w1.cell? ⟨0, 0, none⟩ = some (.int .i64 m)) := cell_keep hb1 HM.out
  clear hf1
  go_wp2_with fail
  refine (rreadQ_at a0 x y t fs i c HX.out m _ HZ.out (cell_keep (below_alloc _ _) HM1.out)).mono ?_
  rintro e w2 ⟨v2, rfl, hf2, hb0⟩
  obtain ⟨ad2, cap2, rfl, _⟩ := own_form2 hf2
  have d0 : w2.cell? ⟨w1.heap.size, 0, none⟩ = some (.string x) := new_cell hb0 0
  have d1 : w2.cell? ⟨w1.heap.size, 1, none⟩ = some (.string y) := new_cell hb0 1
  have d2 : w2.cell? ⟨w1.heap.size, 2, none⟩ = some (.slice ad1 fs.length cap1) := new_cell hb0 2
  have d3 : w2.cell? ⟨w1.heap.size, 3, none⟩ = some (.string t) := new_cell hb0 3
  have hlt : w1.heap.size < w2.heap.size := by have := hb0.size; rw [World.size_alloc] at this; omega
  have hb2 := below_new hb0
  have HF2 : Hid (Fl w2 (.slice ad2 fs.length cap2) fs) := hf2.fl
  have HF12 : Hid (Fl w2 (.slice ad1 fs.length cap1) fs) := (HF1.out.below hb2).fl
  have hw2 := hb1.trans (hb2.mono hb1.size)
  clear hf2 hb1 hb2 hb0
  go_wp2_with fail
  refine (sameQ_at x y t _ _ fs _ (HF12.out.below (below_alloc _ _)) (HF2.out.below (below_alloc _ _))).mono ?_
  rintro e w3 ⟨rfl, hb4⟩
  have hb3 := below_new hb4
  have hw3 := hw2.trans (hb3.mono hw2.size)
  clear hb3 hb4 hw2
  go_wp2_with fail
  go_ret
  exact ⟨ret_bool (by simp), hw3⟩
end Go.Proofs.YtipfjpihciiikaaGreatDoor
