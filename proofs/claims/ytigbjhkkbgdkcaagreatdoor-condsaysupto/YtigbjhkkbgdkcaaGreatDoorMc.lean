/-
  What cut, readTags and List of package etag compute.
-/
import Derived.Test.YtigbjhkkbgdkcaaGreatDoorMb
import Derived.Test.YtigbjhkkbgdkcaaGreatDoorShelf
import Derived.Test.YtigbjhkkbgdkcaaGreatDoorRows
import Derived.Handy
import Derived.Lib.LaidTab
import Derived.Lib.LaidU8
import Derived.MakeChecks
import Derived.Shelf.Strings.Builder1
import Derived.Shelf.Strings.BuilderK
import Derived.Deep.QuietTactic
import Derived.BigQuiet
namespace Go.Proofs.YtigbjhkkbgdkcaaGreatDoor
open Go.RowKit

theorem ret_v {v u : Value} (h : v = u) : Ending.returned v = .returned u := by rw [h]
set_option maxHeartbeats 4000000 in
set_option maxRecDepth 100000 in
theorem ecut_any (s : ByteArray) (w : World) (hs : s.size ≤ 1000) :
    Calls Tryz.prog 85 #[.string s] w fun e w' => ∃ v, e = .returned v ∧
      w'.ownsRow w.heap.size 9 1 v (qps s.data.toList).length (strs (qps s.data.toList)) ∧ Below w.heap.size w w' := by
  obtain ⟨i0, hi, hz0, hz1, hz2⟩ := info_parts info9
  go_enter Tryz.func85, Tryz.ntmps85
  go_wp2_with fail
  go_loopw [3, 4, 5, 10] (fun v st wi i wr => ∃ (k a : Nat) (ps : List (List UInt8)) (q : Bool), k ≤ s.size ∧ a ≤ k ∧ i = .int .i64 k ∧ st = .int .i64 a ∧ wi = .bool q ∧
      qcut (s.data.toList.take k) = ⟨ps, (s.data.toList.drop a).take (k - a), q⟩ ∧ wr.ownsRow w.heap.size 9 1 v ps.length (strs ps) ∧ Below w.heap.size w wr) (fun _ _ _ i _ => s.size - (intOf i).toNat)
  case atStart => exact ⟨0, 0, [], false, by omega, by omega, rfl, rfl, rfl, by simp [qcut], World.ownsRow_nil _ _ _ _, Below.refl _ _⟩
  case round =>
    obtain ⟨k, a, ps, q, hk, hak, rfl, rfl, rfl, hcut, hown, hw⟩ := hrel
    have hpl : ps.length ≤ 1000 := by
      have h1 := (qcut_len (s.data.toList.take k)).1
      have h2 := List.length_take_le' k s.data.toList
      rw [hcut] at h1
      rw [size_list] at h2
      simp only at h1
      omega
    have hsz := hw.size
    have HC : Hid (qcut (s.data.toList.take k) = ⟨ps, (s.data.toList.drop a).take (k - a), q⟩) := hcut
    clear hcut
    by_cases hlt : k < s.size
    · have hc1 : (s[k].toNat : Int) < 256 := by have := s[k].toNat_lt; omega
      have HSN : Hid (qcut (s.data.toList.take (k + 1)) = qstep ⟨ps, (s.data.toList.drop a).take (k - a), q⟩ s[k]) := by
        show _ = _
        rw [take_snoc s k hlt, qcut_snoc, HC.out]
      by_cases hq34 : (s[k].toNat : Int) = 34
      · have hd2 : ((s[k].toNat : Int) == 34) = true := by simp [hq34]
        have HS2 : Hid (qcut (s.data.toList.take (k + 1)) = ⟨ps, (s.data.toList.drop a).take (k + 1 - a), !q⟩) := by
          show _ = _
          rw [HSN.out, seg_snoc s a k hak hlt]
          unfold qstep
          have e := eq_of_int _ 34 hq34
          rw [if_neg (fun h => by rw [e] at h; exact absurd h.1 (by decide)), if_pos e]
        clear hq34
        cases q
        · go_wp2_with fail
          go_roundw
          case rel => exact ⟨k + 1, a, ps, true, by omega, by omega, by go_num, rfl, rfl, HS2.out, hown, hw⟩
          case measure => simp [intOf]; omega
        · go_wp2_with fail
          go_roundw
          case rel => exact ⟨k + 1, a, ps, false, by omega, by omega, by go_num, rfl, rfl, HS2.out, hown, hw⟩
          case measure => simp [intOf]; omega
      · have hd2 : ((s[k].toNat : Int) == 34) = false := by rw [beq_eq_false_iff_ne]; exact hq34
        have hn34 := ne_of_int _ 34 hq34
        clear hq34
        by_cases hsep : (s[k].toNat : Int) = 44
        · have hd3 : ((s[k].toNat : Int) == 44) = true := by simp [hsep]
          have h44 := eq_of_int _ 44 hsep
          cases q
          · have HS2 : Hid (qcut (s.data.toList.take (k + 1)) = ⟨ps ++ [(s.data.toList.drop a).take (k - a)], [], false⟩) := by
              show _ = _
              rw [HSN.out]
              unfold qstep
              rw [if_pos ⟨h44, rfl⟩]
            clear hsep hn34 h44
            go_wp2_with (at_builtin; refine wpList_append_own _ rfl _ _ 50 rfl w.heap.size 9 i0 (.string ⟨#[]⟩) 1 16 Tryz.underlying50 hi hz0 hz1 hz2 rfl (by decide) _ _ _ rfl (hown.alloc _) ⟨wr.heap.size, 0, none⟩ 1 1 [.string (s.extract a k)] rfl rfl ?c1 ?c2 ?c3 ?c4 ?c5 ?_)
            case c1 => exact one_cell _ _ _
            case c2 => intro u hu; simp at hu; subst hu; rfl
            case c3 => unfold maxLen; omega
            case c4 => omega
            case c5 => simp; omega
            · intro v' w1 hown' hgrow _
              have hB : Below w.heap.size w w1 := (hw.alloc (by omega) _).grown hgrow (by simp; omega) (fun b hb => ((hown.alloc (.cells #[.string (s.extract a k)] 9)).lt b hb).1)
              have hown2 : w1.ownsRow w.heap.size 9 1 v' (ps ++ [(s.data.toList.drop a).take (k - a)]).length (strs (ps ++ [(s.data.toList.drop a).take (k - a)])) := by
                rw [← strs_snoc, List.length_append, ← extract_seg]; exact hown'
              clear hown' hgrow hown hw
              go_wp2_with fail
              go_roundw
              case rel => exact ⟨k + 1, k + 1, _, false, by omega, by omega, by go_num, by go_num, rfl, by rw [Nat.sub_self, List.take_zero]; exact HS2.out, hown2, hB⟩
              case measure => simp [intOf]; omega
          · have HS2 : Hid (qcut (s.data.toList.take (k + 1)) = ⟨ps, (s.data.toList.drop a).take (k + 1 - a), true⟩) := by
              show _ = _
              rw [HSN.out, seg_snoc s a k hak hlt]
              unfold qstep
              rw [if_neg (fun h => by cases h.2), if_neg hn34]
            clear hsep hn34 h44
            go_wp2_with fail
            go_roundw
            case rel => exact ⟨k + 1, a, ps, true, by omega, by omega, by go_num, rfl, rfl, HS2.out, hown, hw⟩
            case measure => simp [intOf]; omega
        · have hd3 : ((s[k].toNat : Int) == 44) = false := by rw [beq_eq_false_iff_ne]; exact hsep
          have HS2 : Hid (qcut (s.data.toList.take (k + 1)) = ⟨ps, (s.data.toList.drop a).take (k + 1 - a), q⟩) := by
            show _ = _
            rw [HSN.out, seg_snoc s a k hak hlt]
            unfold qstep
            rw [if_neg (fun h => ne_of_int _ 44 hsep h.1), if_neg hn34]
          clear hsep hn34
          go_wp2_with fail
          go_roundw
          case rel => exact ⟨k + 1, a, ps, q, by omega, by omega, by go_num, rfl, rfl, HS2.out, hown, hw⟩
          case measure => simp [intOf]; omega
    · have HE : Hid (qcut s.data.toList = ⟨ps, (s.data.toList.drop a).take (s.size - a), q⟩) := by
        show qcut s.data.toList = _
        have h := HC.out
        have e2 : (s.data.toList.drop a).take (k - a) = (s.data.toList.drop a).take (s.size - a) := by
          rw [List.take_of_length_le (by rw [List.length_drop, size_list]; omega), List.take_of_length_le (by rw [List.length_drop, size_list]; omega)]
        rw [List.take_of_length_le (by rw [size_list]; omega), e2] at h
        exact h
      go_wp2_with (at_builtin; refine wpList_append_own _ rfl _ _ 50 rfl w.heap.size 9 i0 (.string ⟨#[]⟩) 1 16 Tryz.underlying50 hi hz0 hz1 hz2 rfl (by decide) _ _ _ rfl (hown.alloc _) ⟨wr.heap.size, 0, none⟩ 1 1 [.string (s.extract a s.size)] rfl rfl ?d1 ?d2 ?d3 ?d4 ?d5 ?_)
      case d1 => exact one_cell _ _ _
      case d2 => intro u hu; simp at hu; subst hu; rfl
      case d3 => unfold maxLen; omega
      case d4 => omega
      case d5 => simp; omega
      · intro v' w1 hown' hgrow _
        have hB : Below w.heap.size w w1 := (hw.alloc (by omega) _).grown hgrow (by simp; omega) (fun b hb => ((hown.alloc (.cells #[.string (s.extract a s.size)] 9)).lt b hb).1)
        have hown2 : w1.ownsRow w.heap.size 9 1 v' (qps s.data.toList).length (strs (qps s.data.toList)) := by
          unfold qps
          rw [HE.out, ← strs_snoc, List.length_append, ← extract_seg]; exact hown'
        clear hown' hgrow hown hw
        go_wp2_with fail
        go_ret
        exact ⟨v', rfl, hown2, hB⟩
set_option maxHeartbeats 4000000 in
set_option maxRecDepth 100000 in
theorem eread_at (B : Nat) (v : Value) (P : List (List UInt8)) (w : World) (h : w.ownsRow B 9 1 v P.length (strs P)) (hP : P.length ≤ 1001) (hPl : ∀ x ∈ P, x.length ≤ 1000) :
    Calls Tryz.prog 84 #[v] w fun e w' => Below w.heap.size w w' ∧ ((tagsE (P.map trimL) = none ∧ e = .returned (.tuple #[.slice none 0 0, .bool false])) ∨
      ∃ ts v', tagsE (P.map trimL) = some ts ∧ e = .returned (.tuple #[v', .bool true]) ∧ w'.ownsRow w.heap.size 30 2 v' ts.length (tgs ts)) := by
  obtain ⟨i1, hi1, hy0, hy1, hy2⟩ := info_parts infoTg
  obtain ⟨ad, cap, hv, hcm, hnc, hcl⟩ := own_form2 h
  subst hv
  have HCL : Hid (0 < P.length → ∃ g, ad = some ⟨g, 0, none⟩ ∧ B ≤ g ∧ g < w.heap.size ∧ ∀ j, j < P.length * 1 → w.cell? ⟨g, j, none⟩ = (strs P)[j]?) := hcl
  have HLEN : Hid (∀ x ∈ P, x.length ≤ 1000) := hPl
  unfold maxLen at hcm
  clear h hcl hPl
  go_enter Tryz.func84, Tryz.ntmps84
  go_wp2_with fail
  go_loopw [4, 12] (fun ov i wr => ∃ (k : Nat) (ts : List Tg), k ≤ P.length ∧ i = .int .i64 k ∧ Hid (tagsE ((P.take k).map trimL) = some ts) ∧ wr.ownsRow w.heap.size 30 2 ov ts.length (tgs ts) ∧ Below w.heap.size w wr) (fun _ i _ => P.length - (intOf i).toNat)
  case atStart => exact ⟨0, [], Nat.zero_le _, rfl, rfl, World.ownsRow_nil _ _ _ _, Below.refl _ _⟩
  case round =>
    obtain ⟨k, ts, hk, rfl, hts, hown, hwr⟩ := hrel
    have hszr := hwr.size
    have htl : ts.length ≤ 1001 := by
      have h1 := tags_len _ _ hts.out
      rw [List.length_map] at h1
      have h2 := List.length_take_le k P
      omega
    by_cases hlt : k < P.length
    · obtain ⟨g, rfl, hgB, hgs, hce⟩ := HCL.out (by omega)
      have hcell := (hwr.cell (p := ⟨g, k, none⟩) hgs).trans ((hce k (by omega)).trans (strs_get P k hlt))
      have hstep := tags_take (P.map trimL) k (by simpa using hlt)
      have hmt : (P.map trimL).take k = (P.take k).map trimL := by rw [List.map_take]
      have hmt1 : (P.map trimL).take (k + 1) = (P.take (k + 1)).map trimL := by rw [List.map_take]
      rw [hmt, hmt1, hts.out, List.getElem_map] at hstep
      have HDEAD : Hid (tstep (some ts) (trimL P[k]) = none → tagsE (P.map trimL) = none) := fun h => tags_dead _ k (by simpa using hlt) (by rw [hmt, hts.out, List.getElem_map]; exact h)
      obtain ⟨t, ht⟩ : ∃ t : ByteArray, t = ⟨(P[k]).toArray⟩ := ⟨_, rfl⟩
      have htl2 : t.size ≤ 1000 := by rw [← size_list, ht]; exact HLEN.out _ (List.getElem_mem hlt)
      rw [← ht] at hcell
      obtain ⟨u, hu⟩ : ∃ u : ByteArray, u = ⟨(trimL P[k]).toArray⟩ := ⟨_, rfl⟩
      have HU : Hid (u.data.toList = trimL t.data.toList) := by show _ = _; rw [hu, ht]
      have hul : u.data.toList = trimL P[k] := by rw [hu]
      have hus : u.size ≤ 1000 := by
        have := trimL_len P[k]
        rw [← hul, size_list] at this
        have h2 := HLEN.out _ (List.getElem_mem hlt)
        omega
      rw [← hul] at hstep HDEAD
      have HSTEP : Hid (tagsE ((P.take (k + 1)).map trimL) = tstep (some ts) u.data.toList) := hstep
      have hki : (k : Int) < (P.length : Int) := by omega
      have hgr : g < wr.heap.size := Nat.lt_of_lt_of_le hgs hszr
      obtain ⟨oad, oc, hov, hom, honc, _⟩ := own_form2 hown
      subst hov
      unfold maxLen at hom
      clear hstep hmt hmt1 ht hu hul hce
      cases hem : u.toList.isEmpty
      · have HEM : Hid (u.data.toList.isEmpty = false) := by show _ = _; rw [← ByteArray.toList_eq]; exact hem
        obtain ⟨x, kk, c, hpa⟩ : ∃ (x : ByteArray) (kk : Bool) (c : Int), paE u.data.toList = ((kk, x.data.toList), c) := ⟨⟨(paE u.data.toList).1.2.toArray⟩, (paE u.data.toList).1.1, (paE u.data.toList).2, rfl⟩
        have HPA : Hid (paE u.data.toList = ((kk, x.data.toList), c)) := hpa
        by_cases hc : c = 0
        · subst hc
          have HT2 : Hid (tagsE ((P.take (k + 1)).map trimL) = some (ts ++ [(kk, x.data.toList)])) := by
            show _ = _
            rw [HSTEP.out]
            unfold tstep
            simp only [HEM.out, hpa]; rfl
          clear hpa
          go_wp2_with fail
          refine (trim_at t u HU.out _ (by omega)).mono ?_
          rintro e w3 ⟨rfl, hb3⟩
          go_wp2_with fail
          refine (eparse_at u x kk 0 HPA.out _ (by omega)).mono ?_
          rintro e w4 ⟨rfl, hb4⟩
          have hw4 := (hwr.trans (hb3.mono hszr)).trans (hb4.mono (by have := hb3.size; omega))
          have hown4 := own_below3 (own_below3 hown hb3) hb4
          have hsz4 := hw4.size
          clear hb3 hb4 hown hwr
          go_wp2_with (at_builtin; refine wpList_append_own _ rfl _ _ 74 rfl w.heap.size 30 i1 (.agg #[.bool false, .string ⟨#[]⟩]) 2 24 Tryz.underlying74 hi1 hy0 hy1 hy2 rfl (by decide) _ _ _ rfl ((hown4.alloc _).alloc _) ⟨w4.heap.size + 1, 0, none⟩ 1 1 [.bool kk, .string x] rfl rfl ?c1 ?c2 ?c3 ?c4 ?c5 ?_)
          case c1 =>
            intro j z h
            match j, h with
            | 0, h => simp at h; subst h; simp [Addr.add]
            | 1, h => simp at h; subst h; simp [Addr.add]
          case c2 => intro z hx; simp at hx; rcases hx with rfl | rfl <;> rfl
          case c3 => unfold maxLen; omega
          case c4 => omega
          case c5 => simp; omega
          · intro v' w5 hown' hgrow _
            have hB : Below w.heap.size w w5 := ((hw4.alloc (by omega) _).alloc (by simp; omega) _).grown hgrow (by simp; omega) (fun b hb => (((hown4.alloc (.cells #[.bool kk, .string x] 30)).alloc (.cells #[.bool kk, .string x] 30)).lt b hb).1)
            have hown5 : w5.ownsRow w.heap.size 30 2 v' (ts ++ [(kk, x.data.toList)]).length (tgs (ts ++ [(kk, x.data.toList)])) := by
              rw [← tgs_snoc, List.length_append]; exact hown'
            clear hown' hgrow hown4 hw4
            go_wp2_with fail
            go_roundw
            case rel => exact ⟨k + 1, _, by omega, by go_num, HT2, hown5, hB⟩
            case measure => simp [intOf]; omega
        · have hcb : (c != 0) = true := by simpa using hc
          have HLE : Hid (tagsE (P.map trimL) = none) := by
            refine HDEAD.out ?_
            unfold tstep
            simp only [HEM.out, hpa]
            simp [hc]
          clear hpa hc
          go_wp2_with fail
          refine (trim_at t u HU.out _ (by omega)).mono ?_
          rintro e w3 ⟨rfl, hb3⟩
          go_wp2_with fail
          refine (eparse_at u x kk c HPA.out _ (by omega)).mono ?_
          rintro e w4 ⟨rfl, hb4⟩
          have hw4 := (hwr.trans (hb3.mono hszr)).trans (hb4.mono (by have := hb3.size; omega))
          clear hb3 hb4 hown hwr
          go_wp2_with fail
          go_ret2
          exact ⟨hw4.alloc hw4.size _, .inl ⟨HLE.out, rfl⟩⟩
      · have HT2 : Hid (tagsE ((P.take (k + 1)).map trimL) = some ts) := by
          show _ = _
          rw [HSTEP.out]
          unfold tstep
          rw [ByteArray.toList_eq] at hem
          simp [hem]
        go_wp2_with fail
        refine (trim_at t u HU.out _ (by omega)).mono ?_
        rintro e w3 ⟨rfl, hb3⟩
        have hw3 := hwr.trans (hb3.mono hszr)
        have hown3 := own_below3 hown hb3
        clear hb3 hown hwr
        go_wp2_with fail
        go_roundw
        case rel => exact ⟨k + 1, _, by omega, by go_num, HT2, hown3, hw3⟩
        case measure => simp [intOf]; omega
    · obtain rfl : k = P.length := by omega
      have HTS : Hid (tagsE (P.map trimL) = some ts) := by
        have := hts.out
        rw [List.take_length] at this; exact this
      have HO : Hid (wr.ownsRow w.heap.size 30 2 _ ts.length (tgs ts)) := hown
      clear hown
      go_wp2_with fail
      go_ret2
      exact ⟨hwr, .inr ⟨ts, _, HTS.out, rfl, HO.out⟩⟩
set_option maxHeartbeats 4000000 in
set_option maxRecDepth 100000 in
theorem elist_any (s : ByteArray) (w : World) :
    Calls Tryz.prog 55 #[.string s] w fun e w' => ∃ v, e = .returned (.tuple #[v, .bool (liE s.data.toList).1.2, .int .i64 (liE s.data.toList).2]) ∧
      w'.ownsRow w.heap.size 30 2 v (liE s.data.toList).1.1.length (tgs (liE s.data.toList).1.1) ∧ Below w.heap.size w w' := by
  by_cases hst : s.data.toList = [42]
  · have hse : s = ⟨#[42]⟩ := by apply ByteArray.ext; apply Array.ext'; exact hst
    subst hse
    have HR : Hid (liE (⟨#[42]⟩ : ByteArray).data.toList = (([], true), 0)) := rfl
    clear hst
    go_enter Tryz.func55, Tryz.ntmps55
    go_wp2_with fail
    go_ret3
    rw [HR.out]
    exact ⟨_, rfl, World.ownsRow_nil _ _ _ _, Below.refl _ _⟩
  · have hne : (s.toList == [42]) = false := by rw [ByteArray.toList_eq, beq_eq_false_iff_ne]; exact hst
    have HNE : Hid (¬ s.data.toList = [42]) := hst
    clear hst
    by_cases hs : s.size ≤ 1000
    · have hsi : ¬ (1000 : Int) < (s.size : Int) := by omega
      have hql := qcut_len s.data.toList
      rw [size_list] at hql
      obtain ⟨P, hP⟩ : ∃ P, P = qps s.data.toList := ⟨_, rfl⟩
      have HP : Hid (P = qps s.data.toList) := hP
      have hPl : P.length ≤ 1001 := by rw [hP]; unfold qps; rw [List.length_append]; simp; omega
      have HLEN : Hid (∀ x ∈ P, x.length ≤ 1000) := by
        intro x hx
        rw [hP] at hx
        unfold qps at hx
        rcases List.mem_append.1 hx with hx | hx
        · have := hql.2 x hx; omega
        · rw [List.mem_singleton.1 hx]; omega
      have HLI : Hid (liE s.data.toList = match tagsE (P.map trimL) with | none => (([], false), 3) | some ts => if ts.isEmpty = true then (([], false), 3) else if 20 < ts.length then (([], false), 2) else ((ts, false), 0)) := by
        show _ = _
        unfold liE
        rw [if_neg (by rw [size_list]; omega), if_neg HNE.out, hP]; rfl
      clear hP hql
      go_enter Tryz.func55, Tryz.ntmps55
      go_wp2_with fail
      refine (ecut_any s _ hs).mono ?_
      rintro e w1 ⟨v1, rfl, hown1, hb1⟩
      rw [← HP.out] at hown1
      have HO1 : Hid (w1.ownsRow w.heap.size 9 1 v1 P.length (strs P)) := hown1
      clear hown1
      go_wp2_with fail
      refine (eread_at w.heap.size v1 P _ HO1.out hPl HLEN.out).mono ?_
      rintro e w2 ⟨hb2, ⟨hno, rfl⟩ | ⟨ts, v', hts, rfl, hown⟩⟩
      · have hw2 := hb1.trans (hb2.mono hb1.size)
        rw [hno] at HLI
        go_wp2_with fail
        go_ret3
        rw [HLI.out]
        exact ⟨_, rfl, World.ownsRow_nil _ _ _ _, hw2⟩
      · have hw2 := hb1.trans (hb2.mono hb1.size)
        rw [hts] at HLI
        have HO : Hid (w2.ownsRow w.heap.size 30 2 v' ts.length (tgs ts)) := own_le hown hb1.size
        have HTS : Hid (tagsE (P.map trimL) = some ts) := hts
        obtain ⟨oad, oc, hov, hom, honc, _⟩ := own_form2 hown
        subst hov
        have HB : Hid (Below w.heap.size w w2) := hw2
        clear hown hb1 hb2 hw2 HO1 hts
        by_cases h0 : ts.length = 0
        · obtain rfl := List.eq_nil_of_length_eq_zero h0
          have HLE : Hid (liE s.data.toList = (([], false), 3)) := by show _ = _; rw [HLI.out]; rfl
          clear h0 HLI
          go_wp2_with fail
          go_ret3
          rw [HLE.out]
          exact ⟨_, rfl, World.ownsRow_nil _ _ _ _, HB.out⟩
        · have h0i : ((ts.length : Int) == 0) = false := beq_eq_false_iff_ne.2 (by omega)
          have hnl : ts.isEmpty = false := by
            cases ts with
            | nil => exact absurd rfl h0
            | cons _ _ => rfl
          by_cases h20 : 20 < ts.length
          · have h20i : (20 : Int) < (ts.length : Int) := by omega
            have HLE : Hid (liE s.data.toList = (([], false), 2)) := by
              show _ = _
              rw [HLI.out]
              simp [hnl, h20]
            clear hnl HLI
            go_wp2_with fail
            go_ret3
            rw [HLE.out]
            exact ⟨_, rfl, World.ownsRow_nil _ _ _ _, HB.out⟩
          · have h20i : ¬ (20 : Int) < (ts.length : Int) := by omega
            have HLE : Hid (liE s.data.toList = ((ts, false), 0)) := by
              show _ = _
              rw [HLI.out]
              simp [hnl, h20]
            clear hnl HLI
            go_wp2_with fail
            go_ret3
            rw [HLE.out]
            exact ⟨_, rfl, HO.out, HB.out⟩
    · have hsi : (1000 : Int) < (s.size : Int) := by omega
      have HR : Hid (liE s.data.toList = (([], false), 2)) := by show _ = _; unfold liE; rw [if_pos (by rw [size_list]; omega)]
      go_enter Tryz.func55, Tryz.ntmps55
      go_wp2_with fail
      go_ret3
      rw [HR.out]
      exact ⟨_, rfl, World.ownsRow_nil _ _ _ _, Below.refl _ _⟩
end Go.Proofs.YtigbjhkkbgdkcaaGreatDoor

/-
  What Strong and Weak of package etag compute.
-/
namespace Go.Proofs.YtigbjhkkbgdkcaaGreatDoor
open Go.RowKit

set_option maxHeartbeats 1000000 in
set_option maxRecDepth 100000 in
theorem estrong_at (k l : Bool) (x y : ByteArray) (b : Bool) (h : (!k && (!l && (x.toList == y.toList))) = b) (w : World) :
    Calls Tryz.prog 33 #[.agg #[.bool k, .string x], .agg #[.bool l, .string y]] w fun e w' => e = .returned (.bool b) ∧ Below w.heap.size w w' := by
  subst h
  have hw0 : Below w.heap.size w ((w.alloc (.cells #[.bool k, .string x] 30)).alloc (.cells #[.bool l, .string y] 30)) := ((Below.refl _ w).alloc (Nat.le_refl _) _).alloc (by simp) _
  cases k <;> cases l <;> cases hq : (x.toList == y.toList)
  all_goals
    go_enter Tryz.func33, Tryz.ntmps33
    go_wp2_with fail
    go_ret
    exact ⟨rfl, hw0⟩
set_option maxHeartbeats 1000000 in
set_option maxRecDepth 100000 in
theorem eweak_at (k l : Bool) (x y : ByteArray) (b : Bool) (h : (x.toList == y.toList) = b) (w : World) :
    Calls Tryz.prog 36 #[.agg #[.bool k, .string x], .agg #[.bool l, .string y]] w fun e w' => e = .returned (.bool b) ∧ Below w.heap.size w w' := by
  subst h
  have hw0 : Below w.heap.size w ((w.alloc (.cells #[.bool k, .string x] 30)).alloc (.cells #[.bool l, .string y] 30)) := ((Below.refl _ w).alloc (Nat.le_refl _) _).alloc (by simp) _
  cases hq : (x.toList == y.toList)
  all_goals
    go_enter Tryz.func36, Tryz.ntmps36
    go_wp2_with fail
    go_ret
    exact ⟨rfl, hw0⟩
end Go.Proofs.YtigbjhkkbgdkcaaGreatDoor

/-
  What slices.ContainsFunc computes over tags and a function value that answers p of each, and what matchTags of package cond does; lists and texts are no longer than Go allows.
-/
namespace Go.Proofs.YtigbjhkkbgdkcaaGreatDoor
open Go.RowKit

/-- A function value that answers p of each tag, in whatever later world, and turns nothing. -/
def PredT (w : World) (f : Value) (p : Tg → Bool) : Prop :=
  ∃ (g : Nat) (lb : Array Value), f = .func (.func g) #[] lb ∧ (∀ args w, (callFunc g args).run Tryz.prog w = .ok (.enter g args) w) ∧
    ∀ (W : World) (k : Bool) (x : ByteArray), Below w.heap.size w W → Calls Tryz.prog g (#[.agg #[.bool k, .string x]] ++ lb) W fun e w' => e = .returned (.bool (p (k, x.data.toList))) ∧ Below W.heap.size W w'
theorem PredT.later {w w' : World} {f : Value} {p : Tg → Bool} (h : PredT w f p) (hb : Below w.heap.size w w') : PredT w' f p := by
  obtain ⟨g, lb, hf, eg, hc⟩ := h
  exact ⟨g, lb, hf, eg, fun W k x hW => hc W k x (hb.trans (hW.mono hb.size))⟩
/-- A function value that holds two tags against each other. -/
def Both (f : Value) (weak : Bool) : Prop :=
  ∃ (g : Nat), f = .func (.func g) #[] #[] ∧ (∀ args w, (callFunc g args).run Tryz.prog w = .ok (.enter g args) w) ∧
    ∀ (W : World) (k l : Bool) (x y : ByteArray), Calls Tryz.prog g #[.agg #[.bool k, .string x], .agg #[.bool l, .string y]] W fun e w' => e = .returned (.bool (if weak = true then (x.data.toList == y.data.toList) else (!k && (!l && (x.data.toList == y.data.toList))))) ∧ Below W.heap.size W w'

set_option maxHeartbeats 2000000 in
set_option maxRecDepth 100000 in
theorem tidx_any (v f : Value) (ts : List Tg) (p : Tg → Bool) (w : World) (hf : Tl w v ts) (hp : PredT w f p) :
    Calls Tryz.prog 86 #[v, f] w fun e w' => ∃ r : Int, e = .returned (.int .i64 r) ∧ decide (0 ≤ r) = ts.any p ∧ Below w.heap.size w w' := by
  obtain ⟨ad, cap, hv, hcap, hcm, hc⟩ := hf
  obtain ⟨g0, lb, hfv, eg, hpc⟩ := hp
  subst hv hfv
  have HC : Hid (0 < ts.length → ∃ g off, ad = some ⟨g, off, none⟩ ∧ g < w.heap.size ∧
    ∀ (k : Nat) (h : k < ts.length), w.cell? ⟨g, off + k * 2, none⟩ = some (.bool (ts[k]).1) ∧ w.cell? ⟨g, off + k * 2 + 1, none⟩ = some (.string ⟨(ts[k]).2.toArray⟩)) := hc
  have HPC : Hid (∀ (W : World) (k : Bool) (x : ByteArray), Below w.heap.size w W → Calls Tryz.prog g0 (#[.agg #[.bool k, .string x]] ++ lb) W fun e w' => e = .returned (.bool (p (k, x.data.toList))) ∧ Below W.heap.size W w') := hpc
  clear hc hpc
  unfold maxLen at hcm
  go_enter Tryz.func86, Tryz.ntmps86
  go_wp2_with fail
  go_loopw [8] (fun i wr => ∃ k : Nat, k ≤ ts.length ∧ i = .int .i64 k ∧ (ts.take k).any p = false ∧ Below w.heap.size w wr) (fun i _ => ts.length - (intOf i).toNat)
  case atStart => exact ⟨0, Nat.zero_le _, rfl, rfl, Below.refl _ _⟩
  case round =>
    obtain ⟨k, hk, rfl, hno, hw⟩ := hrel
    have hsz := hw.size
    have HNO : Hid ((ts.take k).any p = false) := hno
    clear hno
    by_cases hlt : k < ts.length
    · obtain ⟨g, off, rfl, hgs, hce⟩ := HC.out (by omega)
      obtain ⟨c1, c2⟩ := hce k hlt
      obtain ⟨b, hn⟩ : ∃ b : Bool, b = (ts[k]).1 := ⟨_, rfl⟩
      obtain ⟨u, hu⟩ : ∃ u : ByteArray, u = ⟨(ts[k]).2.toArray⟩ := ⟨_, rfl⟩
      have HE : Hid ((b, u.data.toList) = ts[k]) := by show _ = _; rw [hn, hu]
      have d1 : wr.cell? ⟨g, off + k * 2, none⟩ = some (.bool b) := by rw [hw.cell (p := ⟨g, off + k * 2, none⟩) hgs, hn]; exact c1
      have d2 : wr.cell? ⟨g, off + k * 2 + 1, none⟩ = some (.string u) := by rw [hw.cell (p := ⟨g, off + k * 2 + 1, none⟩) hgs, hu]; exact c2
      have hgr : g < wr.heap.size := by omega
      clear hce c1 c2 hn hu
      have hki : (k : Int) < (ts.length : Int) := by omega
      have hk0 : (0 : Int) ≤ (k : Int) := by omega
      cases hq : p (b, u.data.toList)
      · have HQ : Hid (p (b, u.data.toList) = false) := hq
        have HNX : Hid ((ts.take (k + 1)).any p = false) := by
          show _ = _
          rw [any_take _ _ _ hlt, HNO.out, ← HE.out, hq]; rfl
        clear hq
        go_wp2_with (go_at_fn g0; refine (HPC.out _ b u hw).mono ?_; rintro e w2 ⟨rfl, hb2⟩; rw [HQ.out])
        go_roundw
        case rel => exact ⟨k + 1, by omega, by go_num, HNX.out, hw.trans (hb2.mono hw.size)⟩
        case measure => simp [intOf]; omega
      · have HQ : Hid (p (b, u.data.toList) = true) := hq
        have HRK : Hid (ts.any p = true) := by
          show _ = _
          rw [List.any_eq_true]
          exact ⟨ts[k], List.getElem_mem hlt, by rw [← HE.out]; exact hq⟩
        clear hq
        go_wp2_with (go_at_fn g0; refine (HPC.out _ b u hw).mono ?_; rintro e w2 ⟨rfl, hb2⟩; rw [HQ.out])
        go_ret
        exact ⟨_, rfl, by rw [HRK.out]; exact decide_eq_true (by omega), hw.trans (hb2.mono hw.size)⟩
    · have HRK : Hid (ts.any p = false) := by
        show _ = _
        have := HNO.out
        rwa [List.take_of_length_le (by omega)] at this
      go_wp2_with fail
      go_ret
      exact ⟨_, rfl, by rw [HRK.out]; rfl, hw⟩
set_option maxHeartbeats 2000000 in
set_option maxRecDepth 100000 in
theorem tcont_any (v f : Value) (ts : List Tg) (p : Tg → Bool) (w : World) (hf : Tl w v ts) (hp : PredT w f p) :
    Calls Tryz.prog 57 #[v, f] w fun e w' => e = .returned (.bool (ts.any p)) ∧ Below w.heap.size w w' := by
  have HF : Hid (Tl w v ts) := hf
  have HP : Hid (PredT w f p) := hp
  clear hf hp
  go_enter Tryz.func57, Tryz.ntmps57
  go_wp2_with fail
  refine (tidx_any v f ts p _ HF.out HP.out).mono ?_
  rintro e w2 ⟨r, rfl, hr, hb⟩
  have HR : Hid (decide (0 ≤ r) = ts.any p) := hr
  clear hr
  go_wp2_with fail
  go_ret
  exact ⟨ret_bool HR.out, hb⟩
end Go.Proofs.YtigbjhkkbgdkcaaGreatDoor

/-
  New blocks lie above all that was there; no program is named here.
-/
namespace Go.Proofs.YtigbjhkkbgdkcaaGreatDoor
open Go.RowKit

theorem below_alloc (w : World) (o : Obj) : Below w.heap.size w (w.alloc o) := (Below.refl _ w).alloc (Nat.le_refl _) o
theorem below_alloc2 (w : World) (o o' : Obj) : Below w.heap.size w ((w.alloc o).alloc o') := (below_alloc w o).alloc (by simp) o'
theorem below_new {w w1 : World} {o : Obj} (h : Below (w.alloc o).heap.size (w.alloc o) w1) : Below w.heap.size w w1 := (below_alloc w o).trans (h.mono (by simp))
theorem below_new2 {w w1 : World} {o o' : Obj} (h : Below ((w.alloc o).alloc o').heap.size ((w.alloc o).alloc o') w1) : Below w.heap.size w w1 := (below_alloc2 w o o').trans (h.mono (by simp; omega))
theorem new_cell {w w1 : World} {cs : Array Value} {t : TypeId} (h : Below (w.alloc (.cells cs t)).heap.size (w.alloc (.cells cs t)) w1) (j : Nat) : w1.cell? ⟨w.heap.size, j, none⟩ = cs[j]? :=
  (h.cell (p := ⟨w.heap.size, j, none⟩) (by simp)).trans (by simp)
theorem new_cell2 {w w1 : World} {cs ds : Array Value} {t u : TypeId} (h : Below ((w.alloc (.cells cs t)).alloc (.cells ds u)).heap.size ((w.alloc (.cells cs t)).alloc (.cells ds u)) w1) (j : Nat) : w1.cell? ⟨w.heap.size, j, none⟩ = cs[j]? ∧ w1.cell? ⟨w.heap.size + 1, j, none⟩ = ds[j]? :=
  ⟨(h.cell (p := ⟨w.heap.size, j, none⟩) (by simp; omega)).trans (by simp), (h.cell (p := ⟨w.heap.size + 1, j, none⟩) (by simp)).trans (by simp)⟩
theorem two_cells {w W : World} {t : TypeId} {a b : Value} (h : Below (w.alloc (.cells #[a, b] t)).heap.size (w.alloc (.cells #[a, b] t)) W) :
    W.cell? ⟨w.heap.size, 0, none⟩ = some a ∧ W.cell? ⟨w.heap.size, 1, none⟩ = some b ∧ (∀ o, W.frozen? ⟨w.heap.size, o, none⟩ = false) ∧ w.heap.size < W.heap.size ∧ Below w.heap.size w W := by
  refine ⟨new_cell h 0, new_cell h 1, fun o => ?_, ?_, below_new h⟩
  · exact (h.frozen (p := ⟨w.heap.size, o, none⟩) (by simp)).trans (new_free _ _ _ _)
  · have := h.size; simp at this; omega
/-- A block of four cells, all of them written anew. -/
def set4 (w : World) (g : Nat) (a b c d : Value) : World := (((w.setCell ⟨g, 0, none⟩ a).setCell ⟨g, 1, none⟩ b).setCell ⟨g, 2, none⟩ c).setCell ⟨g, 3, none⟩ d
theorem set4_own {w : World} {g : Nat} {t : TypeId} {p q r s a b c d : Value} (h : w.heap[g]? = some (.cells #[p, q, r, s] t (0, 0))) : (set4 w g a b c d).heap[g]? = some (.cells #[a, b, c, d] t (0, 0)) := by
  unfold set4
  have h1 := heap_setCell_same w g 0 _ t a h
  have h2 := heap_setCell_same _ g 1 _ t b h1
  have h3 := heap_setCell_same _ g 2 _ t c h2
  exact heap_setCell_same _ g 3 _ t d h3
theorem set4_other {w : World} {g k : Nat} {a b c d : Value} (h : k ≠ g) : (set4 w g a b c d).heap[k]? = w.heap[k]? := by
  unfold set4
  rw [heap_setCell_other _ _ _ _ h, heap_setCell_other _ _ _ _ h, heap_setCell_other _ _ _ _ h, heap_setCell_other _ _ _ _ h]
theorem set4_below {B : Nat} {w0 w : World} {g : Nat} (a b c d : Value) (hb : Below B w0 w) (hg : B ≤ g) : Below B w0 (set4 w g a b c d) := (((hb.setCell hg a).setCell hg b).setCell hg c).setCell hg d
theorem set4_cell {w : World} {g : Nat} {t : TypeId} {p q r s a b c d : Value} (h : w.heap[g]? = some (.cells #[p, q, r, s] t (0, 0))) (j : Nat) : (set4 w g a b c d).cell? ⟨g, j, none⟩ = #[a, b, c, d][j]? := by
  simp [World.cell?, set4_own h]
end Go.Proofs.YtigbjhkkbgdkcaaGreatDoor

/-
  What matchTags of package cond does; lists and texts are no longer than Go allows.
-/
namespace Go.Proofs.YtigbjhkkbgdkcaaGreatDoor
open Go.RowKit

theorem both_strong : Both (.func (.func 33) #[] #[]) false :=
  ⟨33, rfl, enters_of Tryz.func33 (by kernel_rfl) rfl, fun W k l x y => estrong_at k l x y _ (by rw [ByteArray.toList_eq, ByteArray.toList_eq]; rfl) W⟩
theorem both_weak : Both (.func (.func 36) #[] #[]) true :=
  ⟨36, rfl, enters_of Tryz.func36 (by kernel_rfl) rfl, fun W k l x y => eweak_at k l x y _ (by rw [ByteArray.toList_eq, ByteArray.toList_eq]; rfl) W⟩
set_option maxHeartbeats 1000000 in
set_option maxRecDepth 100000 in
theorem ours_at (k l : Bool) (x y : ByteArray) (c : Int) (tg : Bool) (htg : (c == 0) = tg) (P S : Nat) (f : Value) (weak : Bool) (hf : Both f weak) (w : World) (c1 : w.cell? ⟨P, 1, none⟩ = some (.bool tg)) (c2 : w.cell? ⟨P, 2, none⟩ = some (.bool k)) (c3 : w.cell? ⟨P, 3, none⟩ = some (.string x)) (c4 : w.cell? ⟨S, 0, none⟩ = some f) :
    Calls Tryz.prog 56 #[.agg #[.bool l, .string y], .pointer (some ⟨P, 0, none⟩), .pointer (some ⟨S, 0, none⟩)] w fun e w' => e = .returned (.bool (hitD weak ((k, x.data.toList), c) (l, y.data.toList))) ∧ Below w.heap.size w w' := by
  obtain ⟨g0, rfl, eg, hc⟩ := hf
  have HC : Hid (∀ (W : World) (k l : Bool) (x y : ByteArray), Calls Tryz.prog g0 #[.agg #[.bool k, .string x], .agg #[.bool l, .string y]] W fun e w' => e = .returned (.bool (if weak = true then (x.data.toList == y.data.toList) else (!k && (!l && (x.data.toList == y.data.toList))))) ∧ Below W.heap.size W w') := hc
  have HT : Hid ((c == 0) = tg) := htg
  have hP := cell_in c1
  have hS := cell_in c4
  have hw0 := below_alloc w (.cells #[.bool l, .string y] 30)
  clear hc htg
  cases tg
  · go_enter Tryz.func56, Tryz.ntmps56
    go_wp2_with fail
    go_ret
    exact ⟨ret_bool (by unfold hitD; simp only [HT.out]; rfl), hw0⟩
  · obtain ⟨r, hr⟩ : ∃ r, (if weak = true then (x.data.toList == y.data.toList) else (!k && (!l && (x.data.toList == y.data.toList)))) = r := ⟨_, rfl⟩
    have HR : Hid ((if weak = true then (x.data.toList == y.data.toList) else (!k && (!l && (x.data.toList == y.data.toList)))) = r) := hr
    have HQ : Hid (hitD weak ((k, x.data.toList), c) (l, y.data.toList) = r) := by
      show _ = _
      rw [← hr]
      unfold hitD
      simp only [HT.out, Bool.true_and]
    clear hr
    go_enter Tryz.func56, Tryz.ntmps56
    go_wp2_with (go_at_fn g0; refine (HC.out _ k l x y).mono ?_; rintro e w2 ⟨rfl, hb2⟩; rw [HR.out])
    go_ret
    exact ⟨ret_bool HQ.out.symm, hw0.trans (hb2.mono hw0.size)⟩
set_option maxHeartbeats 2000000 in
set_option maxRecDepth 100000 in
theorem match_at (v : Value) (ls : List Fld) (s : ByteArray) (hs : s.data.toList = sIM ∨ s.data.toList = sINM) (there k : Bool) (x : ByteArray) (mo c : Int) (tg : Bool) (htg : (c == 0) = tg) (tag : List UInt8) (hp : paE tag = ((k, x.data.toList), c)) (f : Value) (weak : Bool) (hf : Both f weak) (a b : Bool)
    (h : mtE ls s.data.toList there tag weak = (a, b)) (w : World) (hl : Fl w v ls) (hW : Wide ls) (hj : (jn (vals ls s.data.toList)).length ≤ 140737488351232) :
    Calls Tryz.prog 32 #[v, .string s, .agg #[.bool there, .bool tg, .bool k, .string x, .int .i64 mo], f] w fun e w' => e = .returned (.tuple #[.bool b, .bool a]) ∧ Below w.heap.size w w' := by
  obtain ⟨g0, rfl, eg, hcc⟩ := hf
  have hmf : ∀ (fn : Fn) (first cap : Array Value) (w : World), (Instr.makeFunc fn first cap).run Tryz.prog w = .ok (.func fn first cap) w := fun _ _ _ _ => rfl
  obtain ⟨t, ht⟩ : ∃ t : ByteArray, t.data.toList = jn (vals ls s.data.toList) := ⟨⟨(jn (vals ls s.data.toList)).toArray⟩, rfl⟩
  have HJ : Hid (t.data.toList = jn (vals ls s.data.toList)) := ht
  have hts : t.size ≤ 140737488355328 := by rw [← size_list, ht]; omega
  have hsl : s.size ≤ 140737488351232 := by
    rw [← size_list]
    rcases hs with h | h <;> rw [h] <;> decide
  have HF : Hid (Fl w v ls) := hl
  have HW : Hid (Wide ls) := hW
  have HB : Hid (Both (.func (.func g0) #[] #[]) weak) := ⟨g0, rfl, eg, hcc⟩
  have HT : Hid ((c == 0) = tg) := htg
  have HP : Hid (paE tag = ((k, x.data.toList), c)) := hp
  have HM : Hid (mtE ls s.data.toList there tag weak = (a, b)) := h
  obtain ⟨L, hL⟩ : ∃ L, liE t.data.toList = L := ⟨_, rfl⟩
  obtain ⟨⟨ts, star⟩, le⟩ := L
  have HL : Hid (liE t.data.toList = ((ts, star), le)) := hL
  have HBK : Hid (Below w.heap.size w ((w.alloc (.cells #[.bool there, .bool tg, .bool k, .string x, .int .i64 mo] 40)).alloc (.cells #[.func (.func g0) #[] #[]] 71))) := below_alloc2 _ _ _
  clear hs hl hW hcc eg htg hp h ht hL hj
  go_enter Tryz.func32, Tryz.ntmps32
  go_wp2_with fail
  refine (get_at v ls s t _ HJ.out rfl _ (HF.out.below HBK.out) HW.out hsl hts).mono ?_
  rintro e w1 ⟨rfl, hb1⟩
  have HB1 : Hid (Below ((w.alloc (.cells #[.bool there, .bool tg, .bool k, .string x, .int .i64 mo] 40)).alloc (.cells #[.func (.func g0) #[] #[]] 71)).heap.size ((w.alloc (.cells #[.bool there, .bool tg, .bool k, .string x, .int .i64 mo] 40)).alloc (.cells #[.func (.func g0) #[] #[]] 71)) w1) := hb1
  clear hb1
  go_wp2_with fail
  refine (elist_any t _).mono ?_
  rintro e w2 ⟨v2, rfl, hown, hb2⟩
  have HB2 : Hid (Below ((w.alloc (.cells #[.bool there, .bool tg, .bool k, .string x, .int .i64 mo] 40)).alloc (.cells #[.func (.func g0) #[] #[]] 71)).heap.size ((w.alloc (.cells #[.bool there, .bool tg, .bool k, .string x, .int .i64 mo] 40)).alloc (.cells #[.func (.func g0) #[] #[]] 71)) w2) := HB1.out.trans (hb2.mono HB1.out.size)
  rw [HL.out] at hown ⊢
  have HO : Hid (Tl w2 v2 ts) := Tl.own hown
  have hc0 := fun j => (new_cell2 HB2.out j).1
  have hcs := fun j => (new_cell2 HB2.out j).2
  have c0 : w2.cell? ⟨w.heap.size, 0, none⟩ = some (.bool there) := hc0 0
  have c1 : w2.cell? ⟨w.heap.size, 1, none⟩ = some (.bool tg) := hc0 1
  have c2 : w2.cell? ⟨w.heap.size, 2, none⟩ = some (.bool k) := hc0 2
  have c3 : w2.cell? ⟨w.heap.size, 3, none⟩ = some (.string x) := hc0 3
  have c4 : w2.cell? ⟨w.heap.size + 1, 0, none⟩ = some (.func (.func g0) #[] #[]) := hcs 0
  have hw2 := below_new2 HB2.out
  have HPT : Hid (PredT w2 (.func (.func 56) #[] #[.pointer (some ⟨w.heap.size, 0, none⟩), .pointer (some ⟨w.heap.size + 1, 0, none⟩)]) (hitD weak ((k, x.data.toList), c))) := by
    refine ⟨56, _, rfl, enters_of Tryz.func56 (by kernel_rfl) rfl, fun W l y hW => ?_⟩
    exact ours_at k l x y c tg HT.out w.heap.size (w.heap.size + 1) _ weak HB.out W (cell_keep hW c1) (cell_keep hW c2) (cell_keep hW c3) (cell_keep hW c4)
  clear c1 c2 c3 c4
  clear hown hb2 hc0 hcs HB1
  by_cases hle : le = 0
  · subst hle
    have hmt := HM.out
    rw [mtE_good there tag weak (by rw [← HJ.out, HL.out]), ← HJ.out, HL.out, HP.out] at hmt
    obtain ⟨rfl, hbb⟩ := Prod.mk.inj hmt
    have HBB : Hid ((there && (star || ts.any (hitD weak ((k, x.data.toList), c)))) = b) := hbb
    clear hmt hbb
    cases there
    · go_wp2_with fail
      go_ret2
      exact ⟨by rw [← HBB.out]; rfl, hw2⟩
    · cases star
      · go_wp2_with fail
        refine (tcont_any v2 _ ts (hitD weak ((k, x.data.toList), c)) _ HO.out HPT.out).mono ?_
        rintro e w3 ⟨rfl, hb3⟩
        have hw3 := hw2.trans (hb3.mono hw2.size)
        go_wp2_with fail
        go_ret2
        exact ⟨by rw [← HBB.out]; rfl, hw3⟩
      · go_wp2_with fail
        go_ret2
        exact ⟨by rw [← HBB.out]; rfl, hw2⟩
  · have hlb : (le != 0) = true := by simpa using hle
    have hmt := HM.out
    rw [mtE_bad there tag weak (by rw [← HJ.out, HL.out]; exact hle)] at hmt
    obtain ⟨rfl, rfl⟩ := Prod.mk.inj hmt
    clear hle hmt
    go_wp2_with fail
    go_ret2
    exact ⟨rfl, hw2⟩
end Go.Proofs.YtigbjhkkbgdkcaaGreatDoor

/-
  The tables that package date and package strconv read, as the rows of this seat list them, hold what their functions ask.
-/
namespace Go.Proofs.YtigbjhkkbgdkcaaGreatDoor
open Go.RowKit Go.Lib

theorem cells_of_strs {H : Type} {enc : TypeId × Value → H} {P : Program} {w : World} {base : Nat} {sp : Nat → Bool} {held : Bool} {fuel : Nat} {t e : TypeId} {n : Nat} {cs : List Value} {zs : List (List UInt8)} {p : List MemPlace}
    (ht : P.underlying t = some (.array n e)) (he : P.underlying e = some .string) (hce : P.cellsOf e = 1) (hct : P.cellsOf t = n)
    (h : DataW.trod enc P w base sp held fuel t cs = some (.agg (zs.map fun z => .lit (.string z)), p)) (i : Nat) (hi : i < zs.length) : cs[i]? = some (.string ⟨(zs.getD i []).toArray⟩) := by
  cases fuel with
  | zero => simp [DataW.trod] at h
  | succ fuel =>
    simp only [DataW.trod, ht, hce, hct, Nat.mul_one] at h
    split at h
    · obtain ⟨xs, hm, hx⟩ := Option.map_eq_some_iff.1 h
      have hxs : xs.map (·.1) = zs.map fun z => (DataW.lit (.string z) : DataW H) := by
        have := congrArg Prod.fst hx
        simpa using this
      have hxl : xs.length = n := by simpa using mapM_length hm
      have hzl : zs.length = n := by
        have := congrArg List.length hxs
        simp at this
        omega
      obtain ⟨b, hb, hf⟩ := mapM_at hm i i (by rw [List.getElem?_range (by omega)])
      obtain ⟨s, hc, rfl, _⟩ := DataW.trod_string he hf
      have h1 : cs[i]? = some (.string s) := by
        have := congrArg (·[0]?) hc
        simpa [List.getElem?_take, List.getElem?_drop] using this
      have h2 : (xs.map (·.1))[i]? = some (DataW.lit (.string s.data.toList) : DataW H) := by simp [hb]
      rw [hxs] at h2
      simp only [List.getElem?_map, Option.map_eq_some_iff, DataW.lit.injEq, Lit.string.injEq] at h2
      obtain ⟨z, hz, hzs⟩ := h2
      rw [h1, List.getD, hz, Option.getD_some, hzs]
    · cases h

structure DTabs (w : World) : Prop where
  pow : Lib.TabIs Tryz.prog w "internal/strconv.uint64pow10" .u64 Lib.pow10Tab
  week : ∀ i : Nat, i < 7 → w.cell? ⟨0, i, none⟩ = some (.string ⟨(weekS i).toArray⟩)
  month : ∀ i : Nat, i < 12 → w.cell? ⟨1, i, none⟩ = some (.string ⟨(monthS i).toArray⟩)

theorem var_below {P : Program} {n : String} {cs : Array Value} {w w' : World} (h : w.var? P n = some cs) (hb : Below w.heap.size w w') : w'.var? P n = some cs := by
  unfold World.var? at h ⊢
  cases hg : P.globalNamed n with
  | none => rw [hg] at h; cases h
  | some g =>
    rw [hg, Option.bind_some] at h
    rw [Option.bind_some]
    by_cases hlt : g < w.heap.size
    · rw [hb.block g hlt]; exact h
    · rw [Array.getElem?_eq_none (by omega)] at h; cases h

theorem lt_of_cell {w : World} {g i : Nat} {v : Value} (h : w.cell? ⟨g, i, none⟩ = some v) : g < w.heap.size := by
  by_cases hg : g < w.heap.size
  · exact hg
  · simp only [World.cell?] at h
    rw [Array.getElem?_eq_none (by omega)] at h
    simp at h

theorem DTabs.below {w w' : World} (h : DTabs w) (hb : Below w.heap.size w w') : DTabs w' where
  pow := var_below h.pow hb
  week := fun i hi => by rw [hb.cell (p := ⟨0, i, none⟩) (lt_of_cell (h.week i hi))]; exact h.week i hi
  month := fun i hi => by rw [hb.cell (p := ⟨1, i, none⟩) (lt_of_cell (h.month i hi))]; exact h.month i hi

theorem strs_of {w : World} {name : String} {g : Nat} {t : TypeId} {n : Nat} {zs : List (List UInt8)} (h : VarReads Tryz.prog w name (.agg (zs.map fun z => .lit (.string z)))) (hg : Tryz.prog.globalNamed name = some g)
    (hty : (Tryz.prog.globals[g]?).map (·.type) = some t) (ht : Tryz.prog.underlying t = some (.array n 9)) (hct : Tryz.prog.cellsOf t = n) (i : Nat) (hi : i < zs.length) : w.cell? ⟨g, i, none⟩ = some (.string ⟨(zs.getD i []).toArray⟩) := by
  obtain ⟨g', t', cs, fuel, p, hg', ht', hv, hd⟩ := h
  obtain rfl := Option.some.inj (hg.symm.trans hg')
  obtain rfl := Option.some.inj (hty.symm.trans ht')
  have hc := cells_of_strs ht Tryz.underlying9 (by kernel_rfl) hct hd i hi
  rw [World.var?_cell hg hv i]
  simpa using hc

theorem dtabs_of {l : List (String × DataW Unit)} (w : World) (h : laidMet Tryz.prog l w) (h1 : ("internal/strconv.uint64pow10", Rows.laid_internal_strconv_uint64pow10) ∈ l)
    (h2 : ("larder/date.weekdays", Rows.laid_larder_date_weekdays) ∈ l) (h3 : ("larder/date.months", Rows.laid_larder_date_months) ∈ l) : DTabs w where
  pow := by
    have r : VarReads Tryz.prog w "internal/strconv.uint64pow10" Rows.laid_internal_strconv_uint64pow10 := laidMet.reads h h1
    rw [show (Rows.laid_internal_strconv_uint64pow10 : DataW Unit) = tabData .u64 pow10Tab from by kernel_rfl] at r
    obtain ⟨g', t', cs, fuel, p, hg', ht', hv, hd⟩ := r
    obtain rfl := Option.some.inj ((show Tryz.prog.globalNamed "internal/strconv.uint64pow10" = some 3 by kernel_rfl).symm.trans hg')
    obtain rfl := Option.some.inj ((show (Tryz.prog.globals[3]?).map (·.type) = some 145 by kernel_rfl).symm.trans ht')
    unfold TabIs
    rw [hv, ← cells_of_tab Tryz.underlying145 Tryz.underlying128 (by kernel_rfl) (by kernel_rfl) hd]
  week := fun i hi => strs_of (zs := weekL) (laidMet.reads h h2) (by kernel_rfl) (by kernel_rfl) Tryz.underlying63 (by kernel_rfl) i hi
  month := fun i hi => strs_of (zs := monthL) (laidMet.reads h h3) (by kernel_rfl) (by kernel_rfl) Tryz.underlying65 (by kernel_rfl) i hi
end Go.Proofs.YtigbjhkkbgdkcaaGreatDoor

/-
  Leap years as Bools; no program is named here.
-/
namespace Go.Proofs.YtigbjhkkbgdkcaaGreatDoor
open Go.RowKit

theorem ret_ie {a b c d : Int} (h : a = b) (h' : c = d) : Ending.returned (.tuple #[.int .i64 a, .int .i64 c]) = .returned (.tuple #[.int .i64 b, .int .i64 d]) := by rw [h, h']

theorem lpB_yes {y : Int} (h4 : y % 4 = 0) (h : y % 100 ≠ 0 ∨ y % 400 = 0) : lpB y = true := by
  unfold lpB lp; rw [if_pos ⟨h4, h⟩]; rfl
theorem lpB_no {y : Int} (h : ¬ (y % 4 = 0 ∧ (y % 100 ≠ 0 ∨ y % 400 = 0))) : lpB y = false := by
  unfold lpB lp; rw [if_neg h]; rfl
theorem lp_of_true {y : Int} (h : lpB y = true) : lp y = 1 := by unfold lpB at h; simpa using h
theorem lp_of_false {y : Int} (h : lpB y = false) : lp y = 0 := by
  have := lp_or y; unfold lpB at h; simp at h; omega
end Go.Proofs.YtigbjhkkbgdkcaaGreatDoor

/-
  What the calendar of package date computes: isLeap, monthLength, leapsAhead, daysAhead, yearOf and Civil, each a contract over the program's text.
-/
namespace Go.Proofs.YtigbjhkkbgdkcaaGreatDoor
open Go.RowKit

set_option maxHeartbeats 400000 in
theorem isLeap_any (y : Int) (w : World) (h1 : 1970 ≤ y) (h2 : y ≤ 10000) :
    Calls Tryz.prog 75 #[.int .i64 y] w fun e w' => e = .returned (.bool (lpB y)) ∧ w' = w := by
  have h0 : 0 ≤ y := by omega
  by_cases a : y % 4 = 0
  · by_cases b : y % 100 = 0
    · by_cases c : y % 400 = 0
      · have HL : Hid (lpB y = true) := lpB_yes a (.inr c)
        go_enter Tryz.func75, Tryz.ntmps75
        go_wp2
        go_ret
        exact ⟨ret_bool (by rw [HL.out]), rfl⟩
      · have HL : Hid (lpB y = false) := lpB_no (by omega)
        go_enter Tryz.func75, Tryz.ntmps75
        go_wp2
        go_ret
        exact ⟨ret_bool (by rw [HL.out]; simpa using c), rfl⟩
    · have HL : Hid (lpB y = true) := lpB_yes a (.inl b)
      go_enter Tryz.func75, Tryz.ntmps75
      go_wp2
      go_ret
      exact ⟨ret_bool (by rw [HL.out]), rfl⟩
  · have HL : Hid (lpB y = false) := lpB_no (by omega)
    go_enter Tryz.func75, Tryz.ntmps75
    go_wp2
    go_ret
    exact ⟨ret_bool (by rw [HL.out]), rfl⟩

set_option maxHeartbeats 400000 in
theorem dim_any (y m : Int) (w : World) (h1 : 1970 ≤ y) (h2 : y ≤ 10000) (h3 : 1 ≤ m) (h4 : m ≤ 12) :
    Calls Tryz.prog 47 #[.int .i64 y, .int .i64 m] w fun e w' => e = .returned (.int .i64 (dim y m)) ∧ w' = w := by
  by_cases hm : m = 2
  · subst hm
    cases hl : lpB y
    · have HL : Hid (lpB y = false) := hl
      have HD : Hid (dim y 2 = 28) := by show dim y 2 = 28; unfold dim; rw [if_pos rfl, lp_of_false hl]; rfl
      clear hl
      go_enter Tryz.func47, Tryz.ntmps47
      go_wp2_with fail
      refine (isLeap_any _ _ h1 h2).mono ?_
      rintro e w' ⟨rfl, rfl⟩
      rw [HL.out]
      go_wp2_with fail
      go_ret
      exact ⟨ret_int (by rw [HD.out]), rfl⟩
    · have HL : Hid (lpB y = true) := hl
      have HD : Hid (dim y 2 = 29) := by show dim y 2 = 29; unfold dim; rw [if_pos rfl, lp_of_true hl]; rfl
      clear hl
      go_enter Tryz.func47, Tryz.ntmps47
      go_wp2_with fail
      refine (isLeap_any _ _ h1 h2).mono ?_
      rintro e w' ⟨rfl, rfl⟩
      rw [HL.out]
      go_wp2_with fail
      go_ret
      exact ⟨ret_int (by rw [HD.out]), rfl⟩
  · have HD : Hid (dim y m = if m = 4 ∨ m = 6 ∨ m = 9 ∨ m = 11 then 30 else 31) := by show dim y m = _; unfold dim; rw [if_neg hm]
    rcases m12 h3 h4 with rfl | rfl | rfl | rfl | rfl | rfl | rfl | rfl | rfl | rfl | rfl | rfl
    all_goals first
      | (exact absurd rfl hm)
      | (clear hm
         go_enter Tryz.func47, Tryz.ntmps47
         go_wp2_with fail
         go_ret
         exact ⟨ret_int (by rw [HD.out]; rfl), rfl⟩)

set_option maxHeartbeats 400000 in
theorem leaps_any (y : Int) (w : World) (h1 : 1970 ≤ y) (h2 : y ≤ 10000) :
    Calls Tryz.prog 74 #[.int .i64 y] w fun e w' => e = .returned (.int .i64 ((y - 1) / 4 - (y - 1) / 100 + (y - 1) / 400)) ∧ w' = w := by
  go_enter Tryz.func74, Tryz.ntmps74
  go_wp2
  go_ret
  exact ⟨rfl, rfl⟩

set_option maxHeartbeats 400000 in
theorem dby_any (y : Int) (w : World) (h1 : 1970 ≤ y) (h2 : y ≤ 10000) :
    Calls Tryz.prog 46 #[.int .i64 y] w fun e w' => e = .returned (.int .i64 (dby y)) ∧ w' = w := by
  have hd : dby y = (y - 1970) * 365 + ((y - 1) / 4 - (y - 1) / 100 + (y - 1) / 400) - 477 := rfl
  have HD : Hid (dby y = (y - 1970) * 365 + ((y - 1) / 4 - (y - 1) / 100 + (y - 1) / 400) - 477) := hd
  clear hd
  go_enter Tryz.func46, Tryz.ntmps46
  go_wp2_with fail
  refine (leaps_any _ _ h1 h2).mono ?_
  rintro e w' ⟨rfl, rfl⟩
  go_wp2_with fail
  refine (leaps_any _ _ (by omega) (by omega)).mono ?_
  rintro e w' ⟨rfl, rfl⟩
  go_wp2_with fail
  go_ret
  exact ⟨ret_int (by rw [HD.out]), rfl⟩

set_option maxHeartbeats 400000 in
theorem yearOf_any (n : Int) (w : World) (h1 : 0 ≤ n) (h2 : n ≤ 2932896) :
    Calls Tryz.prog 45 #[.int .i64 n] w fun e w' => ∃ y : Int, e = .returned (.int .i64 y) ∧ 1970 ≤ y ∧ y ≤ 9999 ∧ dby y ≤ n ∧ n < dby (y + 1) ∧ w' = w := by
  have g0 := dby_guess n h1
  have G0 : Hid (dby (1970 + n / 366) ≤ n) := g0
  clear g0
  go_enter Tryz.func45, Tryz.ntmps45
  go_wp2_with fail
  go_loop [3] (fun t => ∃ y : Int, 1970 ≤ y ∧ y ≤ 9999 ∧ dby y ≤ n ∧ t = .int .i64 y) (fun t => (9999 - intOf t).toNat)
  case atStart => exact ⟨_, by omega, by omega, G0.out, rfl⟩
  case round =>
    obtain ⟨y, hy1, hy2, hy3, rfl⟩ := hrel
    have hb := dby_bd (y + 1) (by omega) (by omega)
    by_cases hc : dby (y + 1) ≤ n
    · have hlt : y < 9999 := by
        by_cases hlt : y < 9999
        · exact hlt
        · obtain rfl : y = 9999 := by omega
          have := dby_max
          have e : dby (9999 + 1) = 2932897 := dby_max
          omega
      go_wp2_with fail
      refine (dby_any _ _ (by omega) (by omega)).mono ?_
      rintro e w' ⟨rfl, rfl⟩
      go_wp2_with fail
      go_round
      case rel => exact ⟨y + 1, by omega, by omega, hc, rfl⟩
      case measure => simp [intOf]; omega
    · go_wp2_with fail
      refine (dby_any _ _ (by omega) (by omega)).mono ?_
      rintro e w' ⟨rfl, rfl⟩
      go_wp2_with fail
      go_ret
      exact ⟨y, rfl, hy1, hy2, hy3, by omega, rfl⟩

theorem civil_no (n : Int) (w : World) (h : n < 0 ∨ 2932896 < n) :
    Calls Tryz.prog 25 #[.int .i64 n] w fun e w' => e = .returned (.tuple #[.int .i64 0, .int .i64 0, .int .i64 0, .int .i64 1]) ∧ w' = w := by
  rcases h with h | h
  · go_enter Tryz.func25, Tryz.ntmps25
    go_wp2_with fail
    exact bodyPost_ret (v := .tuple #[.int .i64 0, .int .i64 0, .int .i64 0, .int .i64 1]) (by simp [results, Tryz.results25, go_sem]) rfl ⟨rfl, rfl⟩
  · have h' : ¬ n < 0 := by omega
    go_enter Tryz.func25, Tryz.ntmps25
    go_wp2_with fail
    exact bodyPost_ret (v := .tuple #[.int .i64 0, .int .i64 0, .int .i64 0, .int .i64 1]) (by simp [results, Tryz.results25, go_sem]) rfl ⟨rfl, rfl⟩

set_option maxHeartbeats 1000000 in
theorem civil_yes (n : Int) (w : World) (h1 : 0 ≤ n) (h2 : n ≤ 2932896) :
    Calls Tryz.prog 25 #[.int .i64 n] w fun e w' => ∃ y m d : Int, e = .returned (.tuple #[.int .i64 y, .int .i64 m, .int .i64 d, .int .i64 0]) ∧ vldB y m d = true ∧ num y m d = n ∧ w' = w := by
  go_enter Tryz.func25, Tryz.ntmps25
  go_wp2_with fail
  refine (yearOf_any _ _ h1 h2).mono ?_
  rintro e w' ⟨y, rfl, hy1, hy2, hy3, hy4, rfl⟩
  have hb := dby_bd y hy1 (by omega)
  have hs := dby_succ y
  have hl := lp_01 y
  have HY : Hid (n < dby y + 365 + lp y) := by show n < _; omega
  clear hy4 hs
  go_wp2_with fail
  refine (dby_any _ _ hy1 (by omega)).mono ?_
  rintro e w' ⟨rfl, rfl⟩
  go_wp2_with fail
  go_loop [7, 8] (fun r k => ∃ m : Int, 1 ≤ m ∧ m ≤ 12 ∧ k = .int .i64 m ∧ 0 ≤ n - dby y - cum y m ∧ r = .int .i64 (n - dby y - cum y m)) (fun _ k => (12 - intOf k).toNat)
  case atStart => exact ⟨1, by omega, by omega, rfl, by rw [cum_one]; omega, by rw [cum_one, Int.sub_zero]⟩
  case round =>
    obtain ⟨m, hm1, hm2, rfl, hr, rfl⟩ := hrel
    have cb := cum_bd y m
    have db := dim_lo y m
    have CS : Hid (cum y (m + 1) = cum y m + dim y m) := cum_succ y m hm1 hm2
    by_cases hc : dim y m ≤ n - dby y - cum y m
    · have hm : m < 12 := by
        by_cases hm : m < 12
        · exact hm
        · obtain rfl : m = 12 := by omega
          have e := CS.out
          have e' : cum y (12 + 1) = 365 + lp y := cum_13 y
          have := HY.out
          omega
      go_wp2_with fail
      refine (dim_any _ _ _ hy1 (by omega) hm1 hm2).mono ?_
      rintro e w' ⟨rfl, rfl⟩
      go_wp2_with fail
      refine (dim_any _ _ _ hy1 (by omega) hm1 hm2).mono ?_
      rintro e w' ⟨rfl, rfl⟩
      go_wp2_with fail
      go_round
      case rel => exact ⟨m + 1, by omega, by omega, rfl, by rw [CS.out]; omega, by rw [CS.out]; go_num⟩
      case measure => simp [intOf]; omega
    · go_wp2_with fail
      refine (dim_any _ _ _ hy1 (by omega) hm1 hm2).mono ?_
      rintro e w' ⟨rfl, rfl⟩
      go_wp2_with fail
      exact bodyPost_ret (v := .tuple #[.int .i64 y, .int .i64 m, .int .i64 (n - dby y - cum y m + 1), .int .i64 0]) (by simp [results, Tryz.results25, go_sem]) rfl ⟨y, m, _, rfl, vld_of n y m hy1 hy2 hm1 hm2 hr (by omega), num_of n y m, rfl⟩
end Go.Proofs.YtigbjhkkbgdkcaaGreatDoor

/-
  The contract of Go's (*strings.Builder).WriteString, which the shelf proves over any program, laid over this seat's translation. No condition but those that the theorem names.
-/
namespace Go.Proofs
def Tryz.lays166_ren : Go.Shelf.Ren := ⟨fun | 166 => 26 | 240 => 48 | 276 => 76 | n => n, fun | 0 => 0 | 3 => 3 | 4 => 4 | 5 => 5 | 9 => 9 | 20 => 20 | 37 => 56 | 70 => 55 | 72 => 58 | 75 => 60 | 80 => 66 | 164 => 99 | n => n, fun | n => n⟩
theorem Tryz.lays166 : Go.Proofs.Lays.n166 Tryz.prog Tryz.lays166_ren := {
  mixed := by kernel_rfl
  f166 := Tryz.func26.trans (congrArg some (by kernel_rfl))
  f240 := Tryz.func48.trans (congrArg some (by kernel_rfl))
  f276 := Tryz.func76.trans (congrArg some (by kernel_rfl))
  t0 := Tryz.underlying0
  a0 := Tryz.isAgg0
  z0 := Tryz.sizeOf0
  v0 := Tryz.zeroValue0
  t3 := Tryz.underlying3
  a3 := Tryz.isAgg3
  z3 := Tryz.sizeOf3
  v3 := Tryz.zeroValue3
  t4 := Tryz.underlying4
  a4 := Tryz.isAgg4
  z4 := Tryz.sizeOf4
  v4 := Tryz.zeroValue4
  t9 := Tryz.underlying9
  a9 := Tryz.isAgg9
  z9 := Tryz.sizeOf9
  v9 := Tryz.zeroValue9
  t20 := Tryz.underlying20
  a20 := Tryz.isAgg20
  z20 := Tryz.sizeOf20
  v20 := Tryz.zeroValue20
  t37 := Tryz.underlying56
  a37 := Tryz.isAgg56
  z37 := Tryz.sizeOf56
  v37 := Tryz.zeroValue56
  t70 := Tryz.underlying55
  a70 := Tryz.isAgg55
  z70 := Tryz.sizeOf55
  v70 := Tryz.zeroValue55
  t72 := Tryz.underlying58
  a72 := Tryz.isAgg58
  z72 := Tryz.sizeOf58
  v72 := Tryz.zeroValue58
  t75 := Tryz.underlying60
  a75 := Tryz.isAgg60
  z75 := Tryz.sizeOf60
  v75 := Tryz.zeroValue60
  t164 := Tryz.underlying99
  a164 := Tryz.isAgg99
  z164 := Tryz.sizeOf99
  v164 := Tryz.zeroValue99 }
theorem Tryz.Builder_Extra_166 : Builder.Extra Tryz.prog Tryz.lays166_ren := {
  sizeBuilder := by kernel_rfl
  liesBuilder := by kernel_rfl
  t5 := Tryz.underlying5
  a5 := Tryz.isAgg5
  z5 := Tryz.sizeOf5
  v5 := Tryz.zeroValue5
  infoByte := by kernel_rfl
  cellsByte := by kernel_rfl
  sizeByte := by kernel_rfl
  neB5 := by decide }
open Go.RowKit in
theorem Tryz.Builder_WriteString (B b : Nat) (bs : List Value) (s : ByteArray) (w : World) (h : Lib.IsBuilder 58 5 B b bs w) (hlen : bs.length + s.size ≤ 140737488355328) (hBw : B ≤ w.heap.size) :
    Calls Tryz.prog 26 #[.pointer (some ⟨b, 0, none⟩), .string s] w fun e w' => e = .returned (.tuple #[.int .i64 s.size, .nilIface]) ∧ (Lib.BuilderAt 58 5 B b (.pointer (some ⟨b, 0, none⟩)) (bs ++ Lib.strCells s) w' ∧ Below B w w') := Any.Builder_WriteString Tryz.lays166 Tryz.Builder_Extra_166 B b bs s w h hlen hBw
open Go.RowKit in
theorem Tryz.Builder_WriteString_k (B b : Nat) (bs : List Value) (s : ByteArray) (w : World) (h : Lib.IsBuilderF 58 5 B b bs w) (hlen : bs.length + s.size ≤ 140737488355328) (hBw : B ≤ w.heap.size) :
    Calls Tryz.prog 26 #[.pointer (some ⟨b, 0, none⟩), .string s] w fun e w' => e = .returned (.tuple #[.int .i64 s.size, .nilIface]) ∧ (Lib.BuilderAtF 58 5 B b (.pointer (some ⟨b, 0, none⟩)) (bs ++ Lib.strCells s) w' ∧ Below B w w' ∧ Lib.OthersKept 5 (some b) w w') := Any.Builder_WriteString_k Tryz.lays166 Tryz.Builder_Extra_166 B b bs s w h hlen hBw
end Go.Proofs

/-
  What digits and Print of package date compute, each a contract over the program's text; the tables that they read hold what the program's text lays there.
-/
namespace Go.Proofs.YtigbjhkkbgdkcaaGreatDoor
open Go.RowKit

theorem ret_se {a b : ByteArray} {c d : Int} (h : a = b) (h' : c = d) : Ending.returned (.tuple #[.string a, .int .i64 c]) = .returned (.tuple #[.string b, .int .i64 d]) := by rw [h, h']
theorem cells_app (a : List UInt8) (s : ByteArray) : Lib.byteCells a ++ Lib.strCells s = Lib.byteCells (a ++ s.data.toList) := by rw [Lib.byteCells_append]; rfl
theorem drewN_belowD (B : Nat) (w : World) (n : Nat) : Below B w (w.drewN n) := by
  induction n with
  | zero => exact Below.refl _ _
  | succ n ih => exact ih.drew
theorem grow_below (w : World) (k : Nat) (os : Array Obj) : Below w.heap.size w (Sort.grow (w.drewN k) os) := by
  have h1 := drewN_belowD w.heap.size w k
  refine ⟨h1.os, h1.tape, h1.output, ?_, fun j hj => ?_⟩
  · rw [Sort.size_grow]; have := h1.size; omega
  · rw [Sort.heap_grow_old _ _ (by have := h1.size; omega)]
    exact h1.block j hj

theorem bu_below {T e : TypeId} {B b : Nat} {bs : List Value} {W W' : World} (h : Lib.IsBuilderF T e B b bs W) (hb : Below W.heap.size W W') : Lib.IsBuilderF T e B b bs W' := by
  have one : ∀ {p : Value}, Lib.BuilderAtF T e B b p bs W → Lib.BuilderAtF T e B b p bs W' := by
    intro p h
    have hlt := h.lt
    obtain ⟨hB, v, hv, hown, hne⟩ := h
    refine ⟨hB, v, ?_, hown.kept (row := none) ⟨hb.os, hb.tape, hb.output, hb.size, fun k hk _ => hb.block k hk⟩ (Classical.em _), hne⟩
    rw [hb.block b hlt]; exact hv
  rcases h with h | h
  · exact .inl (one h)
  · exact .inr (one h)

theorem mk_append (s : ByteArray) (l : List UInt8) (h : l = s.data.toList) : (⟨#[]⟩ : ByteArray) ++ s = ⟨l.toArray⟩ := by
  apply ByteArray.ext
  rw [ByteArray.data_append, h]
  simp

set_option maxHeartbeats 1000000 in
theorem digits2_nat (u : Nat) (h : u < 100) (w : World) :
    Calls Tryz.prog 27 #[.int .i64 (u : Int), .int .i64 2] w fun e w' => e = .returned (.string ⟨(dig2 u).toArray⟩) ∧ w' = w := by
  have c := Tryz.strconv_Itoa_small u h w
  obtain ⟨t, ht⟩ : ∃ t : ByteArray, t = ⟨(Lib.decDigits u).toArray⟩ := ⟨_, rfl⟩
  rw [← ht] at c
  have HL : Hid (t.data.toList = Lib.decDigits u) := by show t.data.toList = _; rw [ht]
  clear ht
  by_cases h1 : u < 10
  · have hz : t.size = 1 := by rw [← size_list, HL.out, Lib.decDigits_one h1]; rfl
    go_enter Tryz.func27, Tryz.ntmps27
    go_wp2_with fail
    refine c.mono ?_
    rintro e w ⟨rfl, rfl⟩
    go_wp2_with fail
    refine (Tryz.strings_Repeat_one _ _).mono ?_
    rintro e w ⟨rfl, rfl⟩
    go_wp2_with fail
    go_ret
    refine ⟨ret_str ?_, rfl⟩
    apply ByteArray.ext
    rw [ByteArray.data_append, ← dec_1 u h1, ← HL.out]
    simp
  · have hz : t.size = 2 := by rw [← size_list, HL.out, dec_2 u h1 h]; rfl
    go_enter Tryz.func27, Tryz.ntmps27
    go_wp2_with fail
    refine c.mono ?_
    rintro e w ⟨rfl, rfl⟩
    go_wp2_with fail
    refine (Tryz.strings_Repeat_zero _ _).mono ?_
    rintro e w ⟨rfl, rfl⟩
    go_wp2_with fail
    go_ret
    exact ⟨ret_str (mk_append _ _ (by rw [HL.out, dec_2 u h1 h])), rfl⟩

theorem digits2_any (x : Int) (h0 : 0 ≤ x) (h1 : x < 100) (w : World) :
    Calls Tryz.prog 27 #[.int .i64 x, .int .i64 2] w fun e w' => e = .returned (.string ⟨(dig2 x.toNat).toArray⟩) ∧ w' = w := by
  obtain ⟨u, rfl⟩ := Int.eq_ofNat_of_zero_le h0
  exact digits2_nat u (by omega) w

set_option maxHeartbeats 1000000 in
theorem digits4_any (x : Int) (h0 : 1000 ≤ x) (h1 : x ≤ 9999) (w : World) (ht : DTabs w) :
    Calls Tryz.prog 27 #[.int .i64 x, .int .i64 4] w fun e w' => e = .returned (.string ⟨(dig4 x.toNat).toArray⟩) ∧ Below w.heap.size w w' := by
  have c := Tryz.strconv_Itoa x (by omega) (by omega) w ht.pow
  obtain ⟨t, ht⟩ : ∃ t : ByteArray, t = ⟨(Lib.itoa x).toArray⟩ := ⟨_, rfl⟩
  rw [← ht] at c
  have HL : Hid (t.data.toList = dig4 x.toNat) := by
    show t.data.toList = _
    rw [ht, ← dec_4 x.toNat (by omega) (by omega), Lib.itoa, if_neg (by omega)]
  have hz : t.size = 4 := by rw [← size_list, HL.out]; rfl
  clear ht
  go_enter Tryz.func27, Tryz.ntmps27
  go_wp2_with fail
  refine c.mono ?_
  rintro e w2 ⟨rfl, k, os, rfl⟩
  have HB : Hid (Below w.heap.size w (Sort.grow (w.drewN k) os)) := grow_below w k os
  go_wp2_with fail
  refine (Tryz.strings_Repeat_zero _ _).mono ?_
  rintro e w3 ⟨rfl, rfl⟩
  go_wp2_with fail
  go_ret
  exact ⟨ret_str (mk_append _ _ HL.out.symm), HB.out⟩

theorem wr_step (B : Nat) (l : List UInt8) (s : ByteArray) (w0 w : World) (hb : Lib.IsBuilderF 58 5 B B (Lib.byteCells l) w) (hw : Below B w0 w) (h0 : B ≤ w0.heap.size) (hl : l.length ≤ 100) (hs : s.size ≤ 100) :
    Calls Tryz.prog 26 #[.pointer (some ⟨B, 0, none⟩), .string s] w fun e w' => e = .returned (.tuple #[.int .i64 s.size, .nilIface]) ∧ Lib.IsBuilderF 58 5 B B (Lib.byteCells (l ++ s.data.toList)) w' ∧ Below B w0 w' := by
  have hsz := hw.size
  refine (Tryz.Builder_WriteString_k B B _ s _ hb (by rw [Lib.byteCells_length]; omega) (by omega)).mono ?_
  rintro e w' ⟨h1, h2, h3, _⟩
  rw [cells_app] at h2
  exact ⟨h1, .inr h2, hw.trans h3⟩
end Go.Proofs.YtigbjhkkbgdkcaaGreatDoor

/-
  What Print of package date computes, a contract over the program's text; the tables that it reads hold what the program's text lays there.
-/
namespace Go.Proofs.YtigbjhkkbgdkcaaGreatDoor
open Go.RowKit

theorem dprint_no (n : Int) (w : World) (h : n < 0 ∨ 253402300799 < n) :
    Calls Tryz.prog 14 #[.int .i64 n] w fun e w' => e = .returned (.tuple #[.string ⟨#[]⟩, .int .i64 1]) ∧ w' = w := by
  rcases h with h | h
  · go_enter Tryz.func14, Tryz.ntmps14
    go_wp2_with fail
    go_ret2
    exact ⟨rfl, rfl⟩
  · have h' : ¬ n < 0 := by omega
    go_enter Tryz.func14, Tryz.ntmps14
    go_wp2_with fail
    go_ret2
    exact ⟨rfl, rfl⟩

set_option maxHeartbeats 4000000 in
set_option maxRecDepth 100000 in
theorem dprint_yes (n : Int) (w : World) (h1 : 0 ≤ n) (h2 : n ≤ 253402300799) (ht : DTabs w) :
    Calls Tryz.prog 14 #[.int .i64 n] w fun e w' => ∃ y m d : Int, e = .returned (.tuple #[.string ⟨(dtext n y m d).toArray⟩, .int .i64 0]) ∧ vldB y m d = true ∧ num y m d = n / 86400 ∧ Below w.heap.size w w' := by
  have HT : Hid (DTabs w) := ht
  clear ht
  go_enter Tryz.func14, Tryz.ntmps14
  go_wp2_with fail
  refine (civil_yes _ _ (by omega) (by omega)).mono ?_
  rintro e w ⟨y, m, d, rfl, hv, hn, rfl⟩
  have HV : Hid (vldB y m d = true) := hv
  have HN : Hid (num y m d = n / 86400) := hn
  obtain ⟨a1, a2, a3, a4, a5, a6⟩ := vld_iff.1 hv
  have hdl := dim_lo y m
  have hd31 : d ≤ 31 := by omega
  clear hv hn a6 hdl
  obtain ⟨k, hk⟩ : ∃ k : Nat, n / 86400 % 7 = (k : Int) := ⟨(n / 86400 % 7).toNat, by omega⟩
  have hk7 : k < 7 := by omega
  obtain ⟨j, hj⟩ : ∃ j : Nat, m - 1 = (j : Int) := ⟨(m - 1).toNat, by omega⟩
  have hj12 : j < 12 := by omega
  have LW : Hid ((weekS k).length = 3) := week_len k hk7
  have LM : Hid ((monthS j).length = 3) := month_len j hj12
  have HX : Hid (dtext n y m d = weekS k ++ [44, 32] ++ dig2 d.toNat ++ [32] ++ monthS j ++ [32] ++ dig4 y.toNat ++ [32]
    ++ dig2 (n % 86400 / 3600).toNat ++ [58] ++ dig2 (n % 3600 / 60).toNat ++ [58] ++ dig2 (n % 60).toNat ++ [32, 71, 77, 84]) := by
    show dtext n y m d = _
    unfold dtext; rw [hk, hj]; rfl
  have hcw := HT.out.week k hk7
  have hgw := lt_of_cell hcw
  have HB0 : Hid (Lib.IsBuilderF 58 5 w.heap.size w.heap.size (Lib.byteCells []) (w.alloc (.cells #[.pointer none, .slice none 0 0] 58))) := Lib.IsBuilderF.of (Lib.fresh_isBuilder 58 5 w)
  have HW0 : Hid (Below w.heap.size w (w.alloc (.cells #[.pointer none, .slice none 0 0] 58))) := (Below.refl _ w).alloc (Nat.le_refl _) _
  go_wp2_with fail
  refine (wr_step w.heap.size _ _ w _ HB0.out HW0.out (Nat.le_refl _) (Nat.zero_le _) (by rw [← size_list]; show (weekS k).length ≤ _; rw [LW.out]; omega)).mono ?_
  rintro e w1 ⟨rfl, hb, hw⟩
  have HB1 : Hid (Lib.IsBuilderF 58 5 w.heap.size w.heap.size (Lib.byteCells (weekS k)) w1) := hb
  have HW1 : Hid (Below w.heap.size w w1) := hw
  clear hb hw HB0 HW0
  clear hcw hgw
  go_wp2_with fail
  refine (wr_step w.heap.size _ _ w _ HB1.out HW1.out (Nat.le_refl _) (by simp only [LW.out]; omega) (by decide)).mono ?_
  rintro e w2 ⟨rfl, hb, hw⟩
  have HB2 : Hid (Lib.IsBuilderF 58 5 w.heap.size w.heap.size (Lib.byteCells (weekS k ++ [44, 32])) w2) := hb
  have HW2 : Hid (Below w.heap.size w w2) := hw
  clear hb hw HB1 HW1
  go_wp2_with fail
  refine (digits2_any _ (by omega) (by omega) _).mono ?_
  rintro e w2 ⟨rfl, rfl⟩
  go_wp2_with fail
  refine (wr_step w.heap.size _ _ w _ HB2.out HW2.out (Nat.le_refl _) (by simp only [LW.out, List.length_append, List.length_cons, List.length_nil]; omega) (by exact Nat.le_of_ble_eq_true rfl)).mono ?_
  rintro e w3 ⟨rfl, hb, hw⟩
  have HB3 : Hid (Lib.IsBuilderF 58 5 w.heap.size w.heap.size (Lib.byteCells (weekS k ++ [44, 32] ++ dig2 d.toNat)) w3) := hb
  have HW3 : Hid (Below w.heap.size w w3) := hw
  clear hb hw HB2 HW2
  go_wp2_with fail
  refine (wr_step w.heap.size _ _ w _ HB3.out HW3.out (Nat.le_refl _) (by simp only [LW.out, dig2_len, List.length_append, List.length_cons, List.length_nil]; omega) (by decide)).mono ?_
  rintro e w4 ⟨rfl, hb, hw⟩
  have HB4 : Hid (Lib.IsBuilderF 58 5 w.heap.size w.heap.size (Lib.byteCells (weekS k ++ [44, 32] ++ dig2 d.toNat ++ [32])) w4) := hb
  have HW4 : Hid (Below w.heap.size w w4) := hw
  clear hb hw HB3 HW3
  have hcm := (HT.out.below HW4.out).month j hj12
  go_wp2_with fail
  refine (wr_step w.heap.size _ _ w _ HB4.out HW4.out (Nat.le_refl _) (by simp only [LW.out, dig2_len, List.length_append, List.length_cons, List.length_nil]; omega) (by rw [← size_list]; show (monthS j).length ≤ _; rw [LM.out]; omega)).mono ?_
  rintro e w5 ⟨rfl, hb, hw⟩
  have HB5 : Hid (Lib.IsBuilderF 58 5 w.heap.size w.heap.size (Lib.byteCells (weekS k ++ [44, 32] ++ dig2 d.toNat ++ [32] ++ monthS j)) w5) := hb
  have HW5 : Hid (Below w.heap.size w w5) := hw
  clear hb hw HB4 HW4
  clear hcm
  go_wp2_with fail
  refine (wr_step w.heap.size _ _ w _ HB5.out HW5.out (Nat.le_refl _) (by simp only [LW.out, LM.out, dig2_len, List.length_append, List.length_cons, List.length_nil]; omega) (by decide)).mono ?_
  rintro e w6 ⟨rfl, hb, hw⟩
  have HB6 : Hid (Lib.IsBuilderF 58 5 w.heap.size w.heap.size (Lib.byteCells (weekS k ++ [44, 32] ++ dig2 d.toNat ++ [32] ++ monthS j ++ [32])) w6) := hb
  have HW6 : Hid (Below w.heap.size w w6) := hw
  clear hb hw HB5 HW5
  go_wp2_with fail
  refine (digits4_any _ (by omega) (by omega) _ (HT.out.below HW6.out)).mono ?_
  rintro e w6a ⟨rfl, hb⟩
  have HB6a : Hid (Lib.IsBuilderF 58 5 w.heap.size w.heap.size (Lib.byteCells (weekS k ++ [44, 32] ++ dig2 d.toNat ++ [32] ++ monthS j ++ [32])) w6a) := bu_below HB6.out hb
  have HW6a : Hid (Below w.heap.size w w6a) := HW6.out.trans (hb.mono HW6.out.size)
  clear hb HB6 HW6
  have HB6 := HB6a
  have HW6 := HW6a
  clear HB6a HW6a
  go_wp2_with fail
  refine (wr_step w.heap.size _ _ w _ HB6.out HW6.out (Nat.le_refl _) (by simp only [LW.out, LM.out, dig2_len, List.length_append, List.length_cons, List.length_nil]; omega) (by exact Nat.le_of_ble_eq_true rfl)).mono ?_
  rintro e w7 ⟨rfl, hb, hw⟩
  have HB7 : Hid (Lib.IsBuilderF 58 5 w.heap.size w.heap.size (Lib.byteCells (weekS k ++ [44, 32] ++ dig2 d.toNat ++ [32] ++ monthS j ++ [32] ++ dig4 y.toNat)) w7) := hb
  have HW7 : Hid (Below w.heap.size w w7) := hw
  clear hb hw HB6 HW6
  go_wp2_with fail
  refine (wr_step w.heap.size _ _ w _ HB7.out HW7.out (Nat.le_refl _) (by simp only [LW.out, LM.out, dig2_len, dig4_len, List.length_append, List.length_cons, List.length_nil]; omega) (by decide)).mono ?_
  rintro e w8 ⟨rfl, hb, hw⟩
  have HB8 : Hid (Lib.IsBuilderF 58 5 w.heap.size w.heap.size (Lib.byteCells (weekS k ++ [44, 32] ++ dig2 d.toNat ++ [32] ++ monthS j ++ [32] ++ dig4 y.toNat ++ [32])) w8) := hb
  have HW8 : Hid (Below w.heap.size w w8) := hw
  clear hb hw HB7 HW7
  go_wp2_with fail
  refine (digits2_any _ (by omega) (by omega) _).mono ?_
  rintro e w8 ⟨rfl, rfl⟩
  go_wp2_with fail
  refine (wr_step w.heap.size _ _ w _ HB8.out HW8.out (Nat.le_refl _) (by simp only [LW.out, LM.out, dig2_len, dig4_len, List.length_append, List.length_cons, List.length_nil]; omega) (by exact Nat.le_of_ble_eq_true rfl)).mono ?_
  rintro e w9 ⟨rfl, hb, hw⟩
  have HB9 : Hid (Lib.IsBuilderF 58 5 w.heap.size w.heap.size (Lib.byteCells (weekS k ++ [44, 32] ++ dig2 d.toNat ++ [32] ++ monthS j ++ [32] ++ dig4 y.toNat ++ [32] ++ dig2 (n % 86400 / 3600).toNat)) w9) := hb
  have HW9 : Hid (Below w.heap.size w w9) := hw
  clear hb hw HB8 HW8
  go_wp2_with fail
  refine (wr_step w.heap.size _ _ w _ HB9.out HW9.out (Nat.le_refl _) (by simp only [LW.out, LM.out, dig2_len, dig4_len, List.length_append, List.length_cons, List.length_nil]; omega) (by decide)).mono ?_
  rintro e w10 ⟨rfl, hb, hw⟩
  have HB10 : Hid (Lib.IsBuilderF 58 5 w.heap.size w.heap.size (Lib.byteCells (weekS k ++ [44, 32] ++ dig2 d.toNat ++ [32] ++ monthS j ++ [32] ++ dig4 y.toNat ++ [32] ++ dig2 (n % 86400 / 3600).toNat ++ [58])) w10) := hb
  have HW10 : Hid (Below w.heap.size w w10) := hw
  clear hb hw HB9 HW9
  go_wp2_with fail
  refine (digits2_any _ (by omega) (by omega) _).mono ?_
  rintro e w10 ⟨rfl, rfl⟩
  go_wp2_with fail
  refine (wr_step w.heap.size _ _ w _ HB10.out HW10.out (Nat.le_refl _) (by simp only [LW.out, LM.out, dig2_len, dig4_len, List.length_append, List.length_cons, List.length_nil]; omega) (by exact Nat.le_of_ble_eq_true rfl)).mono ?_
  rintro e w11 ⟨rfl, hb, hw⟩
  have HB11 : Hid (Lib.IsBuilderF 58 5 w.heap.size w.heap.size (Lib.byteCells (weekS k ++ [44, 32] ++ dig2 d.toNat ++ [32] ++ monthS j ++ [32] ++ dig4 y.toNat ++ [32] ++ dig2 (n % 86400 / 3600).toNat ++ [58] ++ dig2 (n % 3600 / 60).toNat)) w11) := hb
  have HW11 : Hid (Below w.heap.size w w11) := hw
  clear hb hw HB10 HW10
  go_wp2_with fail
  refine (wr_step w.heap.size _ _ w _ HB11.out HW11.out (Nat.le_refl _) (by simp only [LW.out, LM.out, dig2_len, dig4_len, List.length_append, List.length_cons, List.length_nil]; omega) (by decide)).mono ?_
  rintro e w12 ⟨rfl, hb, hw⟩
  have HB12 : Hid (Lib.IsBuilderF 58 5 w.heap.size w.heap.size (Lib.byteCells (weekS k ++ [44, 32] ++ dig2 d.toNat ++ [32] ++ monthS j ++ [32] ++ dig4 y.toNat ++ [32] ++ dig2 (n % 86400 / 3600).toNat ++ [58] ++ dig2 (n % 3600 / 60).toNat ++ [58])) w12) := hb
  have HW12 : Hid (Below w.heap.size w w12) := hw
  clear hb hw HB11 HW11
  go_wp2_with fail
  refine (digits2_any _ (by omega) (by omega) _).mono ?_
  rintro e w12 ⟨rfl, rfl⟩
  go_wp2_with fail
  refine (wr_step w.heap.size _ _ w _ HB12.out HW12.out (Nat.le_refl _) (by simp only [LW.out, LM.out, dig2_len, dig4_len, List.length_append, List.length_cons, List.length_nil]; omega) (by exact Nat.le_of_ble_eq_true rfl)).mono ?_
  rintro e w13 ⟨rfl, hb, hw⟩
  have HB13 : Hid (Lib.IsBuilderF 58 5 w.heap.size w.heap.size (Lib.byteCells (weekS k ++ [44, 32] ++ dig2 d.toNat ++ [32] ++ monthS j ++ [32] ++ dig4 y.toNat ++ [32] ++ dig2 (n % 86400 / 3600).toNat ++ [58] ++ dig2 (n % 3600 / 60).toNat ++ [58] ++ dig2 (n % 60).toNat)) w13) := hb
  have HW13 : Hid (Below w.heap.size w w13) := hw
  clear hb hw HB12 HW12
  go_wp2_with fail
  refine (wr_step w.heap.size _ _ w _ HB13.out HW13.out (Nat.le_refl _) (by simp only [LW.out, LM.out, dig2_len, dig4_len, List.length_append, List.length_cons, List.length_nil]; omega) (by decide)).mono ?_
  rintro e w14 ⟨rfl, hb, hw⟩
  have HB14 : Hid (Lib.IsBuilderF 58 5 w.heap.size w.heap.size (Lib.byteCells (weekS k ++ [44, 32] ++ dig2 d.toNat ++ [32] ++ monthS j ++ [32] ++ dig4 y.toNat ++ [32] ++ dig2 (n % 86400 / 3600).toNat ++ [58] ++ dig2 (n % 3600 / 60).toNat ++ [58] ++ dig2 (n % 60).toNat ++ [32, 71, 77, 84])) w14) := hb
  have HW14 : Hid (Below w.heap.size w w14) := hw
  clear hb hw HB13 HW13
  go_wp2_with fail
  refine (Tryz.Builder_String_any_f w.heap.size w.heap.size _ _ HB14.out HW14.out.size).mono ?_
  rintro e wz ⟨rfl, hz⟩
  have HZ : Hid (Below w.heap.size w wz) := HW14.out.trans hz.2
  clear hz
  go_wp2_with fail
  go_ret2
  exact ⟨y, m, d, ret_se (by rw [HX.out]; simp) rfl, HV.out, HN.out, HZ.out⟩
end Go.Proofs.YtigbjhkkbgdkcaaGreatDoor

/-
  What Days of package date computes, a contract over the program's text.
-/
namespace Go.Proofs.YtigbjhkkbgdkcaaGreatDoor
open Go.RowKit

set_option maxHeartbeats 1000000 in
theorem days_yes (y m d : Int) (w : World) (h : vldB y m d = true) :
    Calls Tryz.prog 110 #[.int .i64 y, .int .i64 m, .int .i64 d] w fun e w' => e = .returned (.tuple #[.int .i64 (num y m d), .int .i64 0]) ∧ w' = w := by
  obtain ⟨a1, a2, a3, a4, a5, a6⟩ := vld_iff.1 h
  have hdl := dim_lo y m
  have hbd := dby_bd y a1 (by omega)
  have HN : Hid (num y m d = dby y + cum y m + d - 1) := rfl
  clear h
  go_enter Tryz.func110, Tryz.ntmps110
  go_wp2_with fail
  refine (dim_any _ _ _ a1 (by omega) a3 a4).mono ?_
  rintro e w' ⟨rfl, rfl⟩
  go_wp2_with fail
  refine (dby_any _ _ a1 (by omega)).mono ?_
  rintro e w' ⟨rfl, rfl⟩
  go_wp2_with fail
  go_loop [8, 9] (fun r k => ∃ j : Int, 1 ≤ j ∧ j ≤ m ∧ k = .int .i64 j ∧ r = .int .i64 (dby y + cum y j)) (fun _ k => (12 - intOf k).toNat)
  case atStart => exact ⟨1, by omega, by omega, rfl, by rw [cum_one, Int.add_zero]⟩
  case round =>
    obtain ⟨j, hj1, hj2, rfl, rfl⟩ := hrel
    have cb := cum_bd y j
    have db := dim_lo y j
    have CS : Hid (cum y (j + 1) = cum y j + dim y j) := cum_succ y j hj1 (by omega)
    by_cases hlt : j < m
    · go_wp2_with fail
      refine (dim_any _ _ _ a1 (by omega) hj1 (by omega)).mono ?_
      rintro e w' ⟨rfl, rfl⟩
      go_wp2_with fail
      go_round
      case rel => exact ⟨j + 1, by omega, by omega, rfl, by rw [CS.out, Int.add_assoc]⟩
      case measure => simp [intOf]; omega
    · obtain rfl : j = m := by omega
      go_wp2_with fail
      go_ret2
      exact ⟨ret_ie (by rw [HN.out]) rfl, rfl⟩

set_option maxHeartbeats 1000000 in
theorem days_no (y m d : Int) (w : World) (h : vldB y m d = false) :
    Calls Tryz.prog 110 #[.int .i64 y, .int .i64 m, .int .i64 d] w fun e w' => e = .returned (.tuple #[.int .i64 0, .int .i64 1]) ∧ w' = w := by
  have hn : ¬ (1970 ≤ y ∧ y ≤ 9999 ∧ 1 ≤ m ∧ m ≤ 12 ∧ 1 ≤ d ∧ d ≤ dim y m) := fun g => by rw [vld_mk g] at h; cases h
  clear h
  by_cases b1 : y < 1970
  · clear hn
    go_enter Tryz.func110, Tryz.ntmps110
    go_wp2_with fail
    go_ret2
    exact ⟨rfl, rfl⟩
  by_cases b2 : 9999 < y
  · clear hn
    go_enter Tryz.func110, Tryz.ntmps110
    go_wp2_with fail
    go_ret2
    exact ⟨rfl, rfl⟩
  by_cases b3 : m < 1
  · clear hn
    go_enter Tryz.func110, Tryz.ntmps110
    go_wp2_with fail
    go_ret2
    exact ⟨rfl, rfl⟩
  by_cases b4 : 12 < m
  · clear hn
    go_enter Tryz.func110, Tryz.ntmps110
    go_wp2_with fail
    go_ret2
    exact ⟨rfl, rfl⟩
  by_cases b5 : d < 1
  · clear hn
    go_enter Tryz.func110, Tryz.ntmps110
    go_wp2_with fail
    go_ret2
    exact ⟨rfl, rfl⟩
  have b6 : dim y m < d := by omega
  clear hn
  go_enter Tryz.func110, Tryz.ntmps110
  go_wp2_with fail
  refine (dim_any _ _ _ (by omega) (by omega) (by omega) (by omega)).mono ?_
  rintro e w' ⟨rfl, rfl⟩
  go_wp2_with fail
  go_ret2
  exact ⟨rfl, rfl⟩
end Go.Proofs.YtigbjhkkbgdkcaaGreatDoor

/-
  What number and monthNumber of package date compute, each a contract over the program's text; the tables that they read hold what the program's text lays there.
-/
namespace Go.Proofs.YtigbjhkkbgdkcaaGreatDoor
open Go.RowKit

theorem ret_ib {a b : Int} {c d : Bool} (h : a = b) (h' : c = d) : Ending.returned (.tuple #[.int .i64 a, .bool c]) = .returned (.tuple #[.int .i64 b, .bool d]) := by rw [h, h']
theorem ret_i {a b : Int} (h : a = b) : Ending.returned (.int .i64 a) = .returned (.int .i64 b) := by rw [h]

theorem numb_bd (l : List UInt8) : ∀ k : Nat, k ≤ 4 → l.length = k → -53328 ≤ numb l ∧ numb l ≤ 229977 := by
  intro k hk hl
  match l, hl with
  | [], _ => exact ⟨by decide, by decide⟩
  | [a], _ =>
    have := a.toNat_lt
    show -53328 ≤ 0 * 10 + (a.toNat : Int) - 48 ∧ 0 * 10 + (a.toNat : Int) - 48 ≤ 229977
    omega
  | [a, b], _ => have := numb_bd2 (l := [a, b]) rfl; omega
  | [a, b, c], _ =>
    have := a.toNat_lt; have := b.toNat_lt; have := c.toNat_lt
    show -53328 ≤ ((0 * 10 + (a.toNat : Int) - 48) * 10 + (b.toNat : Int) - 48) * 10 + (c.toNat : Int) - 48 ∧ ((0 * 10 + (a.toNat : Int) - 48) * 10 + (b.toNat : Int) - 48) * 10 + (c.toNat : Int) - 48 ≤ 229977
    omega
  | [a, b, c, d], _ => exact numb_bd4 (l := [a, b, c, d]) rfl
  | _ :: _ :: _ :: _ :: _ :: _, h => simp at h; omega

set_option maxHeartbeats 1000000 in
theorem number_any (s : ByteArray) (w : World) (hs : s.size ≤ 4) :
    Calls Tryz.prog 111 #[.string s] w fun e w' => e = .returned (.int .i64 (numb s.data.toList)) ∧ w' = w := by
  go_enter Tryz.func111, Tryz.ntmps111
  go_wp2_with fail
  go_loop [3, 7] (fun n i => ∃ k : Nat, k ≤ s.size ∧ i = .int .i64 k ∧ n = .int .i64 (numb (s.data.toList.take k))) (fun _ i => s.size - (intOf i).toNat)
  case atStart => exact ⟨0, Nat.zero_le _, rfl, rfl⟩
  case round =>
    obtain ⟨k, hk, rfl, rfl⟩ := hrel
    have hl : (s.data.toList.take k).length = k := by rw [List.length_take, size_list]; omega
    have hb := numb_bd (s.data.toList.take k) k (by omega) hl
    clear hl
    by_cases hlt : k < s.size
    · have HS : Hid (numb (s.data.toList.take (k + 1)) = numb (s.data.toList.take k) * 10 + (s[k].toNat : Int) - 48) := by
        show numb _ = _
        rw [take_snoc s k hlt, numb_snoc]
      have hc := s[k].toNat_lt
      go_wp2_with fail
      go_round
      case rel => exact ⟨k + 1, by omega, by go_num, by rw [HS.out]⟩
      case measure => simp [intOf]; omega
    · obtain rfl : k = s.size := by omega
      go_wp2_with fail
      go_ret
      exact ⟨ret_i (by rw [take_all]), rfl⟩

set_option maxRecDepth 100000 in
theorem month_idx (k : Nat) (h : k < 12) (w : World) : Sem.run Tryz.prog (Instr.index 65 (.agg #[.string ⟨(monthS 0).toArray⟩, .string ⟨(monthS 1).toArray⟩, .string ⟨(monthS 2).toArray⟩, .string ⟨(monthS 3).toArray⟩, .string ⟨(monthS 4).toArray⟩, .string ⟨(monthS 5).toArray⟩, .string ⟨(monthS 6).toArray⟩, .string ⟨(monthS 7).toArray⟩, .string ⟨(monthS 8).toArray⟩, .string ⟨(monthS 9).toArray⟩, .string ⟨(monthS 10).toArray⟩, .string ⟨(monthS 11).toArray⟩]) (.int .i64 (k : Int))) w = .ok (.string ⟨(monthS k).toArray⟩) w := by
  have e := Tryz.underlying65
  rcases (show k = 0 ∨ k = 1 ∨ k = 2 ∨ k = 3 ∨ k = 4 ∨ k = 5 ∨ k = 6 ∨ k = 7 ∨ k = 8 ∨ k = 9 ∨ k = 10 ∨ k = 11 by omega) with rfl | rfl | rfl | rfl | rfl | rfl | rfl | rfl | rfl | rfl | rfl | rfl <;> simp [Instr.index, run_underlying e, asIntOf, go_sem]

set_option maxHeartbeats 2000000 in
set_option maxRecDepth 100000 in
theorem month_any (s : ByteArray) (w : World) (ht : DTabs w) :
    Calls Tryz.prog 112 #[.string s] w fun e w' => e = .returned (.int .i64 (mnum s.data.toList)) ∧ w' = w := by
  have h0 := ht.month 0 (by omega)
  have h1 := ht.month 1 (by omega)
  have h2 := ht.month 2 (by omega)
  have h3 := ht.month 3 (by omega)
  have h4 := ht.month 4 (by omega)
  have h5 := ht.month 5 (by omega)
  have h6 := ht.month 6 (by omega)
  have h7 := ht.month 7 (by omega)
  have h8 := ht.month 8 (by omega)
  have h9 := ht.month 9 (by omega)
  have h10 := ht.month 10 (by omega)
  have h11 := ht.month 11 (by omega)
  clear ht
  go_enter Tryz.func112, Tryz.ntmps112
  go_wp2_with fail
  go_loop [6] (fun i => ∃ k : Nat, k ≤ 12 ∧ i = .int .i64 k ∧ mnum s.data.toList = mnumAt s.data.toList k) (fun i => 12 - (intOf i).toNat)
  case atStart => exact ⟨0, by omega, rfl, rfl⟩
  case round =>
    obtain ⟨k, hk, rfl, hm⟩ := hrel
    have HM : Hid (mnum s.data.toList = mnumAt s.data.toList k) := hm
    clear hm
    by_cases hlt : k < 12
    · clear h0 h1 h2 h3 h4 h5 h6 h7 h8 h9 h10 h11
      have hi := month_idx k hlt w
      obtain ⟨a, ha⟩ : ∃ a : ByteArray, a = ⟨(monthS k).toArray⟩ := ⟨_, rfl⟩
      rw [← ha] at hi
      have HA : Hid (a.data.toList = monthS k) := by show a.data.toList = _; rw [ha]
      clear ha
      by_cases he : a = s
      · subst he
        go_wp2_with fail
        go_ret
        exact ⟨ret_i (by rw [HM.out, mnum_hit _ k hlt HA.out.symm]), rfl⟩
      · have HE : Hid (monthS k ≠ s.data.toList) := fun h => he (ByteArray.ext (Array.toList_inj.1 (HA.out.trans h)))
        have hq : (a.toList == s.toList) = false := by
          rw [ByteArray.toList_eq, ByteArray.toList_eq, beq_eq_false_iff_ne]
          exact fun h => he (ByteArray.ext (Array.toList_inj.1 h))
        clear he
        go_wp2_with fail
        go_round
        case rel => exact ⟨k + 1, by omega, by go_num, by rw [HM.out, mnum_miss _ k hlt HE.out]⟩
        case measure => simp [intOf]; omega
    · obtain rfl : k = 12 := by omega
      go_wp2_with fail
      go_ret
      exact ⟨ret_i (by rw [HM.out, mnum_end]), rfl⟩

theorem ext_list (s : ByteArray) (i j : Nat) : (s.extract i j).data.toList = sl s.data.toList i j := by
  rw [ByteArray.data_extract, Array.toList_extract]
  rfl

set_option maxHeartbeats 2000000 in
set_option maxRecDepth 100000 in
theorem guess_short (s : ByteArray) (w : World) (hs : s.size ≠ 29) :
    Calls Tryz.prog 87 #[.string s] w fun e w' => e = .returned (.tuple #[.int .i64 0, .bool false]) ∧ w' = w := by
  have hn : ((s.size : Int) == 29) = false := by rw [beq_eq_false_iff_ne]; omega
  clear hs
  go_enter Tryz.func87, Tryz.ntmps87
  go_wp2_with fail
  go_ret2
  exact ⟨rfl, rfl⟩

theorem num_at (s : ByteArray) (i j : Nat) (w : World) (h : j - i ≤ 4) :
    Calls Tryz.prog 111 #[.string (s.extract i j)] w fun e w' => e = .returned (.int .i64 (numb (sl s.data.toList i j))) ∧ w' = w := by
  have hz : (s.extract i j).size ≤ 4 := by rw [ByteArray.size_extract]; omega
  have c := number_any (s.extract i j) w hz
  rw [ext_list] at c
  exact c
theorem mon_at (s : ByteArray) (i j : Nat) (w : World) (ht : DTabs w) :
    Calls Tryz.prog 112 #[.string (s.extract i j)] w fun e w' => e = .returned (.int .i64 (mnum (sl s.data.toList i j))) ∧ w' = w := by
  have c := month_any (s.extract i j) w ht
  rw [ext_list] at c
  exact c

set_option maxHeartbeats 1000000 in
set_option maxRecDepth 100000 in
theorem guess_no (s : ByteArray) (w : World) (hs : s.size = 29) (ht : DTabs w) (hv : vldB (gY s.data.toList) (gM s.data.toList) (gD s.data.toList) = false) :
    Calls Tryz.prog 87 #[.string s] w fun e w' => e = .returned (.tuple #[.int .i64 0, .bool false]) ∧ ∃ k, w' = w.drewN k := by
  have HT : Hid (DTabs w) := ht
  have HV : Hid (vldB (numb (sl s.data.toList 12 16)) (mnum (sl s.data.toList 8 11)) (numb (sl s.data.toList 5 7)) = false) := hv
  clear hv ht
  go_enter Tryz.func87, Tryz.ntmps87
  go_wp2_with fail
  go_quiet (first | (go_at_call 111; exact Calls.quiet_of_same (num_at _ _ _ _ (by decide))) | (go_at_call 112; exact Calls.quiet_of_same (mon_at _ _ _ _ (HT.out.below (drewN_belowD _ _ _)))) | (go_at_call 110; exact Calls.quiet_of_same (days_no _ _ _ _ HV.out)))
  go_wp2_with fail
  go_ret2
  exact ⟨rfl, _, rfl⟩

set_option maxHeartbeats 1000000 in
set_option maxRecDepth 100000 in
theorem guess_yes (s : ByteArray) (w : World) (hs : s.size = 29) (ht : DTabs w) (hv : vldB (gY s.data.toList) (gM s.data.toList) (gD s.data.toList) = true) :
    Calls Tryz.prog 87 #[.string s] w fun e w' => e = .returned (.tuple #[.int .i64 (gss s.data.toList), .bool true]) ∧ ∃ k, w' = w.drewN k := by
  have HT : Hid (DTabs w) := ht
  have hb : 0 ≤ num (numb (sl s.data.toList 12 16)) (mnum (sl s.data.toList 8 11)) (numb (sl s.data.toList 5 7)) ∧ num (numb (sl s.data.toList 12 16)) (mnum (sl s.data.toList 8 11)) (numb (sl s.data.toList 5 7)) ≤ 2932896 := num_bd hv
  have hl : s.data.toList.length = 29 := by rw [size_list]; exact hs
  have b1 := numb_bd2 (sl_len _ 17 19 hl (by decide) (by decide))
  have b2 := numb_bd2 (sl_len _ 20 22 hl (by decide) (by decide))
  have b3 := numb_bd2 (sl_len _ 23 25 hl (by decide) (by decide))
  have HG : Hid (gss s.data.toList = num (numb (sl s.data.toList 12 16)) (mnum (sl s.data.toList 8 11)) (numb (sl s.data.toList 5 7)) * 86400 + (numb (sl s.data.toList 17 19) * 3600 + numb (sl s.data.toList 20 22) * 60 + numb (sl s.data.toList 23 25))) := rfl
  have HV : Hid (vldB (numb (sl s.data.toList 12 16)) (mnum (sl s.data.toList 8 11)) (numb (sl s.data.toList 5 7)) = true) := hv
  clear hv ht hl
  go_enter Tryz.func87, Tryz.ntmps87
  go_wp2_with fail
  go_quiet (first | (go_at_call 111; exact Calls.quiet_of_same (num_at _ _ _ _ (by decide))) | (go_at_call 112; exact Calls.quiet_of_same (mon_at _ _ _ _ (HT.out.below (drewN_belowD _ _ _)))) | (go_at_call 110; exact Calls.quiet_of_same (days_yes _ _ _ _ HV.out)))
  generalize hq : w.drewN _ = wq
  have HQ : Hid (∃ n, wq = w.drewN n) := ⟨_, hq.symm⟩
  clear hq
  go_wp2_with fail
  go_quiet (first | (go_at_call 111; exact Calls.quiet_of_same (num_at _ _ _ _ (by decide))))
  go_wp2_with fail
  go_ret2
  obtain ⟨n, hn⟩ := HQ.out
  exact ⟨ret_ib HG.out.symm rfl, _, by rw [hn, World.drewN_drewN]⟩
end Go.Proofs.YtigbjhkkbgdkcaaGreatDoor
