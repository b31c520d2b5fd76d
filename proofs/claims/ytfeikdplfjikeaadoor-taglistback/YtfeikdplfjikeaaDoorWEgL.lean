/-
  What cut, readTags and List of package etag compute.
-/
import Derived.Test.YtfeikdplfjikeaaDoorSpecEl
import Derived.Test.YtfeikdplfjikeaaDoorSpecF
import Derived.Test.YtfeikdplfjikeaaDoorWEgS
import Derived.Test.YtfeikdplfjikeaaDoorWTrim
import Derived.Test.YtfeikdplfjikeaaDoorWInfoT
namespace Go.Proofs.YtfeikdplfjikeaaDoor
open Go.RowKit

theorem ret_v {v u : Value} (h : v = u) : Ending.returned v = .returned u := by rw [h]
set_option maxHeartbeats 4000000 in
set_option maxRecDepth 100000 in
theorem ecut_any (s : ByteArray) (w : World) (hs : s.size ≤ 1000) :
    Calls Tryd.prog 12 #[.string s] w fun e w' => ∃ v, e = .returned v ∧
      w'.ownsRow w.heap.size 9 1 v (qps s.data.toList).length (strs (qps s.data.toList)) ∧ Below w.heap.size w w' := by
  obtain ⟨i0, hi, hz0, hz1, hz2⟩ := info_parts info9
  go_enter Tryd.func12, Tryd.ntmps12
  go_wp2_with fail
  go_loopw [3, 4, 5, 10] (fun v st wi i wr => ∃ (k a : Nat) (ps : List (List UInt8)) (q : Bool), k ≤ s.size ∧ a ≤ k ∧ i = .int .i64 k ∧ st = .int .i64 a ∧ wi = .bool q ∧
      qcut (s.data.toList.take k) = ⟨ps, (s.data.toList.drop a).take (k - a), q⟩ ∧ wr.ownsRow w.heap.size 9 1 v ps.length (strs ps) ∧ Below w.heap.size w wr) (fun _ _ _ i _ => s.size - (intOf i).toNat)
  case atStart => exact ⟨0, 0, [], false, by omega, by omega, rfl, rfl, rfl, by simp [qcut], World.ownsRow_nil _ _ _ _, Below.refl _ _⟩
  case round =>
    obtain ⟨k, a, ps, q, hk, hak, rfl, rfl, rfl, hcut, hown, hw⟩ := hrel
    have hpl : ps.length ≤ 1000 := by
      have h1 := (qcut_len (s.data.toList.take k)).1
      have h2 := List.length_take_le' k s.data.toList
      rw [hcut] at h1
      rw [size_list] at h2
      simp only at h1
      omega
    have hsz := hw.size
    have HC : Hid (qcut (s.data.toList.take k) = ⟨ps, (s.data.toList.drop a).take (k - a), q⟩) := hcut
    clear hcut
    by_cases hlt : k < s.size
    · have hc1 : (s[k].toNat : Int) < 256 := by have := s[k].toNat_lt; omega
      have HSN : Hid (qcut (s.data.toList.take (k + 1)) = qstep ⟨ps, (s.data.toList.drop a).take (k - a), q⟩ s[k]) := by
        show _ = _
        rw [take_snoc s k hlt, qcut_snoc, HC.out]
      by_cases hq34 : (s[k].toNat : Int) = 34
      · have hd2 : ((s[k].toNat : Int) == 34) = true := by simp [hq34]
        have HS2 : Hid (qcut (s.data.toList.take (k + 1)) = ⟨ps, (s.data.toList.drop a).take (k + 1 - a), !q⟩) := by
          show _ = _
          rw [HSN.out, seg_snoc s a k hak hlt]
          unfold qstep
          have e := eq_of_int _ 34 hq34
          rw [if_neg (fun h => by rw [e] at h; exact absurd h.1 (by decide)), if_pos e]
        clear hq34
        cases q
        · go_wp2_with fail
          go_roundw
          case rel => exact ⟨k + 1, a, ps, true, by omega, by omega, by go_num, rfl, rfl, HS2.out, hown, hw⟩
          case measure => simp [intOf]; omega
        · go_wp2_with fail
          go_roundw
          case rel => exact ⟨k + 1, a, ps, false, by omega, by omega, by go_num, rfl, rfl, HS2.out, hown, hw⟩
          case measure => simp [intOf]; omega
      · have hd2 : ((s[k].toNat : Int) == 34) = false := by rw [beq_eq_false_iff_ne]; exact hq34
        have hn34 := ne_of_int _ 34 hq34
        clear hq34
        by_cases hsep : (s[k].toNat : Int) = 44
        · have hd3 : ((s[k].toNat : Int) == 44) = true := by simp [hsep]
          have h44 := eq_of_int _ 44 hsep
          cases q
          · have HS2 : Hid (qcut (s.data.toList.take (k + 1)) = ⟨ps ++ [(s.data.toList.drop a).take (k - a)], [], false⟩) := by
              show _ = _
              rw [HSN.out]
              unfold qstep
              rw [if_pos ⟨h44, rfl⟩]
            clear hsep hn34 h44
            go_wp2_with (at_builtin; refine wpList_append_own _ rfl _ _ 30 rfl w.heap.size 9 i0 (.string ⟨#[]⟩) 1 16 Tryd.underlying30 hi hz0 hz1 hz2 rfl (by decide) _ _ _ rfl (hown.alloc _) ⟨wr.heap.size, 0, none⟩ 1 1 [.string (s.extract a k)] rfl rfl ?c1 ?c2 ?c3 ?c4 ?c5 ?_)
            case c1 => exact one_cell _ _ _
            case c2 => intro u hu; simp at hu; subst hu; rfl
            case c3 => unfold maxLen; omega
            case c4 => omega
            case c5 => simp; omega
            · intro v' w1 hown' hgrow _
              have hB : Below w.heap.size w w1 := (hw.alloc (by omega) _).grown hgrow (by simp; omega) (fun b hb => ((hown.alloc (.cells #[.string (s.extract a k)] 9)).lt b hb).1)
              have hown2 : w1.ownsRow w.heap.size 9 1 v' (ps ++ [(s.data.toList.drop a).take (k - a)]).length (strs (ps ++ [(s.data.toList.drop a).take (k - a)])) := by
                rw [← strs_snoc, List.length_append, ← extract_seg]; exact hown'
              clear hown' hgrow hown hw
              go_wp2_with fail
              go_roundw
              case rel => exact ⟨k + 1, k + 1, _, false, by omega, by omega, by go_num, by go_num, rfl, by rw [Nat.sub_self, List.take_zero]; exact HS2.out, hown2, hB⟩
              case measure => simp [intOf]; omega
          · have HS2 : Hid (qcut (s.data.toList.take (k + 1)) = ⟨ps, (s.data.toList.drop a).take (k + 1 - a), true⟩) := by
              show _ = _
              rw [HSN.out, seg_snoc s a k hak hlt]
              unfold qstep
              rw [if_neg (fun h => by cases h.2), if_neg hn34]
            clear hsep hn34 h44
            go_wp2_with fail
            go_roundw
            case rel => exact ⟨k + 1, a, ps, true, by omega, by omega, by go_num, rfl, rfl, HS2.out, hown, hw⟩
            case measure => simp [intOf]; omega
        · have hd3 : ((s[k].toNat : Int) == 44) = false := by rw [beq_eq_false_iff_ne]; exact hsep
          have HS2 : Hid (qcut (s.data.toList.take (k + 1)) = ⟨ps, (s.data.toList.drop a).take (k + 1 - a), q⟩) := by
            show _ = _
            rw [HSN.out, seg_snoc s a k hak hlt]
            unfold qstep
            rw [if_neg (fun h => ne_of_int _ 44 hsep h.1), if_neg hn34]
          clear hsep hn34
          go_wp2_with fail
          go_roundw
          case rel => exact ⟨k + 1, a, ps, q, by omega, by omega, by go_num, rfl, rfl, HS2.out, hown, hw⟩
          case measure => simp [intOf]; omega
    · have HE : Hid (qcut s.data.toList = ⟨ps, (s.data.toList.drop a).take (s.size - a), q⟩) := by
        show qcut s.data.toList = _
        have h := HC.out
        have e2 : (s.data.toList.drop a).take (k - a) = (s.data.toList.drop a).take (s.size - a) := by
          rw [List.take_of_length_le (by rw [List.length_drop, size_list]; omega), List.take_of_length_le (by rw [List.length_drop, size_list]; omega)]
        rw [List.take_of_length_le (by rw [size_list]; omega), e2] at h
        exact h
      go_wp2_with (at_builtin; refine wpList_append_own _ rfl _ _ 30 rfl w.heap.size 9 i0 (.string ⟨#[]⟩) 1 16 Tryd.underlying30 hi hz0 hz1 hz2 rfl (by decide) _ _ _ rfl (hown.alloc _) ⟨wr.heap.size, 0, none⟩ 1 1 [.string (s.extract a s.size)] rfl rfl ?d1 ?d2 ?d3 ?d4 ?d5 ?_)
      case d1 => exact one_cell _ _ _
      case d2 => intro u hu; simp at hu; subst hu; rfl
      case d3 => unfold maxLen; omega
      case d4 => omega
      case d5 => simp; omega
      · intro v' w1 hown' hgrow _
        have hB : Below w.heap.size w w1 := (hw.alloc (by omega) _).grown hgrow (by simp; omega) (fun b hb => ((hown.alloc (.cells #[.string (s.extract a s.size)] 9)).lt b hb).1)
        have hown2 : w1.ownsRow w.heap.size 9 1 v' (qps s.data.toList).length (strs (qps s.data.toList)) := by
          unfold qps
          rw [HE.out, ← strs_snoc, List.length_append, ← extract_seg]; exact hown'
        clear hown' hgrow hown hw
        go_wp2_with fail
        go_ret
        exact ⟨v', rfl, hown2, hB⟩
set_option maxHeartbeats 4000000 in
set_option maxRecDepth 100000 in
theorem eread_at (B : Nat) (v : Value) (P : List (List UInt8)) (w : World) (h : w.ownsRow B 9 1 v P.length (strs P)) (hP : P.length ≤ 1001) (hPl : ∀ x ∈ P, x.length ≤ 1000) :
    Calls Tryd.prog 11 #[v] w fun e w' => Below w.heap.size w w' ∧ ((tagsE (P.map trimL) = none ∧ e = .returned (.tuple #[.slice none 0 0, .bool false])) ∨
      ∃ ts v', tagsE (P.map trimL) = some ts ∧ e = .returned (.tuple #[v', .bool true]) ∧ w'.ownsRow w.heap.size 28 2 v' ts.length (tgs ts)) := by
  obtain ⟨i1, hi1, hy0, hy1, hy2⟩ := info_parts infoTg
  obtain ⟨ad, cap, hv, hcm, hnc, hcl⟩ := own_form2 h
  subst hv
  have HCL : Hid (0 < P.length → ∃ g, ad = some ⟨g, 0, none⟩ ∧ B ≤ g ∧ g < w.heap.size ∧ ∀ j, j < P.length * 1 → w.cell? ⟨g, j, none⟩ = (strs P)[j]?) := hcl
  have HLEN : Hid (∀ x ∈ P, x.length ≤ 1000) := hPl
  unfold maxLen at hcm
  clear h hcl hPl
  go_enter Tryd.func11, Tryd.ntmps11
  go_wp2_with fail
  go_loopw [4, 12] (fun ov i wr => ∃ (k : Nat) (ts : List Tg), k ≤ P.length ∧ i = .int .i64 k ∧ Hid (tagsE ((P.take k).map trimL) = some ts) ∧ wr.ownsRow w.heap.size 28 2 ov ts.length (tgs ts) ∧ Below w.heap.size w wr) (fun _ i _ => P.length - (intOf i).toNat)
  case atStart => exact ⟨0, [], Nat.zero_le _, rfl, rfl, World.ownsRow_nil _ _ _ _, Below.refl _ _⟩
  case round =>
    obtain ⟨k, ts, hk, rfl, hts, hown, hwr⟩ := hrel
    have hszr := hwr.size
    have htl : ts.length ≤ 1001 := by
      have h1 := tags_len _ _ hts.out
      rw [List.length_map] at h1
      have h2 := List.length_take_le k P
      omega
    by_cases hlt : k < P.length
    · obtain ⟨g, rfl, hgB, hgs, hce⟩ := HCL.out (by omega)
      have hcell := (hwr.cell (p := ⟨g, k, none⟩) hgs).trans ((hce k (by omega)).trans (strs_get P k hlt))
      have hstep := tags_take (P.map trimL) k (by simpa using hlt)
      have hmt : (P.map trimL).take k = (P.take k).map trimL := by rw [List.map_take]
      have hmt1 : (P.map trimL).take (k + 1) = (P.take (k + 1)).map trimL := by rw [List.map_take]
      rw [hmt, hmt1, hts.out, List.getElem_map] at hstep
      have HDEAD : Hid (tstep (some ts) (trimL P[k]) = none → tagsE (P.map trimL) = none) := fun h => tags_dead _ k (by simpa using hlt) (by rw [hmt, hts.out, List.getElem_map]; exact h)
      obtain ⟨t, ht⟩ : ∃ t : ByteArray, t = ⟨(P[k]).toArray⟩ := ⟨_, rfl⟩
      have htl2 : t.size ≤ 1000 := by rw [← size_list, ht]; exact HLEN.out _ (List.getElem_mem hlt)
      rw [← ht] at hcell
      obtain ⟨u, hu⟩ : ∃ u : ByteArray, u = ⟨(trimL P[k]).toArray⟩ := ⟨_, rfl⟩
      have HU : Hid (u.data.toList = trimL t.data.toList) := by show _ = _; rw [hu, ht]
      have hul : u.data.toList = trimL P[k] := by rw [hu]
      have hus : u.size ≤ 1000 := by
        have := trimL_len P[k]
        rw [← hul, size_list] at this
        have h2 := HLEN.out _ (List.getElem_mem hlt)
        omega
      rw [← hul] at hstep HDEAD
      have HSTEP : Hid (tagsE ((P.take (k + 1)).map trimL) = tstep (some ts) u.data.toList) := hstep
      have hki : (k : Int) < (P.length : Int) := by omega
      have hgr : g < wr.heap.size := Nat.lt_of_lt_of_le hgs hszr
      obtain ⟨oad, oc, hov, hom, honc, _⟩ := own_form2 hown
      subst hov
      unfold maxLen at hom
      clear hstep hmt hmt1 ht hu hul hce
      cases hem : u.toList.isEmpty
      · have HEM : Hid (u.data.toList.isEmpty = false) := by show _ = _; rw [← ByteArray.toList_eq]; exact hem
        obtain ⟨x, kk, c, hpa⟩ : ∃ (x : ByteArray) (kk : Bool) (c : Int), paE u.data.toList = ((kk, x.data.toList), c) := ⟨⟨(paE u.data.toList).1.2.toArray⟩, (paE u.data.toList).1.1, (paE u.data.toList).2, rfl⟩
        have HPA : Hid (paE u.data.toList = ((kk, x.data.toList), c)) := hpa
        by_cases hc : c = 0
        · subst hc
          have HT2 : Hid (tagsE ((P.take (k + 1)).map trimL) = some (ts ++ [(kk, x.data.toList)])) := by
            show _ = _
            rw [HSTEP.out]
            unfold tstep
            simp only [HEM.out, hpa]; rfl
          clear hpa
          go_wp2_with fail
          refine (trim_at t u HU.out _ (by omega)).mono ?_
          rintro e w3 ⟨rfl, hb3⟩
          go_wp2_with fail
          refine (eparse_at u x kk 0 HPA.out _ (by omega)).mono ?_
          rintro e w4 ⟨rfl, hb4⟩
          have hw4 := (hwr.trans (hb3.mono hszr)).trans (hb4.mono (by have := hb3.size; omega))
          have hown4 := own_below3 (own_below3 hown hb3) hb4
          have hsz4 := hw4.size
          clear hb3 hb4 hown hwr
          go_wp2_with (at_builtin; refine wpList_append_own _ rfl _ _ 22 rfl w.heap.size 28 i1 (.agg #[.bool false, .string ⟨#[]⟩]) 2 24 Tryd.underlying22 hi1 hy0 hy1 hy2 rfl (by decide) _ _ _ rfl ((hown4.alloc _).alloc _) ⟨w4.heap.size + 1, 0, none⟩ 1 1 [.bool kk, .string x] rfl rfl ?c1 ?c2 ?c3 ?c4 ?c5 ?_)
          case c1 =>
            intro j z h
            match j, h with
            | 0, h => simp at h; subst h; simp [Addr.add]
            | 1, h => simp at h; subst h; simp [Addr.add]
          case c2 => intro z hx; simp at hx; rcases hx with rfl | rfl <;> rfl
          case c3 => unfold maxLen; omega
          case c4 => omega
          case c5 => simp; omega
          · intro v' w5 hown' hgrow _
            have hB : Below w.heap.size w w5 := ((hw4.alloc (by omega) _).alloc (by simp; omega) _).grown hgrow (by simp; omega) (fun b hb => (((hown4.alloc (.cells #[.bool kk, .string x] 28)).alloc (.cells #[.bool kk, .string x] 28)).lt b hb).1)
            have hown5 : w5.ownsRow w.heap.size 28 2 v' (ts ++ [(kk, x.data.toList)]).length (tgs (ts ++ [(kk, x.data.toList)])) := by
              rw [← tgs_snoc, List.length_append]; exact hown'
            clear hown' hgrow hown4 hw4
            go_wp2_with fail
            go_roundw
            case rel => exact ⟨k + 1, _, by omega, by go_num, HT2, hown5, hB⟩
            case measure => simp [intOf]; omega
        · have hcb : (c != 0) = true := by simpa using hc
          have HLE : Hid (tagsE (P.map trimL) = none) := by
            refine HDEAD.out ?_
            unfold tstep
            simp only [HEM.out, hpa]
            simp [hc]
          clear hpa hc
          go_wp2_with fail
          refine (trim_at t u HU.out _ (by omega)).mono ?_
          rintro e w3 ⟨rfl, hb3⟩
          go_wp2_with fail
          refine (eparse_at u x kk c HPA.out _ (by omega)).mono ?_
          rintro e w4 ⟨rfl, hb4⟩
          have hw4 := (hwr.trans (hb3.mono hszr)).trans (hb4.mono (by have := hb3.size; omega))
          clear hb3 hb4 hown hwr
          go_wp2_with fail
          go_ret2
          exact ⟨hw4.alloc hw4.size _, .inl ⟨HLE.out, rfl⟩⟩
      · have HT2 : Hid (tagsE ((P.take (k + 1)).map trimL) = some ts) := by
          show _ = _
          rw [HSTEP.out]
          unfold tstep
          rw [ByteArray.toList_eq] at hem
          simp [hem]
        go_wp2_with fail
        refine (trim_at t u HU.out _ (by omega)).mono ?_
        rintro e w3 ⟨rfl, hb3⟩
        have hw3 := hwr.trans (hb3.mono hszr)
        have hown3 := own_below3 hown hb3
        clear hb3 hown hwr
        go_wp2_with fail
        go_roundw
        case rel => exact ⟨k + 1, _, by omega, by go_num, HT2, hown3, hw3⟩
        case measure => simp [intOf]; omega
    · obtain rfl : k = P.length := by omega
      have HTS : Hid (tagsE (P.map trimL) = some ts) := by
        have := hts.out
        rw [List.take_length] at this; exact this
      have HO : Hid (wr.ownsRow w.heap.size 28 2 _ ts.length (tgs ts)) := hown
      clear hown
      go_wp2_with fail
      go_ret2
      exact ⟨hwr, .inr ⟨ts, _, HTS.out, rfl, HO.out⟩⟩
set_option maxHeartbeats 4000000 in
set_option maxRecDepth 100000 in
theorem elist_any (s : ByteArray) (w : World) :
    Calls Tryd.prog 5 #[.string s] w fun e w' => ∃ v, e = .returned (.tuple #[v, .bool (liE s.data.toList).1.2, .int .i64 (liE s.data.toList).2]) ∧
      w'.ownsRow w.heap.size 28 2 v (liE s.data.toList).1.1.length (tgs (liE s.data.toList).1.1) ∧ Below w.heap.size w w' := by
  by_cases hst : s.data.toList = [42]
  · have hse : s = ⟨#[42]⟩ := by apply ByteArray.ext; apply Array.ext'; exact hst
    subst hse
    have HR : Hid (liE (⟨#[42]⟩ : ByteArray).data.toList = (([], true), 0)) := rfl
    clear hst
    go_enter Tryd.func5, Tryd.ntmps5
    go_wp2_with fail
    go_ret3
    rw [HR.out]
    exact ⟨_, rfl, World.ownsRow_nil _ _ _ _, Below.refl _ _⟩
  · have hne : (s.toList == [42]) = false := by rw [ByteArray.toList_eq, beq_eq_false_iff_ne]; exact hst
    have HNE : Hid (¬ s.data.toList = [42]) := hst
    clear hst
    by_cases hs : s.size ≤ 1000
    · have hsi : ¬ (1000 : Int) < (s.size : Int) := by omega
      have hql := qcut_len s.data.toList
      rw [size_list] at hql
      obtain ⟨P, hP⟩ : ∃ P, P = qps s.data.toList := ⟨_, rfl⟩
      have HP : Hid (P = qps s.data.toList) := hP
      have hPl : P.length ≤ 1001 := by rw [hP]; unfold qps; rw [List.length_append]; simp; omega
      have HLEN : Hid (∀ x ∈ P, x.length ≤ 1000) := by
        intro x hx
        rw [hP] at hx
        unfold qps at hx
        rcases List.mem_append.1 hx with hx | hx
        · have := hql.2 x hx; omega
        · rw [List.mem_singleton.1 hx]; omega
      have HLI : Hid (liE s.data.toList = match tagsE (P.map trimL) with | none => (([], false), 3) | some ts => if ts.isEmpty = true then (([], false), 3) else if 20 < ts.length then (([], false), 2) else ((ts, false), 0)) := by
        show _ = _
        unfold liE
        rw [if_neg (by rw [size_list]; omega), if_neg HNE.out, hP]; rfl
      clear hP hql
      go_enter Tryd.func5, Tryd.ntmps5
      go_wp2_with fail
      refine (ecut_any s _ hs).mono ?_
      rintro e w1 ⟨v1, rfl, hown1, hb1⟩
      rw [← HP.out] at hown1
      have HO1 : Hid (w1.ownsRow w.heap.size 9 1 v1 P.length (strs P)) := hown1
      clear hown1
      go_wp2_with fail
      refine (eread_at w.heap.size v1 P _ HO1.out hPl HLEN.out).mono ?_
      rintro e w2 ⟨hb2, ⟨hno, rfl⟩ | ⟨ts, v', hts, rfl, hown⟩⟩
      · have hw2 := hb1.trans (hb2.mono hb1.size)
        rw [hno] at HLI
        go_wp2_with fail
        go_ret3
        rw [HLI.out]
        exact ⟨_, rfl, World.ownsRow_nil _ _ _ _, hw2⟩
      · have hw2 := hb1.trans (hb2.mono hb1.size)
        rw [hts] at HLI
        have HO : Hid (w2.ownsRow w.heap.size 28 2 v' ts.length (tgs ts)) := own_le hown hb1.size
        have HTS : Hid (tagsE (P.map trimL) = some ts) := hts
        obtain ⟨oad, oc, hov, hom, honc, _⟩ := own_form2 hown
        subst hov
        have HB : Hid (Below w.heap.size w w2) := hw2
        clear hown hb1 hb2 hw2 HO1 hts
        by_cases h0 : ts.length = 0
        · obtain rfl := List.eq_nil_of_length_eq_zero h0
          have HLE : Hid (liE s.data.toList = (([], false), 3)) := by show _ = _; rw [HLI.out]; rfl
          clear h0 HLI
          go_wp2_with fail
          go_ret3
          rw [HLE.out]
          exact ⟨_, rfl, World.ownsRow_nil _ _ _ _, HB.out⟩
        · have h0i : ((ts.length : Int) == 0) = false := beq_eq_false_iff_ne.2 (by omega)
          have hnl : ts.isEmpty = false := by
            cases ts with
            | nil => exact absurd rfl h0
            | cons _ _ => rfl
          by_cases h20 : 20 < ts.length
          · have h20i : (20 : Int) < (ts.length : Int) := by omega
            have HLE : Hid (liE s.data.toList = (([], false), 2)) := by
              show _ = _
              rw [HLI.out]
              simp [hnl, h20]
            clear hnl HLI
            go_wp2_with fail
            go_ret3
            rw [HLE.out]
            exact ⟨_, rfl, World.ownsRow_nil _ _ _ _, HB.out⟩
          · have h20i : ¬ (20 : Int) < (ts.length : Int) := by omega
            have HLE : Hid (liE s.data.toList = ((ts, false), 0)) := by
              show _ = _
              rw [HLI.out]
              simp [hnl, h20]
            clear hnl HLI
            go_wp2_with fail
            go_ret3
            rw [HLE.out]
            exact ⟨_, rfl, HO.out, HB.out⟩
    · have hsi : (1000 : Int) < (s.size : Int) := by omega
      have HR : Hid (liE s.data.toList = (([], false), 2)) := by show _ = _; unfold liE; rw [if_pos (by rw [size_list]; omega)]
      go_enter Tryd.func5, Tryd.ntmps5
      go_wp2_with fail
      go_ret3
      rw [HR.out]
      exact ⟨_, rfl, World.ownsRow_nil _ _ _ _, Below.refl _ _⟩
end Go.Proofs.YtfeikdplfjikeaaDoor
