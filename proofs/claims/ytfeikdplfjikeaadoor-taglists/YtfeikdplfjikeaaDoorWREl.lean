/-
  What TagList of the document's answers computes.
-/
import Derived.Test.YtfeikdplfjikeaaDoorSpecEl
import Derived.Test.YtfeikdplfjikeaaDoorWREt
import Derived.Test.YtfeikdplfjikeaaDoorWRTrim
import Derived.Test.YtfeikdplfjikeaaDoorWInfo9
import Derived.Test.YtfeikdplfjikeaaDoorWInfoT
import Derived.Test.YtfeikdplfjikeaaDoorSpecS
import Derived.Test.YtfeikdplfjikeaaDoorSpecF
namespace Go.Proofs.YtfeikdplfjikeaaDoor
open Go.RowKit

theorem el_set (ps : List (List UInt8)) (cur : List UInt8) (c : UInt8) : (strs (ps ++ [cur])).set ps.length (.string ⟨(cur ++ [c]).toArray⟩) = strs (ps ++ [cur ++ [c]]) := by
  rw [← strs_snoc, ← strs_snoc, List.set_append_right _ _ (by rw [strs_length]; exact Nat.le_refl _), strs_length, Nat.sub_self]; rfl
theorem el_get (ps : List (List UInt8)) (cur : List UInt8) : (strs (ps ++ [cur]))[ps.length]? = some (.string ⟨cur.toArray⟩) := by
  rw [← strs_snoc, List.getElem?_append_right (by rw [strs_length]; exact Nat.le_refl _), strs_length, Nat.sub_self]; rfl
theorem el_app (cur : List UInt8) (c : UInt8) : (⟨cur.toArray⟩ : ByteArray) ++ ⟨#[c]⟩ = ⟨(cur ++ [c]).toArray⟩ := by
  rw [ByteArray.mk_append_mk]
theorem el_form {w : World} {B : Nat} {v : Value} {n : Nat} {xs : List Value} (h : w.ownsRow B 9 1 v n xs) (hn : 0 < n) : ∃ g cap, v = .slice (some ⟨g, 0, none⟩) n cap ∧ B ≤ g ∧ g < w.heap.size ∧ n ≤ cap ∧ cap ≤ maxLen := by
  rcases h.2 with ⟨_, h0⟩ | ⟨g, cap, cur, hv, hb, hg, hnc, hcm, _, _⟩
  · omega
  · exact ⟨g, cap, hv, hb, (Array.getElem?_eq_some_iff.1 hg).1, hnc, hcm⟩
theorem el_one (s : ByteArray) (k : Nat) (h : k < s.size) (d : UInt8) : ((s.extract k (k + 1)).toList == [d]) = (s[k] == d) := by
  have e : (s.extract k (k + 1)).toList = [s[k]] := by rw [extract_one s k h, ByteArray.toList_eq]
  rw [e]; simp
set_option maxHeartbeats 8000000 in
set_option maxRecDepth 100000 in
theorem rtlist_any (s : ByteArray) (w : World) :
    Calls Tryd.prog 6 #[.string s] w fun e w' => ∃ v, e = .returned (.tuple #[v, .bool (liE s.data.toList).1.2, .int .i64 (liE s.data.toList).2]) ∧
      w'.ownsRow w.heap.size 28 2 v (liE s.data.toList).1.1.length (tgs (liE s.data.toList).1.1) ∧ Below w.heap.size w w' := by
  obtain ⟨i0, hi, hz0, hz1, hz2⟩ := info_parts info9
  obtain ⟨i1, hi1, hy0, hy1, hy2⟩ := info_parts infoTg
  by_cases hs : s.size ≤ 1000
  · have hsi : ¬ (1000 : Int) < (s.size : Int) := by omega
    by_cases hst : s.data.toList = [42]
    · have hse : s = ⟨#[42]⟩ := by apply ByteArray.ext; apply Array.ext'; exact hst
      subst hse
      have HR : Hid (liE (⟨#[42]⟩ : ByteArray).data.toList = (([], true), 0)) := rfl
      clear hst
      go_enter Tryd.func6, Tryd.ntmps6
      go_wp2_with fail
      go_ret3
      rw [HR.out]
      exact ⟨_, rfl, World.ownsRow_nil _ _ _ _, Below.refl _ _⟩
    · have hne : (s.toList == [42]) = false := by rw [ByteArray.toList_eq, beq_eq_false_iff_ne]; exact hst
      have HNE : Hid (¬ s.data.toList = [42]) := hst
      have hst0 : (w.alloc (.cells #[.string ⟨#[]⟩] 9)).ownsRow w.heap.size 9 1 (.slice (some ⟨w.heap.size, 0, none⟩) 1 1) (0 + 1) (strs ([] ++ [([] : List UInt8)])) :=
        World.ownsRow_lit w #[.string ⟨#[]⟩] 1 (Nat.le_refl _) (by unfold maxLen; omega) rfl
      clear hst
      go_enter Tryd.func6, Tryd.ntmps6
      go_wp2_with fail
      go_loopw [5, 6, 22] (fun v qv i wr => ∃ (k : Nat) (ps : List (List UInt8)) (cur : List UInt8) (q : Bool), k ≤ s.size ∧ i = .int .i64 k ∧ qv = .bool q ∧
          qcut (s.data.toList.take k) = ⟨ps, cur, q⟩ ∧ wr.ownsRow w.heap.size 9 1 v (ps.length + 1) (strs (ps ++ [cur])) ∧ Below w.heap.size w wr) (fun _ _ i _ => s.size - (intOf i).toNat)
      case atStart => exact ⟨0, [], [], false, by omega, rfl, rfl, rfl, hst0, (Below.refl _ w).alloc (Nat.le_refl _) _⟩
      case round =>
        obtain ⟨k, ps, cur, q, hk, rfl, rfl, hcut, hown, hw⟩ := hrel
        clear hst0
        have hpl : ps.length ≤ 1000 ∧ cur.length ≤ 1000 := by
          have h1 := (qcut_len (s.data.toList.take k)).1
          have h2 := List.length_take_le k s.data.toList
          rw [hcut] at h1
          simp only at h1
          omega
        obtain ⟨hpl, hcl⟩ := hpl
        have hsz := hw.size
        have HC : Hid (qcut (s.data.toList.take k) = ⟨ps, cur, q⟩) := hcut
        clear hcut
        by_cases hlt : k < s.size
        · obtain ⟨g, cap, hv, hgB, hgs, hnc, hcm⟩ := el_form hown (by omega)
          have hcell : wr.cell? ⟨g, ps.length, none⟩ = some (.string ⟨cur.toArray⟩) := by
            rw [hv] at hown
            rw [hown.cellAt ps.length (by omega)]
            exact el_get ps cur
          have hfz : wr.frozen? ⟨g, ps.length, none⟩ = false := by
            rw [hv] at hown
            exact hown.frozenAt ps.length
          obtain ⟨t, ht⟩ : ∃ t : ByteArray, t = ⟨cur.toArray⟩ := ⟨_, rfl⟩
          have hts : t.size ≤ 1000 := by rw [ht, ← size_list]; exact hcl
          rw [← ht] at hcell
          subst hv
          unfold maxLen at hcm
          have hc1 : (s[k].toNat : Int) < 256 := by have := s[k].toNat_lt; omega
          have HSN : Hid (qcut (s.data.toList.take (k + 1)) = qstep ⟨ps, cur, q⟩ s[k]) := by
            show _ = _
            rw [take_snoc s k hlt, qcut_snoc, HC.out]
          have e1 : t ++ s.extract k (k + 1) = ⟨(cur ++ [s[k]]).toArray⟩ := by rw [ht, extract_one s k hlt, el_app]
          have HST : Hid ((wr.setCell ⟨g, ps.length, none⟩ (.string (t ++ s.extract k (k + 1)))).ownsRow w.heap.size 9 1 (.slice (some ⟨g, 0, none⟩) (ps.length + 1) cap) (ps.length + 1) (strs (ps ++ [cur ++ [s[k]]])) ∧ Below w.heap.size w (wr.setCell ⟨g, ps.length, none⟩ (.string (t ++ s.extract k (k + 1))))) := by
            refine ⟨?_, hw.setCell (p := ⟨g, ps.length, none⟩) hgB _⟩
            have h := (hown.stored ps.length (.string (t ++ s.extract k (k + 1)))).1
            rw [e1, el_set] at h
            rw [e1]
            exact h
          have hd1 := el_one s k hlt 44
          have hd2 := el_one s k hlt 34
          have hes : (s.extract k (k + 1)).size = 1 := by rw [ByteArray.size_extract]; omega
          clear e1 ht
          by_cases hsep : s[k] = 44 ∧ q = false
          · obtain ⟨h44, rfl⟩ := hsep
            have HSN2 : Hid (qcut (s.data.toList.take (k + 1)) = ⟨ps ++ [cur], [], false⟩) := by show _ = _; rw [HSN.out]; unfold qstep; rw [if_pos ⟨h44, rfl⟩]
            rw [h44] at hd1
            have hd1 : ((s.extract k (k + 1)).toList == [44]) = true := hd1
            clear h44 hd2 hcell hfz
            go_wp2_with (at_builtin; refine wpList_append_own _ rfl _ _ 30 rfl w.heap.size 9 i0 (.string ⟨#[]⟩) 1 16 Tryd.underlying30 hi hz0 hz1 hz2 rfl (by decide) _ _ _ rfl (hown.alloc _) ⟨wr.heap.size, 0, none⟩ 1 1 [.string ⟨#[]⟩] rfl rfl ?c1 ?c2 ?c3 ?c4 ?c5 ?_)
            case c1 => exact one_cell _ _ _
            case c2 => intro u hu; simp at hu; subst hu; rfl
            case c3 => unfold maxLen; omega
            case c4 => omega
            case c5 => simp; omega
            · intro v' w1 hown' hgrow _
              have hB : Below w.heap.size w w1 := (hw.alloc (by omega) _).grown hgrow (by simp; omega) (fun b hb => ((hown.alloc (.cells #[.string ⟨#[]⟩] 9)).lt b hb).1)
              have hown2 : w1.ownsRow w.heap.size 9 1 v' ((ps ++ [cur]).length + 1) (strs (ps ++ [cur] ++ [[]])) := by
                rw [← strs_snoc, List.length_append]; exact hown'
              clear hown' hgrow hown hw HST
              go_wp2_with fail
              go_roundw
              case rel => exact ⟨k + 1, ps ++ [cur], [], false, by omega, by go_num, rfl, HSN2.out, hown2, hB⟩
              case measure => simp [intOf]; omega
          · have HSN2 : Hid (qcut (s.data.toList.take (k + 1)) = ⟨ps, cur ++ [s[k]], if s[k] = 34 then !q else q⟩) := by show _ = _; rw [HSN.out]; unfold qstep; rw [if_neg hsep]
            clear hown hw
            by_cases h34 : s[k] = 34
            · have HSN3 : Hid (qcut (s.data.toList.take (k + 1)) = ⟨ps, cur ++ [s[k]], !q⟩) := by show _ = _; rw [HSN2.out, if_pos h34]
              rw [show (s[k] == 44) = false by rw [h34]; rfl] at hd1
              rw [show (s[k] == 34) = true by rw [h34]; rfl] at hd2
              clear h34 hsep
              cases q
              all_goals
                go_wp2_with fail
                go_roundw
                case rel => exact ⟨k + 1, ps, cur ++ [s[k]], _, by omega, by go_num, rfl, HSN3.out, HST.out.1, HST.out.2⟩
                case measure => simp [intOf]; omega
            · have HSN3 : Hid (qcut (s.data.toList.take (k + 1)) = ⟨ps, cur ++ [s[k]], q⟩) := by show _ = _; rw [HSN2.out, if_neg h34]
              rw [show (s[k] == 34) = false from beq_eq_false_iff_ne.2 h34] at hd2
              by_cases h44 : s[k] = 44
              · obtain rfl : q = true := by cases q with | false => exact absurd ⟨h44, rfl⟩ hsep | true => rfl
                rw [show (s[k] == 44) = true by rw [h44]; rfl] at hd1
                clear h34 h44 hsep
                go_wp2_with fail
                go_roundw
                case rel => exact ⟨k + 1, ps, cur ++ [s[k]], true, by omega, by go_num, rfl, HSN3.out, HST.out.1, HST.out.2⟩
                case measure => simp [intOf]; omega
              · rw [show (s[k] == 44) = false from beq_eq_false_iff_ne.2 h44] at hd1
                clear h34 h44 hsep
                go_wp2_with fail
                go_roundw
                case rel => exact ⟨k + 1, ps, cur ++ [s[k]], q, by omega, by go_num, rfl, HSN3.out, HST.out.1, HST.out.2⟩
                case measure => simp [intOf]; omega
        · obtain rfl : k = s.size := by omega
          have hP : qps s.data.toList = ps ++ [cur] := by
            have := HC.out
            rw [take_all] at this
            unfold qps; rw [this]
          obtain ⟨P, hPe⟩ : ∃ P, P = ps ++ [cur] := ⟨_, rfl⟩
          have hPl : P.length = ps.length + 1 := by rw [hPe]; simp
          have HPL : Hid (P.length = ps.length + 1) := hPl
          have HLEN : Hid (∀ x ∈ P, x.length ≤ 1000) := by
            intro x hx
            obtain ⟨h1, h2⟩ := qcut_len s.data.toList
            have h3 := HC.out
            rw [take_all] at h3
            rw [h3, size_list] at h1 h2
            rw [hPe] at hx
            simp only at h1 h2
            rcases List.mem_append.1 hx with hx | hx
            · have := h2 x hx; omega
            · rw [List.mem_singleton.1 hx]; omega
          have HLI : Hid (∀ (r : (List Tg × Bool) × Int), (match tagsE (P.map trimL) with | none => (([], false), 3) | some ts => if ts.isEmpty = true then (([], false), 3) else if 20 < ts.length then (([], false), 2) else ((ts, false), 0)) = r → liE s.data.toList = r) := by
            intro r hr
            unfold liE
            rw [if_neg (by rw [size_list]; omega), if_neg HNE.out, hP, ← hPe]
            exact hr
          obtain ⟨g, cap, hv, hgB, hgs, hnc, hcm⟩ := el_form hown (by omega)
          subst hv
          rw [← hPe] at hown
          have HCE : Hid (∀ (k : Nat) (h : k < P.length), wr.cell? ⟨g, k, none⟩ = some (.string ⟨(P[k]).toArray⟩)) := by
            intro k hk
            rw [hown.cellAt k (by omega)]
            exact strs_get P k hk
          unfold maxLen at hcm
          obtain ⟨w1, hw1⟩ : ∃ w1, w1 = wr := ⟨_, rfl⟩
          subst hw1
          obtain ⟨L, hL⟩ : ∃ L, L = ps.length := ⟨_, rfl⟩
          rw [← hL] at hPl hnc HPL hpl ⊢
          clear hown hP hPe hcl hgB hL
          go_wp2_with fail
          go_loopw [9, 55] (fun ov i wr => ∃ (k : Nat) (ts : List Tg), k ≤ P.length ∧ i = .int .i64 k ∧ Hid (tagsE ((P.take k).map trimL) = some ts) ∧ wr.ownsRow w1.heap.size 28 2 ov ts.length (tgs ts) ∧ Below w1.heap.size w1 wr) (fun _ i _ => P.length - (intOf i).toNat)
          case atStart => exact ⟨0, [], Nat.zero_le _, rfl, rfl, World.ownsRow_nil _ _ _ _, Below.refl _ _⟩
          case round =>
            obtain ⟨k, ts, hk, rfl, hts, hown, hwr⟩ := hrel
            have hszr := hwr.size
            have htl : ts.length ≤ 1001 := by
              have h1 := tags_len _ _ hts.out
              rw [List.length_map] at h1
              have h2 := List.length_take_le k P
              omega
            by_cases hlt : k < P.length
            · have hcell := (hwr.cell (p := ⟨g, k, none⟩) hgs).trans (HCE.out k hlt)
              have hstep := tags_take (P.map trimL) k (by simpa using hlt)
              have hmt : (P.map trimL).take k = (P.take k).map trimL := by rw [List.map_take]
              have hmt1 : (P.map trimL).take (k + 1) = (P.take (k + 1)).map trimL := by rw [List.map_take]
              rw [hmt, hmt1, hts.out, List.getElem_map] at hstep
              have HDEAD : Hid (tstep (some ts) (trimL P[k]) = none → tagsE (P.map trimL) = none) := fun h => tags_dead _ k (by simpa using hlt) (by rw [hmt, hts.out, List.getElem_map]; exact h)
              obtain ⟨t, ht⟩ : ∃ t : ByteArray, t = ⟨(P[k]).toArray⟩ := ⟨_, rfl⟩
              have htl2 : t.size ≤ 1000 := by rw [← size_list, ht]; exact HLEN.out _ (List.getElem_mem hlt)
              rw [← ht] at hcell
              obtain ⟨u, hu⟩ : ∃ u : ByteArray, u = ⟨(trimL P[k]).toArray⟩ := ⟨_, rfl⟩
              have HU : Hid (u.data.toList = trimL t.data.toList) := by show _ = _; rw [hu, ht]
              have hul : u.data.toList = trimL P[k] := by rw [hu]
              have hus : u.size ≤ 1000 := by
                have := trimL_len P[k]
                rw [← hul, size_list] at this
                have h2 := HLEN.out _ (List.getElem_mem hlt)
                omega
              rw [← hul] at hstep HDEAD
              have HSTEP : Hid (tagsE ((P.take (k + 1)).map trimL) = tstep (some ts) u.data.toList) := hstep
              have hki : (k : Int) < (P.length : Int) := by omega
              have hki2 : (k : Int) < (L : Int) + 1 := by omega
              have hgr : g < wr.heap.size := Nat.lt_of_lt_of_le hgs hszr
              obtain ⟨ad, oc, hov, hom, honc, _⟩ := own_form2 hown
              subst hov
              unfold maxLen at hom
              clear hstep hmt hmt1 ht hu hul
              cases hem : u.toList.isEmpty
              · have HEM : Hid (u.data.toList.isEmpty = false) := by show _ = _; rw [← ByteArray.toList_eq]; exact hem
                obtain ⟨x, kk, c, hpa⟩ : ∃ (x : ByteArray) (kk : Bool) (c : Int), paE u.data.toList = ((kk, x.data.toList), c) := ⟨⟨(paE u.data.toList).1.2.toArray⟩, (paE u.data.toList).1.1, (paE u.data.toList).2, rfl⟩
                have HPA : Hid (paE u.data.toList = ((kk, x.data.toList), c)) := hpa
                by_cases hc : c = 0
                · subst hc
                  have HT2 : Hid (tagsE ((P.take (k + 1)).map trimL) = some (ts ++ [(kk, x.data.toList)])) := by
                    show _ = _
                    rw [HSTEP.out]
                    unfold tstep
                    simp only [HEM.out, hpa]; rfl
                  clear hpa
                  go_wp2_with fail
                  refine (rtrim_at 1000 t u _ htl2 (by omega) HU.out).mono ?_
                  rintro e w3 ⟨rfl, hb3⟩
                  go_wp2_with fail
                  refine (rtparse_at u x kk 0 HPA.out _ (by omega)).mono ?_
                  rintro e w4 ⟨rfl, hb4⟩
                  have hw4 := (hwr.trans (hb3.mono hszr)).trans (hb4.mono (by have := hb3.size; omega))
                  have hown4 := own_below3 (own_below3 hown hb3) hb4
                  have hsz4 := hw4.size
                  clear hb3 hb4 hown hwr
                  go_wp2_with (at_builtin; refine wpList_append_own _ rfl _ _ 22 rfl w1.heap.size 28 i1 (.agg #[.bool false, .string ⟨#[]⟩]) 2 24 Tryd.underlying22 hi1 hy0 hy1 hy2 rfl (by decide) _ _ _ rfl ((hown4.alloc _).alloc _) ⟨w4.heap.size + 1, 0, none⟩ 1 1 [.bool kk, .string x] rfl rfl ?c1 ?c2 ?c3 ?c4 ?c5 ?_)
                  case c1 =>
                    intro j z h
                    match j, h with
                    | 0, h => simp at h; subst h; simp [Addr.add]
                    | 1, h => simp at h; subst h; simp [Addr.add]
                  case c2 => intro z hx; simp at hx; rcases hx with rfl | rfl <;> rfl
                  case c3 => unfold maxLen; omega
                  case c4 => omega
                  case c5 => simp; omega
                  · intro v' w5 hown' hgrow _
                    have hB : Below w1.heap.size w1 w5 := ((hw4.alloc (by omega) _).alloc (by simp; omega) _).grown hgrow (by simp; omega) (fun b hb => (((hown4.alloc (.cells #[.bool kk, .string x] 28)).alloc (.cells #[.bool kk, .string x] 28)).lt b hb).1)
                    have hown5 : w5.ownsRow w1.heap.size 28 2 v' (ts ++ [(kk, x.data.toList)]).length (tgs (ts ++ [(kk, x.data.toList)])) := by
                      rw [← tgs_snoc, List.length_append]; exact hown'
                    clear hown' hgrow hown4 hw4
                    go_wp2_with fail
                    go_roundw
                    case rel => exact ⟨k + 1, _, by omega, by go_num, HT2, hown5, hB⟩
                    case measure => simp [intOf]; omega
                · have hcb : (c == 0) = false := by simp [hc]
                  have HLE : Hid (liE s.data.toList = (([], false), 3)) := by
                    refine HLI.out _ ?_
                    rw [HDEAD.out]
                    unfold tstep
                    simp only [HEM.out, hpa]
                    simp [hc]
                  have hc3 : c = 3 := by
                    rcases paE_cases u.data.toList with ⟨t', h1, _⟩ | h1
                    · rw [h1] at hpa; exact absurd (Prod.mk.inj hpa).2.symm hc
                    · rw [h1] at hpa; exact (Prod.mk.inj hpa).2.symm
                  subst hc3
                  have HB1 : Hid (Below w.heap.size w w1) := hw
                  clear hpa hcb hc
                  go_wp2_with fail
                  refine (rtrim_at 1000 t u _ htl2 (by omega) HU.out).mono ?_
                  rintro e w3 ⟨rfl, hb3⟩
                  go_wp2_with fail
                  refine (rtparse_at u x kk 3 HPA.out _ (by omega)).mono ?_
                  rintro e w4 ⟨rfl, hb4⟩
                  have hw4 := (hwr.trans (hb3.mono hszr)).trans (hb4.mono (by have := hb3.size; omega))
                  clear hb3 hb4 hown hwr
                  go_wp2_with fail
                  go_ret3
                  rw [HLE.out]
                  exact ⟨_, rfl, World.ownsRow_nil _ _ _ _, HB1.out.trans ((hw4.alloc hw4.size _).mono hsz)⟩
              · have HT2 : Hid (tagsE ((P.take (k + 1)).map trimL) = some ts) := by
                  show _ = _
                  rw [HSTEP.out]
                  unfold tstep
                  rw [ByteArray.toList_eq] at hem
                  simp [hem]
                go_wp2_with fail
                refine (rtrim_at 1000 t u _ htl2 (by omega) HU.out).mono ?_
                rintro e w3 ⟨rfl, hb3⟩
                have hw3 := hwr.trans (hb3.mono hszr)
                have hown3 := own_below3 hown hb3
                clear hb3 hown hwr
                go_wp2_with fail
                go_roundw
                case rel => exact ⟨k + 1, _, by omega, by go_num, HT2, hown3, hw3⟩
                case measure => simp [intOf]; omega
            · obtain rfl : k = P.length := by omega
              have HTS : Hid (tagsE (P.map trimL) = some ts) := by
                have := hts.out
                rw [List.take_length] at this; exact this
              have HB1 : Hid (Below w.heap.size w wr) := hw.trans (hwr.mono hsz)
              obtain ⟨ad, oc, hov, hom, honc, _⟩ := own_form2 hown
              subst hov
              by_cases h0 : ts.length = 0
              · obtain rfl := List.eq_nil_of_length_eq_zero h0
                have HLE : Hid (liE s.data.toList = (([], false), 3)) := by
                  refine HLI.out _ ?_
                  rw [HTS.out]; rfl
                clear h0 hts
                go_wp2_with fail
                go_ret3
                rw [HLE.out]
                exact ⟨_, rfl, World.ownsRow_nil _ _ _ _, HB1.out⟩
              · have h0i : ((ts.length : Int) == 0) = false := beq_eq_false_iff_ne.2 (by omega)
                have hnl : ts.isEmpty = false := by
                  cases ts with
                  | nil => exact absurd rfl h0
                  | cons _ _ => rfl
                by_cases h20 : 20 < ts.length
                · have h20i : (20 : Int) < (ts.length : Int) := by omega
                  have HLE : Hid (liE s.data.toList = (([], false), 2)) := by
                    refine HLI.out _ ?_
                    rw [HTS.out]
                    simp [hnl, h20]
                  clear hnl
                  go_wp2_with fail
                  go_ret3
                  rw [HLE.out]
                  exact ⟨_, rfl, World.ownsRow_nil _ _ _ _, HB1.out⟩
                · have h20i : ¬ (20 : Int) < (ts.length : Int) := by omega
                  have HLE : Hid (liE s.data.toList = ((ts, false), 0)) := by
                    refine HLI.out _ ?_
                    rw [HTS.out]
                    simp [hnl, h20]
                  have HOW : Hid (wr.ownsRow w1.heap.size 28 2 (.slice ad ts.length oc) ts.length (tgs ts)) := hown
                  clear hnl hown
                  go_wp2_with fail
                  go_ret3
                  rw [HLE.out]
                  exact ⟨_, rfl, own_le HOW.out hsz, HB1.out⟩
  · have hsi : (1000 : Int) < (s.size : Int) := by omega
    have HR : Hid (liE s.data.toList = (([], false), 2)) := by show _ = _; unfold liE; rw [if_pos (by rw [size_list]; omega)]
    go_enter Tryd.func6, Tryd.ntmps6
    go_wp2_with fail
    go_ret3
    rw [HR.out]
    exact ⟨_, rfl, World.ownsRow_nil _ _ _ _, Below.refl _ _⟩
end Go.Proofs.YtfeikdplfjikeaaDoor
