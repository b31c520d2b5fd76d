/-
  What parts of the document's answers computes: the pieces between the signs that are not within quotes, each without the blanks at its ends; the text has at most 1000 bytes.
-/
import Derived.Test.YtoccjnbodoiibabDoorWRTrim
import Derived.Test.YtoccjnbodoiibabDoorWCut
namespace Go.Proofs.YtoccjnbodoiibabDoor
open Go.RowKit

theorem own_form {w : World} {B : Nat} {v : Value} {n : Nat} {xs : List Value} (h : w.ownsRow B 9 1 v n xs) (hn : 0 < n) : ∃ g cap, v = .slice (some ⟨g, 0, none⟩) n cap ∧ B ≤ g ∧ g < w.heap.size ∧ n ≤ cap ∧ cap ≤ maxLen := by
  rcases h.2 with ⟨_, h0⟩ | ⟨g, cap, cur, hv, hb, hg, hnc, hcm, _, _⟩
  · omega
  · refine ⟨g, cap, hv, hb, ?_, hnc, hcm⟩
    exact (Array.getElem?_eq_some_iff.1 hg).1

theorem set_last (ps : List (List UInt8)) (cur : List UInt8) (c : UInt8) : (strs (ps ++ [cur])).set ps.length (.string ⟨(cur ++ [c]).toArray⟩) = strs (ps ++ [cur ++ [c]]) := by
  rw [← strs_snoc, ← strs_snoc, List.set_append_right _ _ (by rw [strs_length]; exact Nat.le_refl _), strs_length, Nat.sub_self]; rfl
theorem get_last (ps : List (List UInt8)) (cur : List UInt8) : (strs (ps ++ [cur]))[ps.length]? = some (.string ⟨cur.toArray⟩) := by
  rw [← strs_snoc, List.getElem?_append_right (by rw [strs_length]; exact Nat.le_refl _), strs_length, Nat.sub_self]; rfl
theorem app_cur (cur : List UInt8) (c : UInt8) : (⟨cur.toArray⟩ : ByteArray) ++ ⟨#[c]⟩ = ⟨(cur ++ [c]).toArray⟩ := by
  rw [ByteArray.mk_append_mk]
theorem cur_len (sep : UInt8) (l : List UInt8) : (cutS sep l).cur.length ≤ l.length := by
  have gen : ∀ (l : List UInt8) (x : Cut), (l.foldl (cstep sep) x).cur.length ≤ x.cur.length + l.length := by
    intro l
    induction l with
    | nil => intro x; simp
    | cons c l ih =>
      intro x
      rw [List.foldl_cons]
      have h := ih (cstep sep x c)
      have h2 : (cstep sep x c).cur.length ≤ x.cur.length + 1 := by unfold cstep; split <;> simp
      rw [List.length_cons]
      omega
  have := gen l ⟨[], [], false, false⟩
  simpa [cutS] using this
theorem one_eq (s : ByteArray) (k : Nat) (h : k < s.size) (d : UInt8) (b : Bool) (hb : decide ((s[k].toNat : Int) = (d.toNat : Int)) = b) : ((s.extract k (k + 1)).toList == [d]) = b := by
  have e : (s.extract k (k + 1)).toList = [s[k]] := by rw [extract_one s k h, ByteArray.toList_eq]
  rw [e, ← hb, Bool.eq_iff_iff]
  simp
  constructor
  · intro e; rw [e]
  · intro e; exact eq_of_int _ d (by omega)
theorem one_eq2 (s : ByteArray) (k : Nat) (h : k < s.size) (d : UInt8) (b : Bool) (hb : decide ((s[k].toNat : Int) = (d.toNat : Int)) = b) : ((s.extract k (k + 1)).toList == (⟨#[d]⟩ : ByteArray).toList) = b := by
  rw [ByteArray.toList_eq ⟨#[d]⟩]; exact one_eq s k h d b hb
theorem cstep_else' (sep : UInt8) (ps : List (List UInt8)) (cur : List UInt8) (q cn : Bool) (c : UInt8) (h1 : ¬ (c = sep ∧ q = false)) :
    cstep sep ⟨ps, cur, q, cn⟩ c = ⟨ps, cur ++ [c], if cn = true then q else if c = 34 then !q else q, if cn = true then false else if c = 34 then false else if c = 92 then q else false⟩ := by
  unfold cstep; rw [if_neg h1]

theorem own_below {w w1 : World} {B : Nat} {e : TypeId} {v : Value} {n : Nat} {xs : List Value} (h : w.ownsRow B e 1 v n xs) (hb : Below w.heap.size w w1) : w1.ownsRow B e 1 v n xs := by
  refine ⟨h.1, ?_⟩
  rcases h.2 with h0 | ⟨g, cap, cur, hv, hB, hg, h3⟩
  · exact .inl h0
  · exact .inr ⟨g, cap, cur, hv, hB, (hb.block g (Array.getElem?_eq_some_iff.1 hg).1).trans hg, h3⟩
theorem cell_block' {w : World} {a : Addr} {v : Value} (h : w.cell? a = some v) : a.block < w.heap.size := by
  rcases Nat.lt_or_ge a.block w.heap.size with h1 | h1
  · exact h1
  · exfalso
    unfold World.cell? at h
    rw [Array.getElem?_eq_none h1] at h
    simp at h
theorem cstep_sep' (sep : UInt8) (ps : List (List UInt8)) (cur : List UInt8) (cn : Bool) (c : UInt8) (hc : c = sep) : cstep sep ⟨ps, cur, false, cn⟩ c = ⟨ps ++ [cur], [], false, cn⟩ := by
  simp [cstep, hc]

/-- What the second loop has done after k rounds. -/
def half (P : List (List UInt8)) (k : Nat) : List (List UInt8) := (P.take k).map trimL ++ P.drop k
theorem half_len (P : List (List UInt8)) (k : Nat) (h : k ≤ P.length) : (half P k).length = P.length := by
  simp [half]; omega
theorem half_get (P : List (List UInt8)) (k : Nat) (h : k < P.length) : (strs (half P k))[k]? = some (.string ⟨P[k].toArray⟩) := by
  have hl : (half P k)[k]? = some P[k] := by
    unfold half
    rw [List.getElem?_append_right (by simp; omega)]
    simp [List.length_take, Nat.min_eq_left (Nat.le_of_lt h), h]
  unfold strs
  rw [List.getElem?_map, hl]; rfl
theorem half_at (P : List (List UInt8)) (k : Nat) (h : k < P.length) : half P k = (P.take k).map trimL ++ P[k] :: P.drop (k + 1) ∧ half P (k + 1) = (P.take k).map trimL ++ trimL P[k] :: P.drop (k + 1) := by
  refine ⟨by unfold half; rw [List.drop_eq_getElem_cons h], ?_⟩
  unfold half
  rw [List.take_succ_eq_append_getElem h, List.map_append, List.append_assoc]; rfl
theorem half_set (P : List (List UInt8)) (k : Nat) (h : k < P.length) : (strs (half P k)).set k (.string ⟨(trimL P[k]).toArray⟩) = strs (half P (k + 1)) := by
  obtain ⟨e1, e2⟩ := half_at P k h
  have hl : (strs ((P.take k).map trimL)).length = k := by simp [strs]; omega
  have ea : strs (half P k) = strs ((P.take k).map trimL) ++ Value.string ⟨P[k].toArray⟩ :: strs (P.drop (k + 1)) := by rw [e1]; unfold strs; rw [List.map_append, List.map_cons]
  have eb : strs (half P (k + 1)) = strs ((P.take k).map trimL) ++ Value.string ⟨(trimL P[k]).toArray⟩ :: strs (P.drop (k + 1)) := by rw [e2]; unfold strs; rw [List.map_append, List.map_cons]
  rw [ea, eb, List.set_append_right _ _ (by omega), hl, Nat.sub_self, List.set_cons_zero]
theorem half_all (P : List (List UInt8)) : half P P.length = P.map trimL := by simp [half]

set_option maxHeartbeats 4000000 in
set_option maxRecDepth 100000 in
theorem rparts_any (s : ByteArray) (sep : UInt8) (w : World) (hs : s.size ≤ 1000) :
    Calls Tryd.prog 16 #[.string s, .string ⟨#[sep]⟩] w fun e w' => ∃ v, e = .returned (.tuple #[v, .bool (ends sep s.data.toList)]) ∧
      w'.ownsRow w.heap.size 9 1 v (pieces sep s.data.toList).length (strs ((pieces sep s.data.toList).map trimL)) ∧ Below w.heap.size w w' := by
  obtain ⟨i0, hi, hz0, hz1, hz2⟩ := info_parts info9
  have hst : (w.alloc (.cells #[.string ⟨#[]⟩] 9)).ownsRow w.heap.size 9 1 (.slice (some ⟨w.heap.size, 0, none⟩) 1 1) (0 + 1) (strs ([] ++ [([] : List UInt8)])) :=
    World.ownsRow_lit w #[.string ⟨#[]⟩] 1 (Nat.le_refl _) (by unfold maxLen; omega) rfl
  go_enter Tryd.func16, Tryd.ntmps16
  go_wp2_with fail
  go_loopw [6, 7, 8, 15] (fun v qv cv i wr => ∃ (k : Nat) (ps : List (List UInt8)) (cur : List UInt8) (q cn : Bool) , k ≤ s.size ∧ i = .int .i64 k ∧ qv = .bool q ∧ cv = .bool cn ∧
      cutS sep (s.data.toList.take k) = ⟨ps, cur, q, cn⟩ ∧ wr.ownsRow w.heap.size 9 1 v (ps.length + 1) (strs (ps ++ [cur])) ∧ Below w.heap.size w wr) (fun _ _ _ i _ => s.size - (intOf i).toNat)
  case atStart => exact ⟨0, [], [], false, false, by omega, rfl, rfl, rfl, rfl, hst, (Below.refl _ w).alloc (Nat.le_refl _) _⟩
  case round =>
    obtain ⟨k, ps, cur, q, cn, hk, rfl, rfl, rfl, hcut, hown, hw⟩ := hrel
    clear hst
    have hpl : ps.length ≤ 1000 ∧ cur.length ≤ 1000 := by
      have h1 := cutS_len sep (s.data.toList.take k)
      have h1' := cur_len sep (s.data.toList.take k)
      have h2 := List.length_take_le k s.data.toList
      rw [hcut] at h1 h1'
      simp only at h1 h1'
      omega
    obtain ⟨hpl, hcl⟩ := hpl
    have hsz := hw.size
    have HC : Hid (cutS sep (s.data.toList.take k) = ⟨ps, cur, q, cn⟩) := hcut
    clear hcut
    obtain ⟨g, cap, hv, hgB, hgs, hnc, hcm⟩ := own_form hown (by omega)
    have hcell : wr.cell? ⟨g, ps.length, none⟩ = some (.string ⟨cur.toArray⟩) := by
      rw [hv] at hown
      rw [hown.cellAt ps.length (by omega)]
      exact get_last ps cur
    have hfz : wr.frozen? ⟨g, ps.length, none⟩ = false := by
      rw [hv] at hown
      exact hown.frozenAt ps.length
    obtain ⟨t, ht⟩ : ∃ t : ByteArray, t = ⟨cur.toArray⟩ := ⟨_, rfl⟩
    have hts : t.size ≤ 1000 := by rw [ht, ← size_list]; exact hcl
    rw [← ht] at hcell
    have HT : Hid (t = ⟨cur.toArray⟩) := ht
    subst hv
    unfold maxLen at hcm
    clear ht
    by_cases hlt : k < s.size
    · have hc1 : (s[k].toNat : Int) < 256 := by have := s[k].toNat_lt; omega
      have HSN : Hid (∀ x, cstep sep ⟨ps, cur, q, cn⟩ s[k] = x → cutS sep (s.data.toList.take (k + 1)) = x) := by
        intro x hx
        rw [take_snoc s k hlt, cutS_snoc, HC.out, hx]
      have HST : Hid ((wr.setCell ⟨g, ps.length, none⟩ (.string (t ++ s.extract k (k + 1)))).ownsRow w.heap.size 9 1 (.slice (some ⟨g, 0, none⟩) (ps.length + 1) cap) (ps.length + 1) (strs (ps ++ [cur ++ [s[k]]])) ∧ Below w.heap.size w (wr.setCell ⟨g, ps.length, none⟩ (.string (t ++ s.extract k (k + 1))))) := by
        refine ⟨?_, hw.setCell (p := ⟨g, ps.length, none⟩) hgB _⟩
        have h := (hown.stored ps.length (.string (t ++ s.extract k (k + 1)))).1
        have e : t ++ s.extract k (k + 1) = ⟨(cur ++ [s[k]]).toArray⟩ := by rw [HT.out, extract_one s k hlt, app_cur]
        rw [e, set_last] at h
        rw [e]
        exact h
      by_cases hsep : (s[k].toNat : Int) = (sep.toNat : Int)
      · have hd1 := one_eq s k hlt sep true (decide_eq_true hsep)
        have hd1' := one_eq2 s k hlt sep true (decide_eq_true hsep)
        have HSP : Hid (s[k] = sep) := eq_of_int _ _ hsep
        cases q
        · clear hsep
          go_wp2_with (at_builtin; refine wpList_append_own _ rfl _ _ 30 rfl w.heap.size 9 i0 (.string ⟨#[]⟩) 1 16 Tryd.underlying30 hi hz0 hz1 hz2 rfl (by decide) _ _ _ rfl (hown.alloc _) ⟨wr.heap.size, 0, none⟩ 1 1 [.string ⟨#[]⟩] rfl rfl ?c1 ?c2 ?c3 ?c4 ?c5 ?_)
          case c1 => exact one_cell _ _ _
          case c2 => intro u hu; simp at hu; subst hu; rfl
          case c3 => unfold maxLen; omega
          case c4 => omega
          case c5 => simp; omega
          · intro v' w1 hown' hgrow _
            have hB : Below w.heap.size w w1 := (hw.alloc (by omega) _).grown hgrow (by simp; omega) (fun b hb => ((hown.alloc (.cells #[.string ⟨#[]⟩] 9)).lt b hb).1)
            have hown2 : w1.ownsRow w.heap.size 9 1 v' ((ps ++ [cur]).length + 1) (strs (ps ++ [cur] ++ [[]])) := by
              rw [← strs_snoc, List.length_append]; exact hown'
            clear hown' hgrow hown hw HST
            go_wp2_with fail
            go_roundw
            case rel => exact ⟨k + 1, ps ++ [cur], [], false, cn, by omega, by go_num, rfl, rfl, HSN.out _ (cstep_sep' sep _ _ _ _ HSP.out), hown2, hB⟩
            case measure => simp [intOf]; omega
        · have HE := HSN.out _ (cstep_else' sep ps cur true cn s[k] (fun h => by cases h.2))
          have HEE : Hid (cutS sep (s.data.toList.take (k + 1)) = _) := HE
          clear HE hsep HSN hown hw
          cases cn
          · by_cases h34 : (s[k].toNat : Int) = 34
            · have hd2 := one_eq s k hlt 34 true (decide_eq_true h34)
              have H34 : Hid (s[k] = 34) := eq_of_int _ 34 h34
              clear h34
              go_wp2_with fail
              go_roundw
              case rel => exact ⟨k + 1, ps, cur ++ [s[k]], false, false, by omega, by go_num, rfl, rfl, by rw [HEE.out, H34.out]; rfl, HST.out.1, HST.out.2⟩
              case measure => simp [intOf]; omega
            · have hd2 := one_eq s k hlt 34 false (decide_eq_false h34)
              have H34 : Hid (s[k] ≠ 34) := ne_of_int _ 34 h34
              clear h34
              by_cases h92 : (s[k].toNat : Int) = 92
              · have hd3 := one_eq s k hlt 92 true (decide_eq_true h92)
                have H92 : Hid (s[k] = 92) := eq_of_int _ 92 h92
                clear h92
                go_wp2_with fail
                go_roundw
                case rel => exact ⟨k + 1, ps, cur ++ [s[k]], true, true, by omega, by go_num, rfl, rfl, by rw [HEE.out, H92.out]; rfl, HST.out.1, HST.out.2⟩
                case measure => simp [intOf]; omega
              · have hd3 := one_eq s k hlt 92 false (decide_eq_false h92)
                have H92 : Hid (s[k] ≠ 92) := ne_of_int _ 92 h92
                clear h92
                go_wp2_with fail
                go_roundw
                case rel => exact ⟨k + 1, ps, cur ++ [s[k]], true, false, by omega, by go_num, rfl, rfl, by rw [HEE.out, if_neg H34.out, if_neg H34.out, if_neg H92.out]; rfl, HST.out.1, HST.out.2⟩
                case measure => simp [intOf]; omega
          · go_wp2_with fail
            go_roundw
            case rel => exact ⟨k + 1, ps, cur ++ [s[k]], true, false, by omega, by go_num, rfl, rfl, HEE.out, HST.out.1, HST.out.2⟩
            case measure => simp [intOf]; omega
      · have hd1 := one_eq s k hlt sep false (decide_eq_false hsep)
        have hd1' := one_eq2 s k hlt sep false (decide_eq_false hsep)
        have HE := HSN.out _ (cstep_else' sep ps cur q cn s[k] (fun h => ne_of_int _ _ hsep h.1))
        have HEE : Hid (cutS sep (s.data.toList.take (k + 1)) = _) := HE
        clear HE hsep HSN hown hw
        cases cn
        · by_cases h34 : (s[k].toNat : Int) = 34
          · have hd2 := one_eq s k hlt 34 true (decide_eq_true h34)
            have H34 : Hid (s[k] = 34) := eq_of_int _ 34 h34
            clear h34
            cases q
            all_goals
              go_wp2_with fail
              go_roundw
              case rel => exact ⟨k + 1, ps, cur ++ [s[k]], _, false, by omega, by go_num, rfl, rfl, by rw [HEE.out, H34.out]; rfl, HST.out.1, HST.out.2⟩
              case measure => simp [intOf]; omega
          · have hd2 := one_eq s k hlt 34 false (decide_eq_false h34)
            have H34 : Hid (s[k] ≠ 34) := ne_of_int _ 34 h34
            clear h34
            by_cases h92 : (s[k].toNat : Int) = 92
            · have hd3 := one_eq s k hlt 92 true (decide_eq_true h92)
              have H92 : Hid (s[k] = 92) := eq_of_int _ 92 h92
              clear h92
              cases q
              all_goals
                go_wp2_with fail
                go_roundw
                case rel => exact ⟨k + 1, ps, cur ++ [s[k]], _, _, by omega, by go_num, rfl, rfl, by rw [HEE.out, H92.out]; rfl, HST.out.1, HST.out.2⟩
                case measure => simp [intOf]; omega
            · have hd3 := one_eq s k hlt 92 false (decide_eq_false h92)
              have H92 : Hid (s[k] ≠ 92) := ne_of_int _ 92 h92
              clear h92
              cases q
              all_goals
                go_wp2_with fail
                go_roundw
                case rel => exact ⟨k + 1, ps, cur ++ [s[k]], _, false, by omega, by go_num, rfl, rfl, by rw [HEE.out, if_neg H34.out, if_neg H34.out, if_neg H92.out]; rfl, HST.out.1, HST.out.2⟩
                case measure => simp [intOf]; omega
        · cases q
          all_goals
            go_wp2_with fail
            go_roundw
            case rel => exact ⟨k + 1, ps, cur ++ [s[k]], _, false, by omega, by go_num, rfl, rfl, HEE.out, HST.out.1, HST.out.2⟩
            case measure => simp [intOf]; omega
    · have HE : Hid (cutS sep s.data.toList = ⟨ps, cur, q, cn⟩) := by
        show cutS sep s.data.toList = _
        have h := HC.out
        rw [List.take_of_length_le (by rw [size_list]; omega)] at h
        exact h
      have HEN : Hid (ends sep s.data.toList = !q) := by show _ = _; unfold ends; rw [HE.out]
      have HPI : Hid (pieces sep s.data.toList = ps ++ [cur]) := by show _ = _; unfold pieces; rw [HE.out]
      obtain ⟨wo, rfl⟩ : ∃ wo : World, wo = wr := ⟨_, rfl⟩
      clear hcell hfz HC hcl
      go_wp2_with fail
      go_loopw [56] (fun i wr => ∃ j : Nat, j ≤ ps.length + 1 ∧ i = .int .i64 j ∧ wr.ownsRow w.heap.size 9 1 (.slice (some ⟨g, 0, none⟩) (ps.length + 1) cap) (ps.length + 1) (strs (half (ps ++ [cur]) j)) ∧ Below w.heap.size w wr) (fun i _ => ps.length + 1 - (intOf i).toNat)
      case atStart => exact ⟨0, by omega, rfl, by simpa [half] using hown, hw⟩
      case round =>
        obtain ⟨j, hj, rfl, hown2, hw2⟩ := hrel
        clear hown hw
        have hsz2 := hw2.size
        by_cases hjt : j < ps.length + 1
        · have hjP : j < (ps ++ [cur]).length := by simp; omega
          have hcell : wr.cell? ⟨g, j, none⟩ = some (.string ⟨((ps ++ [cur])[j]).toArray⟩) := by
            rw [hown2.cellAt j (by omega)]
            exact half_get _ j hjP
          obtain ⟨u, hu⟩ : ∃ u : ByteArray, u = ⟨((ps ++ [cur])[j]).toArray⟩ := ⟨_, rfl⟩
          rw [← hu] at hcell
          obtain ⟨u', hu'⟩ : ∃ u' : ByteArray, u' = ⟨(trimL (ps ++ [cur])[j]).toArray⟩ := ⟨_, rfl⟩
          have hus : u.size ≤ 1000 := by
            rw [hu, ← size_list]
            have := pieces_len sep s.data.toList (ps ++ [cur])[j] (by rw [HPI.out]; exact List.getElem_mem hjP)
            rw [size_list] at this
            show ((ps ++ [cur])[j]).length ≤ 1000
            omega
          have HU : Hid (u'.data.toList = trimL u.data.toList) := by show _ = _; rw [hu, hu']
          have HU' : Hid (u' = ⟨(trimL (ps ++ [cur])[j]).toArray⟩) := hu'
          clear hu hu'
          go_wp2_with fail
          refine (rtrim_at 1000 _ u' _ hus (by omega) HU.out).mono ?_
          rintro e w1 ⟨rfl, hb⟩
          have hown3 := own_below hown2 hb
          have hcell3 : w1.cell? ⟨g, j, none⟩ = some (.string u) := (hb.cell (cell_block' hcell)).trans hcell
          have hfz3 := hown3.frozenAt j
          have hw3 := hw2.trans (hb.mono hw2.size)
          have HST : Hid ((w1.setCell ⟨g, j, none⟩ (.string u')).ownsRow w.heap.size 9 1 (.slice (some ⟨g, 0, none⟩) (ps.length + 1) cap) (ps.length + 1) (strs (half (ps ++ [cur]) (j + 1))) ∧ Below w.heap.size w (w1.setCell ⟨g, j, none⟩ (.string u'))) := by
            refine ⟨?_, hw3.setCell (p := ⟨g, j, none⟩) hgB _⟩
            have h := (hown3.stored j (.string u')).1
            rw [HU'.out, half_set _ j hjP] at h
            rw [HU'.out]
            exact h
          clear hown3 hown2 hw2 hw3 hb hcell
          go_wp2_with fail
          go_roundw
          case rel => exact ⟨j + 1, by omega, by go_num, HST.out.1, HST.out.2⟩
          case measure => simp [intOf]; omega
        · obtain rfl : j = ps.length + 1 := by omega
          go_wp2_with fail
          go_ret2
          refine ⟨.slice (some ⟨g, 0, none⟩) (ps.length + 1) cap, by rw [HEN.out]; rfl, ?_, hw2⟩
          rw [HPI.out, ← half_all]
          have e : (ps ++ [cur]).length = ps.length + 1 := by simp
          rw [e]
          exact hown2
end Go.Proofs.YtoccjnbodoiibabDoor
