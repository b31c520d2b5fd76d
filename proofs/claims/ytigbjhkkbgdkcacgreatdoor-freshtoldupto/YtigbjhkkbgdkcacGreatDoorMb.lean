/-
  What cut of package token computes: the pieces of a text between the signs that are not within quotes; the text has at most 1000 bytes, and the sign is no quote and no stroke.
-/
import Derived.Test.YtigbjhkkbgdkcacGreatDoorMa
import Derived.Test.YtigbjhkkbgdkcacGreatDoorShelf
import Derived.Test.YtigbjhkkbgdkcacGreatDoorRows
import Derived.Lib.ItoaNum
import Derived.Lib.TrimByte
import Derived.Lib.IndexBytes
namespace Go.Proofs.YtigbjhkkbgdkcacGreatDoor
open Go.RowKit

set_option maxHeartbeats 4000000 in
set_option maxRecDepth 100000 in
theorem cut_any (s : ByteArray) (sep : UInt8) (w : World) (hs : s.size ≤ 1000) (h34 : sep ≠ 34) :
    Calls Tryz.prog 49 #[.string s, .int .u8 (sep.toNat : Int)] w fun e w' => ∃ v, e = .returned (.tuple #[v, .bool (ends sep s.data.toList)]) ∧
      w'.ownsRow w.heap.size 9 1 v (pieces sep s.data.toList).length (strs (pieces sep s.data.toList)) ∧ Below w.heap.size w w' := by
  obtain ⟨i0, hi, hz0, hz1, hz2⟩ := info_parts info9
  have HS34 : Hid (sep ≠ 34) := h34
  clear h34
  go_enter Tryz.func49, Tryz.ntmps49
  go_wp2_with fail
  go_loopw [6, 7, 8, 9] (fun v st wi i wr => ∃ (k a : Nat) (ps : List (List UInt8)) (q cn : Bool), k ≤ s.size + 1 ∧ a ≤ k ∧ a ≤ s.size ∧ i = .int .i64 k ∧ st = .int .i64 a ∧ wi = .bool q ∧ (k ≤ s.size → cn = false) ∧
      cutS sep (s.data.toList.take k) = ⟨ps, (s.data.toList.drop a).take (k - a), q, cn⟩ ∧ wr.ownsRow w.heap.size 9 1 v ps.length (strs ps) ∧ Below w.heap.size w wr) (fun _ _ _ i _ => s.size + 1 - (intOf i).toNat)
  case atStart => exact ⟨0, 0, [], false, false, by omega, by omega, by omega, rfl, rfl, rfl, fun _ => rfl, by simp [cutS], World.ownsRow_nil _ _ _ _, Below.refl _ _⟩
  case round =>
    obtain ⟨k, a, ps, q, cn, hk, hak, has, rfl, rfl, rfl, hcn, hcut, hown, hw⟩ := hrel
    have hpl : ps.length ≤ 1000 := by
      have h1 := cutS_len sep (s.data.toList.take k)
      have h2 := List.length_take_le' k s.data.toList
      rw [hcut] at h1
      rw [size_list] at h2
      simp only at h1
      omega
    have hsz := hw.size
    have HC : Hid (cutS sep (s.data.toList.take k) = ⟨ps, (s.data.toList.drop a).take (k - a), q, cn⟩) := hcut
    clear hcut
    by_cases hlt : k < s.size
    · have hcn' := hcn (by omega)
      subst hcn'
      clear hcn
      have hc1 : (s[k].toNat : Int) < 256 := by have := s[k].toNat_lt; omega
      have HSN : Hid (∀ x, cstep sep ⟨ps, (s.data.toList.drop a).take (k - a), q, false⟩ s[k] = x → cutS sep (s.data.toList.take (k + 1)) = x) := by
        intro x hx
        rw [take_snoc s k hlt, cutS_snoc, HC.out, hx]
      by_cases hq34 : (s[k].toNat : Int) = 34
      · have hd1 : ((s[k].toNat : Int) == 92) = false := by rw [beq_eq_false_iff_ne]; omega
        have hd2 : ((s[k].toNat : Int) == 34) = true := by simp [hq34]
        have H34 : Hid ((s[k].toNat : Int) = 34) := hq34
        clear hq34
        cases q
        · go_wp2_with fail
          go_roundw
          case rel => exact ⟨k + 1, a, ps, true, false, by omega, by omega, by omega, by go_num, rfl, rfl, fun _ => rfl, by rw [seg_snoc s a k hak hlt]; exact HSN.out _ (cstep_quote sep HS34.out _ _ _ _ (eq_of_int _ 34 H34.out)), hown, hw⟩
          case measure => simp [intOf]; omega
        · go_wp2_with fail
          go_roundw
          case rel => exact ⟨k + 1, a, ps, false, false, by omega, by omega, by omega, by go_num, rfl, rfl, fun _ => rfl, by rw [seg_snoc s a k hak hlt]; exact HSN.out _ (cstep_quote sep HS34.out _ _ _ _ (eq_of_int _ 34 H34.out)), hown, hw⟩
          case measure => simp [intOf]; omega
      · have hd2 : ((s[k].toNat : Int) == 34) = false := by rw [beq_eq_false_iff_ne]; exact hq34
        have H34 : Hid ((s[k].toNat : Int) ≠ 34) := hq34
        clear hq34
        cases q
        · by_cases hsep : (s[k].toNat : Int) = (sep.toNat : Int)
          · have hd3 : ((s[k].toNat : Int) == (sep.toNat : Int)) = true := by simp [hsep]
            have HSP : Hid ((s[k].toNat : Int) = (sep.toNat : Int)) := hsep
            clear hsep
            go_wp2_with (at_builtin; refine wpList_append_own _ rfl _ _ 33 rfl w.heap.size 9 i0 (.string ⟨#[]⟩) 1 16 Tryz.underlying33 hi hz0 hz1 hz2 rfl (by decide) _ _ _ rfl (hown.alloc _) ⟨wr.heap.size, 0, none⟩ 1 1 [.string (s.extract a k)] rfl rfl ?c1 ?c2 ?c3 ?c4 ?c5 ?_)
            case c1 => exact one_cell _ _ _
            case c2 => intro u hu; simp at hu; subst hu; rfl
            case c3 => unfold maxLen; omega
            case c4 => omega
            case c5 => simp; omega
            · intro v' w1 hown' hgrow _
              have hB : Below w.heap.size w w1 := (hw.alloc (by omega) _).grown hgrow (by simp; omega) (fun b hb => ((hown.alloc (.cells #[.string (s.extract a k)] 9)).lt b hb).1)
              have hown2 : w1.ownsRow w.heap.size 9 1 v' (ps ++ [(s.data.toList.drop a).take (k - a)]).length (strs (ps ++ [(s.data.toList.drop a).take (k - a)])) := by
                rw [← strs_snoc, List.length_append, ← extract_seg]; exact hown'
              clear hown' hgrow hown hw
              go_wp2_with fail
              go_roundw
              case rel => exact ⟨k + 1, k + 1, _, false, false, by omega, by omega, by omega, by go_num, by go_num, rfl, fun _ => rfl, by rw [Nat.sub_self, List.take_zero]; exact HSN.out _ (cstep_sep sep _ _ _ (eq_of_int _ _ HSP.out)), hown2, hB⟩
              case measure => simp [intOf]; omega
          · have hd3 : ((s[k].toNat : Int) == (sep.toNat : Int)) = false := by rw [beq_eq_false_iff_ne]; exact hsep
            have HSP : Hid ((s[k].toNat : Int) ≠ (sep.toNat : Int)) := hsep
            clear hsep
            go_wp2_with fail
            go_roundw
            case rel => exact ⟨k + 1, a, ps, false, false, by omega, by omega, by omega, by go_num, rfl, rfl, fun _ => rfl, by rw [seg_snoc s a k hak hlt]; exact HSN.out _ (cstep_else sep _ _ _ _ (fun h => ne_of_int _ _ HSP.out h.1) (ne_of_int _ 34 H34.out) (fun h => by cases h.2)), hown, hw⟩
            case measure => simp [intOf]; omega
        · by_cases hq92 : (s[k].toNat : Int) = 92
          · have hd1 : ((s[k].toNat : Int) == 92) = true := by simp [hq92]
            have H92 : Hid ((s[k].toNat : Int) = 92) := hq92
            clear hq92
            have HN : Hid (∃ cn', (k + 2 ≤ s.size → cn' = false) ∧ cutS sep (s.data.toList.take (k + 2)) = ⟨ps, (s.data.toList.drop a).take (k + 2 - a), true, cn'⟩) := by
              have h1 := HSN.out _ (cstep_back sep _ _ _ (eq_of_int _ 92 H92.out))
              rw [← seg_snoc s a k hak hlt] at h1
              by_cases h2 : k + 1 < s.size
              · refine ⟨false, fun _ => rfl, ?_⟩
                rw [take_snoc s (k + 1) h2, cutS_snoc, h1, cstep_took, seg_snoc s a (k + 1) (by omega) h2]
              · refine ⟨true, fun h => absurd h (by omega), ?_⟩
                have e1 : s.data.toList.take (k + 2) = s.data.toList.take (k + 1) := by
                  rw [List.take_of_length_le (by rw [size_list]; omega), List.take_of_length_le (by rw [size_list]; omega)]
                have e2 : (s.data.toList.drop a).take (k + 2 - a) = (s.data.toList.drop a).take (k + 1 - a) := by
                  rw [List.take_of_length_le (by rw [List.length_drop, size_list]; omega), List.take_of_length_le (by rw [List.length_drop, size_list]; omega)]
                rw [e1, e2, h1]
            go_wp2_with fail
            go_roundw
            case rel =>
              obtain ⟨cn', h1, h2⟩ := HN.out
              exact ⟨k + 2, a, ps, true, cn', by omega, by omega, by omega, by go_num, rfl, rfl, h1, h2, hown, hw⟩
            case measure => simp [intOf]; omega
          · have hd1 : ((s[k].toNat : Int) == 92) = false := by rw [beq_eq_false_iff_ne]; exact hq92
            have H92 : Hid ((s[k].toNat : Int) ≠ 92) := hq92
            clear hq92
            by_cases hsep : (s[k].toNat : Int) = (sep.toNat : Int)
            · have hd3 : ((s[k].toNat : Int) == (sep.toNat : Int)) = true := by simp [hsep]
              clear hsep
              go_wp2_with fail
              go_roundw
              case rel => exact ⟨k + 1, a, ps, true, false, by omega, by omega, by omega, by go_num, rfl, rfl, fun _ => rfl, by rw [seg_snoc s a k hak hlt]; exact HSN.out _ (cstep_else sep _ _ _ _ (fun h => by cases h.2) (ne_of_int _ 34 H34.out) (fun h => ne_of_int _ 92 H92.out h.1)), hown, hw⟩
              case measure => simp [intOf]; omega
            · have hd3 : ((s[k].toNat : Int) == (sep.toNat : Int)) = false := by rw [beq_eq_false_iff_ne]; exact hsep
              clear hsep
              go_wp2_with fail
              go_roundw
              case rel => exact ⟨k + 1, a, ps, true, false, by omega, by omega, by omega, by go_num, rfl, rfl, fun _ => rfl, by rw [seg_snoc s a k hak hlt]; exact HSN.out _ (cstep_else sep _ _ _ _ (fun h => by cases h.2) (ne_of_int _ 34 H34.out) (fun h => ne_of_int _ 92 H92.out h.1)), hown, hw⟩
              case measure => simp [intOf]; omega
    · have HE : Hid (cutS sep s.data.toList = ⟨ps, (s.data.toList.drop a).take (s.size - a), q, cn⟩) := by
        show cutS sep s.data.toList = _
        have h := HC.out
        have e2 : (s.data.toList.drop a).take (k - a) = (s.data.toList.drop a).take (s.size - a) := by
          rw [List.take_of_length_le (by rw [List.length_drop, size_list]; omega), List.take_of_length_le (by rw [List.length_drop, size_list]; omega)]
        rw [List.take_of_length_le (by rw [size_list]; omega), e2] at h
        exact h
      clear hcn
      go_wp2_with (at_builtin; refine wpList_append_own _ rfl _ _ 33 rfl w.heap.size 9 i0 (.string ⟨#[]⟩) 1 16 Tryz.underlying33 hi hz0 hz1 hz2 rfl (by decide) _ _ _ rfl (hown.alloc _) ⟨wr.heap.size, 0, none⟩ 1 1 [.string (s.extract a s.size)] rfl rfl ?d1 ?d2 ?d3 ?d4 ?d5 ?_)
      case d1 => exact one_cell _ _ _
      case d2 => intro u hu; simp at hu; subst hu; rfl
      case d3 => unfold maxLen; omega
      case d4 => omega
      case d5 => simp; omega
      · intro v' w1 hown' hgrow _
        have hB : Below w.heap.size w w1 := (hw.alloc (by omega) _).grown hgrow (by simp; omega) (fun b hb => ((hown.alloc (.cells #[.string (s.extract a s.size)] 9)).lt b hb).1)
        have hown2 : w1.ownsRow w.heap.size 9 1 v' (pieces sep s.data.toList).length (strs (pieces sep s.data.toList)) := by
          unfold pieces
          rw [HE.out, ← strs_snoc, List.length_append, ← extract_seg]; exact hown'
        have HEN : Hid (ends sep s.data.toList = !q) := by show _ = _; unfold ends; rw [HE.out]
        clear hown' hgrow hown hw
        go_wp2_with fail
        go_ret2
        exact ⟨v', by rw [HEN.out]; rfl, hown2, hB⟩
end Go.Proofs.YtigbjhkkbgdkcacGreatDoor

/-
  Small laws on rows of memory that a call made itself; no program is named here.
-/
namespace Go.Proofs.YtigbjhkkbgdkcacGreatDoor
open Go.RowKit

theorem own_nil {w : World} {B : Nat} {e : TypeId} {v : Value} {xs : List Value} (h : w.ownsRow B e 1 v 0 xs) : xs = [] := by
  have := h.1
  simpa using this

theorem own_cell {w : World} {B : Nat} {v : Value} {n : Nat} {ps : List (List UInt8)} (h : w.ownsRow B 9 1 v n (strs ps)) : n = ps.length := by
  have := h.1
  rw [strs_length] at this
  omega

theorem own_slice {w : World} {B : Nat} {e : TypeId} {v : Value} {n : Nat} {xs : List Value} (h : w.ownsRow B e 1 v n xs) : ∃ ad cap, v = .slice ad n cap ∧ cap ≤ maxLen ∧ n ≤ cap ∧ (0 < n → ∃ g, ad = some ⟨g, 0, none⟩ ∧ B ≤ g ∧ g < w.heap.size ∧ ∀ j, j < n → w.cell? ⟨g, j, none⟩ = xs[j]?) := by
  rcases h.2 with ⟨rfl, rfl⟩ | ⟨g, cap, cur, hv, hb, hg, hnc, hcm, _, _⟩
  · exact ⟨none, 0, rfl, by unfold maxLen; omega, Nat.le_refl _, fun h => absurd h (by omega)⟩
  · refine ⟨some ⟨g, 0, none⟩, cap, hv, hcm, hnc, fun _ => ⟨g, rfl, hb, (Array.getElem?_eq_some_iff.1 hg).1, fun j hj => ?_⟩⟩
    subst hv
    exact h.cellAt j (by omega)

theorem own_below2 {w w1 : World} {B : Nat} {e : TypeId} {v : Value} {n : Nat} {xs : List Value} (h : w.ownsRow B e 1 v n xs) (hb : Below w.heap.size w w1) : w1.ownsRow B e 1 v n xs := by
  refine ⟨h.1, ?_⟩
  rcases h.2 with h0 | ⟨g, cap, cur, hv, hB, hg, h3⟩
  · exact .inl h0
  · exact .inr ⟨g, cap, cur, hv, hB, (hb.block g (Array.getElem?_eq_some_iff.1 hg).1).trans hg, h3⟩
theorem ownsRow_le' {w : World} {B B' : Nat} {e : TypeId} {v : Value} {n : Nat} {xs : List Value} (h : w.ownsRow B e 1 v n xs) (hb : B' ≤ B) : w.ownsRow B' e 1 v n xs := by
  refine ⟨h.1, ?_⟩
  rcases h.2 with h0 | ⟨g, cap, cur, hv, hB, h3⟩
  · exact .inl h0
  · exact .inr ⟨g, cap, cur, hv, Nat.le_trans hb hB, h3⟩
end Go.Proofs.YtigbjhkkbgdkcacGreatDoor

/-
  What Split of package token computes; the text is no longer than Go allows.
-/
namespace Go.Proofs.YtigbjhkkbgdkcacGreatDoor
open Go.RowKit

def kept (P : List (List UInt8)) : List (List UInt8) := (P.map trimL).filter (fun p => !p.isEmpty)
def splitS (l : List UInt8) : List (List UInt8) × Int :=
  if 1000 < l.length then ([], 2) else if ends 44 l = false then ([], 3) else if 20 < (kept (pieces 44 l)).length then ([], 2) else (kept (pieces 44 l), 0)

theorem kept_snoc (P : List (List UInt8)) (p : List UInt8) : kept (P ++ [p]) = if (trimL p).isEmpty = true then kept P else kept P ++ [trimL p] := by
  unfold kept
  rw [List.map_append, List.filter_append]
  cases h : (trimL p).isEmpty <;> simp [h]
theorem kept_len (P : List (List UInt8)) : (kept P).length ≤ P.length := by
  unfold kept
  have := List.length_filter_le (fun p : List UInt8 => !p.isEmpty) (P.map trimL)
  simpa using this
theorem take_one (P : List (List UInt8)) (k : Nat) (h : k < P.length) : P.take (k + 1) = P.take k ++ [P[k]] := List.take_succ_eq_append_getElem h

set_option maxHeartbeats 4000000 in
set_option maxRecDepth 100000 in
theorem split_any (s : ByteArray) (w : World) :
    Calls Tryz.prog 25 #[.string s] w fun e w' => ∃ v, e = .returned (.tuple #[v, .int .i64 (splitS s.data.toList).2]) ∧
      w'.ownsRow w.heap.size 9 1 v (splitS s.data.toList).1.length (strs (splitS s.data.toList).1) ∧ Below w.heap.size w w' := by
  obtain ⟨i0, hi, hz0, hz1, hz2⟩ := info_parts info9
  by_cases h1 : 1000 < (s.size : Int)
  · have HL : Hid (splitS s.data.toList = ([], 2)) := by show _ = _; unfold splitS; rw [if_pos (by rw [size_list]; omega)]
    go_enter Tryz.func25, Tryz.ntmps25
    go_wp2_with fail
    go_ret2
    exact ⟨.slice none 0 0, by rw [HL.out]; rfl, by rw [HL.out]; exact World.ownsRow_nil _ _ _ _, Below.refl _ _⟩
  · have hs : s.size ≤ 1000 := by omega
    have HL : Hid (¬ 1000 < s.data.toList.length) := by show ¬ _; rw [size_list]; omega
    clear h1
    cases he : ends 44 s.data.toList
    · have HE : Hid (ends 44 s.data.toList = false) := he
      have HS : Hid (splitS s.data.toList = ([], 3)) := by show _ = _; unfold splitS; rw [if_neg HL.out, if_pos he]
      clear he
      go_enter Tryz.func25, Tryz.ntmps25
      go_wp2_with fail
      refine (cut_any s 44 _ hs (by decide)).mono ?_
      rintro e w1 ⟨v, rfl, hown, hb⟩
      rw [HE.out]
      go_wp2_with fail
      go_ret2
      exact ⟨.slice none 0 0, by rw [HS.out]; rfl, by rw [HS.out]; exact World.ownsRow_nil _ _ _ _, hb⟩
    · have HE : Hid (ends 44 s.data.toList = true) := he
      have HS : Hid (splitS s.data.toList = if 20 < (kept (pieces 44 s.data.toList)).length then ([], 2) else (kept (pieces 44 s.data.toList), 0)) := by
        show _ = _; unfold splitS; rw [if_neg HL.out, if_neg (by rw [he]; simp)]
      clear he
      obtain ⟨P, hP⟩ : ∃ P, P = pieces 44 s.data.toList := ⟨_, rfl⟩
      have HP : Hid (P = pieces 44 s.data.toList) := hP
      have hPl : P.length ≤ 1001 := by
        rw [hP]; unfold pieces
        have := cutS_len 44 s.data.toList
        rw [size_list] at this
        simp; omega
      clear hP
      go_enter Tryz.func25, Tryz.ntmps25
      go_wp2_with fail
      refine (cut_any s 44 _ hs (by decide)).mono ?_
      rintro e w1 ⟨v, rfl, hown, hb⟩
      rw [HE.out]
      rw [← HP.out] at hown
      obtain ⟨ad, cap, hv, hcm, hnc, hcells⟩ := own_slice hown
      subst hv
      unfold maxLen at hcm
      have HCL : Hid (0 < P.length → ∃ g, ad = some ⟨g, 0, none⟩ ∧ w.heap.size ≤ g ∧ g < w1.heap.size ∧ ∀ j, j < P.length → w1.cell? ⟨g, j, none⟩ = (strs P)[j]?) := hcells
      have hbs := hb.size
      clear hcells hown
      go_wp2_with fail
      go_loopw [6, 22] (fun v i wr => ∃ k : Nat, k ≤ P.length ∧ i = .int .i64 k ∧ wr.ownsRow w1.heap.size 9 1 v (kept (P.take k)).length (strs (kept (P.take k))) ∧ Below w1.heap.size w1 wr) (fun _ i _ => P.length - (intOf i).toNat)
      case atStart => exact ⟨0, by omega, rfl, World.ownsRow_nil _ _ _ _, Below.refl _ _⟩
      case round =>
        obtain ⟨k, hk, rfl, hown, hw⟩ := hrel
        have hsz := hw.size
        have hkl : (kept (P.take k)).length ≤ 1001 := by
          have h1 := kept_len (P.take k)
          have h2 := List.length_take_le k P
          omega
        by_cases hlt : k < P.length
        · obtain ⟨g, rfl, hgB, hgs, hce⟩ := HCL.out (by omega)
          have hcell : wr.cell? ⟨g, k, none⟩ = some (.string ⟨(P[k]).toArray⟩) := by
            rw [hw.cell (p := ⟨g, k, none⟩) hgs, hce k hlt]
            exact strs_get P k hlt
          obtain ⟨u, hu⟩ : ∃ u : ByteArray, u = ⟨(P[k]).toArray⟩ := ⟨_, rfl⟩
          rw [← hu] at hcell
          have hus : u.size ≤ 1000 := by
            rw [hu, ← size_list]
            have h2 := pieces_len 44 s.data.toList P[k] (by rw [← HP.out]; exact List.getElem_mem hlt)
            rw [size_list] at h2
            show (P[k]).length ≤ 1000
            omega
          obtain ⟨u', hu'⟩ : ∃ u' : ByteArray, u' = ⟨(trimL P[k]).toArray⟩ := ⟨_, rfl⟩
          have HU : Hid (u'.data.toList = trimL u.data.toList) := by show _ = _; rw [hu, hu']
          have HU' : Hid (u' = ⟨(trimL P[k]).toArray⟩) := hu'
          have hus' : u'.size ≤ 1000 := by
            rw [← size_list, HU.out]
            have := trimL_len u.data.toList
            rw [size_list] at this
            omega
          have HKS : Hid (kept (P.take (k + 1)) = if (trimL P[k]).isEmpty = true then kept (P.take k) else kept (P.take k) ++ [trimL P[k]]) := by
            show _ = _; rw [take_one P k hlt, kept_snoc]
          clear hce hu hu'
          cases hem : u'.toList.isEmpty
          · have HEM : Hid ((trimL P[k]).isEmpty = false) := by
              show _ = _
              rw [ByteArray.toList_eq, HU'.out] at hem
              exact hem
            go_wp2_with fail
            refine (trim_at _ u' HU.out _ (by omega)).mono ?_
            rintro e w2 ⟨rfl, hb2⟩
            have hown2 := own_below2 hown hb2
            have hw2 := hw.trans (hb2.mono hw.size)
            have hsz2 := hw2.size
            clear hown hw hb2 hcell
            go_wp2_with fail
            refine (clone_at _ _ (by omega)).mono ?_
            rintro e w3 ⟨rfl, hb3⟩
            have hown3 := own_below2 hown2 hb3
            have hw3 := hw2.trans (hb3.mono hw2.size)
            have hsz3 := hw3.size
            clear hown2 hw2 hb3
            go_wp2_with (at_builtin; refine wpList_append_own _ rfl _ _ 33 rfl w1.heap.size 9 i0 (.string ⟨#[]⟩) 1 16 Tryz.underlying33 hi hz0 hz1 hz2 rfl (by decide) _ _ _ rfl (hown3.alloc _) ⟨w3.heap.size, 0, none⟩ 1 1 [.string u'] rfl rfl ?c1 ?c2 ?c3 ?c4 ?c5 ?_)
            case c1 => exact one_cell _ _ _
            case c2 => intro x hx; simp at hx; subst hx; rfl
            case c3 => unfold maxLen; omega
            case c4 => omega
            case c5 => simp; omega
            · intro v' w4 hown' hgrow _
              have hB : Below w1.heap.size w1 w4 := (hw3.alloc (by omega) _).grown hgrow (by simp; omega) (fun b hb => ((hown3.alloc (.cells #[.string u'] 9)).lt b hb).1)
              have hown4 : w4.ownsRow w1.heap.size 9 1 v' (kept (P.take (k + 1))).length (strs (kept (P.take (k + 1)))) := by
                rw [HKS.out, HEM.out]
                simp only [Bool.false_eq_true, if_false]
                rw [← strs_snoc, List.length_append, ← HU'.out]; exact hown'
              clear hown' hgrow hown3 hw3
              go_wp2_with fail
              go_roundw
              case rel => exact ⟨k + 1, by omega, by go_num, hown4, hB⟩
              case measure => simp [intOf]; omega
          · have HEM : Hid ((trimL P[k]).isEmpty = true) := by
              show _ = _
              rw [ByteArray.toList_eq, HU'.out] at hem
              exact hem
            go_wp2_with fail
            refine (trim_at _ u' HU.out _ (by omega)).mono ?_
            rintro e w2 ⟨rfl, hb2⟩
            have hown2 := own_below2 hown hb2
            have hw2 := hw.trans (hb2.mono hw.size)
            clear hown hw hb2 hcell
            go_wp2_with fail
            go_roundw
            case rel => exact ⟨k + 1, by omega, by go_num, by rw [HKS.out, if_pos HEM.out]; exact hown2, hw2⟩
            case measure => simp [intOf]; omega
        · obtain rfl : k = P.length := by omega
          rw [List.take_length] at hown hkl
          obtain ⟨ad2, cap2, hv2, hcm2, hnc2, _⟩ := own_slice hown
          subst hv2
          unfold maxLen at hcm2
          by_cases h20 : 20 < ((kept P).length : Int)
          · have HR : Hid (splitS s.data.toList = ([], 2)) := by show _ = _; rw [HS.out, if_pos (by rw [← HP.out]; omega)]
            go_wp2_with fail
            go_ret2
            exact ⟨.slice none 0 0, by rw [HR.out]; rfl, by rw [HR.out]; exact World.ownsRow_nil _ _ _ _, hb.trans (hw.mono hbs)⟩
          · have HR : Hid (splitS s.data.toList = (kept P, 0)) := by show _ = _; rw [HS.out, if_neg (by rw [← HP.out]; omega), ← HP.out]
            go_wp2_with fail
            go_ret2
            exact ⟨_, by rw [HR.out]; rfl, by rw [HR.out]; exact ownsRow_le' hown hbs, hb.trans (hw.mono hbs)⟩
end Go.Proofs.YtigbjhkkbgdkcacGreatDoor

/-
  Directives in plain lists: what one is checked for, how they are printed and read; no program is named here.
-/
namespace Go.Proofs.YtigbjhkkbgdkcacGreatDoor
open Go.RowKit

/-- A name, whether there is an argument, and the argument. -/
abbrev Dv := List UInt8 × Bool × List UInt8
def okNm (n : List UInt8) : Bool := token n && lower n == n
def prArg (a : List UInt8) : List UInt8 × Int := if token a = true then (a, 0) else qt a
def chkD (d : Dv) : Int := if okNm d.1 = true then (if d.2.1 = true then (prArg d.2.2).2 else if d.2.2.isEmpty = true then 0 else 3) else 3
def prD (d : Dv) : List UInt8 := d.1 ++ (if d.2.1 = true then 61 :: (prArg d.2.2).1 else [])
def badD : List Dv → Int
  | [] => 0
  | d :: ds => if chkD d = 0 then badD ds else chkD d
def sepD : List Dv → List UInt8
  | [] => []
  | d :: ds => prD d ++ ds.flatMap (fun x => 44 :: 32 :: prD x)
/-- What Print answers. -/
def ctP (ds : List Dv) : List UInt8 × Int := if badD ds = 0 then (if 20 < ds.length ∨ 1000 < (sepD ds).length then ([], 2) else (sepD ds, 0)) else ([], badD ds)

theorem badD_app (a b : List Dv) (h : badD a = 0) : badD (a ++ b) = badD b := by
  induction a with
  | nil => rfl
  | cons x a ih =>
    unfold badD at h
    split at h
    · rename_i hx
      rw [List.cons_append]
      show (if chkD x = 0 then badD (a ++ b) else chkD x) = _
      rw [if_pos hx]; exact ih h
    · rename_i hx; exact absurd h hx
theorem badD_one (x : Dv) : badD [x] = chkD x := by
  show (if chkD x = 0 then badD [] else chkD x) = chkD x
  split
  · rename_i h; rw [h]; rfl
  · rfl
theorem badD_take (ls : List Dv) (k : Nat) (h : k < ls.length) (h0 : badD (ls.take k) = 0) (h1 : chkD ls[k] = 0) : badD (ls.take (k + 1)) = 0 := by
  rw [List.take_succ_eq_append_getElem h, badD_app _ _ h0, badD_one, h1]
theorem badD_dead (ls : List Dv) (k : Nat) (h : k < ls.length) (h0 : badD (ls.take k) = 0) (h1 : chkD ls[k] ≠ 0) : badD ls = chkD ls[k] := by
  have e : ls = ls.take k ++ ls[k] :: ls.drop (k + 1) := by rw [← List.drop_eq_getElem_cons h, List.take_append_drop]
  have e2 : badD (ls.take k ++ ls[k] :: ls.drop (k + 1)) = chkD ls[k] := by
    rw [badD_app _ _ h0]
    show (if chkD ls[k] = 0 then badD (ls.drop (k + 1)) else chkD ls[k]) = _
    rw [if_neg h1]
  rw [← e] at e2
  exact e2
theorem badD_all (ls : List Dv) (h : badD ls = 0) : ∀ x ∈ ls, chkD x = 0 := by
  induction ls with
  | nil => intro x hx; cases hx
  | cons a ls ih =>
    unfold badD at h
    split at h
    · rename_i ha
      intro x hx
      rcases List.mem_cons.1 hx with rfl | hx
      · exact ha
      · exact ih h x hx
    · rename_i ha; exact absurd h ha
theorem badD_of (ls : List Dv) (h : ∀ x ∈ ls, chkD x = 0) : badD ls = 0 := by
  induction ls with
  | nil => rfl
  | cons a ls ih =>
    show (if chkD a = 0 then badD ls else chkD a) = 0
    rw [if_pos (h a (List.mem_cons_self ..))]
    exact ih fun x hx => h x (List.mem_cons_of_mem _ hx)
theorem sepD_snoc (ds : List Dv) (d : Dv) : sepD (ds ++ [d]) = sepD ds ++ (if ds.isEmpty = true then [] else [44, 32]) ++ prD d := by
  cases ds with
  | nil => simp [sepD]
  | cons x ds => simp [sepD]
theorem sepD_take (ds : List Dv) (k : Nat) (h : k < ds.length) : sepD (ds.take (k + 1)) = sepD (ds.take k) ++ (if k = 0 then [] else [44, 32]) ++ prD ds[k] := by
  rw [List.take_succ_eq_append_getElem h, sepD_snoc]
  cases k with
  | zero => rfl
  | succ k =>
    have hne : (ds.take (k + 1)).isEmpty = false := by
      cases ds with
      | nil => simp at h
      | cons a ds => rfl
    rw [hne]; simp

/-- Reading. -/
def paD (t : List UInt8) : Option Dv :=
  if token (Lib.cut t [61]).1 = true then
    (if (Lib.cut t [61]).2.2 = true then (rv (Lib.cut t [61]).2.1).map (fun v => (lower (Lib.cut t [61]).1, true, v)) else some (lower (Lib.cut t [61]).1, false, []))
  else none
def pdstep (acc : Option (List Dv)) (p : List UInt8) : Option (List Dv) :=
  match acc with
  | none => none
  | some ds => match paD p with | some x => some (ds ++ [x]) | none => none
def paDs (P : List (List UInt8)) : Option (List Dv) := P.foldl pdstep (some [])
/-- What Parse answers. -/
def ctQ (s : List UInt8) : List Dv × Int := if (splitS s).2 = 0 then (match paDs (splitS s).1 with | none => ([], 3) | some ds => (ds, 0)) else ([], (splitS s).2)
theorem paDs_snoc (P : List (List UInt8)) (p : List UInt8) : paDs (P ++ [p]) = pdstep (paDs P) p := by simp [paDs]
theorem pdstep_none (P : List (List UInt8)) : P.foldl pdstep none = none := by
  induction P with
  | nil => rfl
  | cons a P ih => rw [List.foldl_cons]; exact ih
theorem paDs_take (P : List (List UInt8)) (k : Nat) (h : k < P.length) (ds : List Dv) (h0 : paDs (P.take k) = some ds) (x : Dv) (h1 : paD P[k] = some x) : paDs (P.take (k + 1)) = some (ds ++ [x]) := by
  rw [List.take_succ_eq_append_getElem h, paDs_snoc, h0]
  simp [pdstep, h1]
theorem paDs_dead (P : List (List UInt8)) (k : Nat) (h : k < P.length) (h1 : paD P[k] = none) : paDs P = none := by
  have e : P = P.take k ++ P[k] :: P.drop (k + 1) := by rw [← List.drop_eq_getElem_cons h, List.take_append_drop]
  rw [e]
  unfold paDs
  rw [List.foldl_append, List.foldl_cons]
  have : ∀ acc : Option (List Dv), pdstep acc P[k] = none := by
    intro acc
    cases acc with
    | none => rfl
    | some a => simp [pdstep, h1]
  rw [this, pdstep_none]
theorem paDs_all (P : List (List UInt8)) : ∀ ds, paDs P = some ds → ds.length = P.length ∧ ∀ x ∈ ds, ∃ p ∈ P, paD p = some x := by
  have gen : ∀ (P : List (List UInt8)) (a ds : List Dv), P.foldl pdstep (some a) = some ds → ∃ r, ds = a ++ r ∧ r.length = P.length ∧ ∀ x ∈ r, ∃ p ∈ P, paD p = some x := by
    intro P
    induction P with
    | nil => intro a ds h; simp at h; exact ⟨[], by simp [h], rfl, fun x hx => by cases hx⟩
    | cons p P ih =>
      intro a ds h
      rw [List.foldl_cons] at h
      cases hp : paD p with
      | none =>
        have : pdstep (some a) p = none := by simp [pdstep, hp]
        rw [this, pdstep_none] at h; cases h
      | some x =>
        have : pdstep (some a) p = some (a ++ [x]) := by simp [pdstep, hp]
        rw [this] at h
        obtain ⟨r, hr, hl, hall⟩ := ih _ _ h
        refine ⟨x :: r, by rw [hr]; simp, by simp [hl], ?_⟩
        intro y hy
        rcases List.mem_cons.1 hy with rfl | hy
        · exact ⟨p, List.mem_cons_self .., hp⟩
        · obtain ⟨q, hq, hq2⟩ := hall y hy
          exact ⟨q, List.mem_cons_of_mem _ hq, hq2⟩
  intro ds h
  obtain ⟨r, hr, hl, hall⟩ := gen P [] ds h
  simp only [List.nil_append] at hr
  subst hr
  exact ⟨hl, hall⟩
theorem paDs_of (ds : List Dv) (h : ∀ x ∈ ds, paD (prD x) = some x) : paDs (ds.map prD) = some ds := by
  have gen : ∀ (ds a : List Dv), (∀ x ∈ ds, paD (prD x) = some x) → (ds.map prD).foldl pdstep (some a) = some (a ++ ds) := by
    intro ds
    induction ds with
    | nil => intro a _; simp
    | cons x ds ih =>
      intro a h
      rw [List.map_cons, List.foldl_cons]
      have : pdstep (some a) (prD x) = some (a ++ [x]) := by simp [pdstep, h x (by simp)]
      rw [this, ih _ (fun y hy => h y (by simp [hy]))]; simp
  exact gen ds [] h

/-- What was checked can be printed. -/
theorem lowtok (l : List UInt8) : token (lower l) = token l := by
  unfold token lower
  have h1 : ∀ c : UInt8, isTok (low c) = isTok c := fun c => by
    have := byAll (fun c => isTok (low c) == isTok c) (by decide +kernel) c
    exact eq_of_beq this
  rw [List.all_map]
  have : (isTok ∘ low) = isTok := funext h1
  rw [this]
  cases l <;> rfl
theorem chkD_is (d : Dv) (h : chkD d = 0) : token d.1 = true ∧ lower d.1 = d.1 ∧ (d.2.1 = true → PrOk ⟨d.1, d.2.2, (prArg d.2.2).1⟩) ∧ (d.2.1 = false → d.2.2 = []) := by
  unfold chkD at h
  split at h
  · rename_i ho
    unfold okNm at ho
    rw [Bool.and_eq_true] at ho
    refine ⟨ho.1, eq_of_beq ho.2, fun ha => ?_, fun ha => ?_⟩
    · rw [if_pos ha] at h
      refine ⟨ho.1, ?_⟩
      unfold prArg at h ⊢
      split at h
      · rename_i ht
        rw [if_pos ht]
        exact .inl ⟨rfl, ht⟩
      · rename_i ht
        rw [if_neg ht]
        right
        unfold qt at h ⊢
        split at h
        · cases h
        · rename_i hl
          split at h
          · rename_i hp
            rw [if_neg hl, if_pos hp]
            exact ⟨rfl, hp, hl⟩
          · cases h
    · rw [ha] at h
      simp only [Bool.false_eq_true, if_false] at h
      split at h
      · rename_i he; exact List.isEmpty_iff.1 he
      · cases h
  · cases h
theorem prD_closed (d : Dv) (h : chkD d = 0) : closed 44 (prD d) := by
  obtain ⟨h1, _, h3, _⟩ := chkD_is d h
  have hn := tok_run 44 (.inl rfl) _ (token_parts _ h1).2
  unfold prD
  by_cases hb : d.2.1 = true
  · rw [if_pos hb]
    have hq : closed 44 (prArg d.2.2).1 := by
      rcases (h3 hb).2 with ⟨e, ht⟩ | ⟨e, _, _⟩
      · simp only at e; rw [e]; exact tok_run 44 (.inl rfl) _ (token_parts _ ht).2
      · simp only at e; rw [e]; exact closed_quoted 44 (by decide) _
    unfold closed at *
    rw [run_app, hn, Option.bind_some, run_cons, if_neg (by simp)]
    exact hq
  · rw [if_neg hb, List.append_nil]; exact hn
theorem prD_ne (d : Dv) (h : chkD d = 0) : ∃ b r, prD d = b :: r ∧ blank b = false := by
  obtain ⟨h1, _, _, _⟩ := chkD_is d h
  obtain ⟨h1, h2⟩ := token_parts _ h1
  rw [List.all_eq_true] at h2
  unfold prD
  cases hn : d.1 with
  | nil => rw [hn] at h1; simp at h1
  | cons c r => exact ⟨c, _, rfl, (tok_ne _ (h2 c (by rw [hn]; simp))).2.2.2.2.2⟩
theorem prD_trim (d : Dv) (h : chkD d = 0) : trimL (prD d) = prD d := by
  obtain ⟨h1, _, h3, _⟩ := chkD_is d h
  apply trimL_stays
  · intro b hb
    obtain ⟨c, r, e, hc⟩ := prD_ne d h
    rw [e] at hb
    simp at hb; subst hb; exact hc
  · intro b hb
    unfold prD at hb
    by_cases ha : d.2.1 = true
    · rw [if_pos ha] at hb
      obtain ⟨c, hc, hbl⟩ := q_last _ (h3 ha)
      simp only at hc
      rw [List.getLast?_append, List.getLast?_cons, hc] at hb
      simp at hb; subst hb; exact hbl
    · rw [if_neg ha, List.append_nil] at hb
      obtain ⟨_, h2⟩ := token_parts _ h1
      rw [List.all_eq_true] at h2
      exact (tok_ne _ (h2 b (List.mem_of_getLast? hb))).2.2.2.2.2
theorem cut_nm (n : List UInt8) (h : n.all isTok = true) : Lib.cut n [61] = (n, [], false) := by
  apply cut_one_no
  induction n with
  | nil => rfl
  | cons c n ih =>
    rw [List.all_cons, Bool.and_eq_true] at h
    have h1 := (tok_ne c h.1).2.2.2.2.1
    rw [Lib.indexByte, beq_eq_false_iff_ne.2 h1, ih h.2]
    simp
theorem paD_back (d : Dv) (h : chkD d = 0) : paD (prD d) = some d := by
  obtain ⟨h1, h2, h3, h4⟩ := chkD_is d h
  obtain ⟨n, a, v⟩ := d
  simp only at h1 h2 h3 h4
  cases a
  · have hv := h4 rfl
    subst hv
    have e : prD (n, false, []) = n := by simp [prD]
    have hc := cut_nm n (token_parts _ h1).2
    rw [e]
    unfold paD
    rw [hc]
    simp [h1, h2]
  · have e : prD (n, true, v) = n ++ 61 :: (prArg v).1 := by simp [prD]
    have hr := rv_text _ (h3 rfl)
    simp only at hr
    have hc := cut_seg n (prArg v).1 (token_parts _ h1).2
    rw [e]
    unfold paD
    rw [hc]
    simp [h1, h2, hr]

/-- What is printed is split into what was printed of each. -/
theorem sepD_join (d : Dv) (ds : List Dv) : sepD (d :: ds) = Lib.join (prD d :: ds.map (fun x => 32 :: prD x)) [44] := by
  rw [Lib.join_cons]
  unfold sepD Lib.joinTail
  rw [List.map_map]
  congr 1
theorem split_sepD (ds : List Dv) (h : ∀ x ∈ ds, chkD x = 0) (hl : (sepD ds).length ≤ 1000) (h20 : ds.length ≤ 20) : splitS (sepD ds) = (ds.map prD, 0) := by
  cases ds with
  | nil => rfl
  | cons d ds =>
    have hcl : ∀ r ∈ prD d :: ds.map (fun x => 32 :: prD x), closed 44 r := by
      intro r hr
      rcases List.mem_cons.1 hr with rfl | hr
      · exact prD_closed d (h d (by simp))
      · obtain ⟨x, hx, rfl⟩ := List.mem_map.1 hr
        have := prD_closed x (h x (by simp [hx]))
        unfold closed at this ⊢
        rw [run_cons, if_neg (by simp)]
        exact this
    obtain ⟨e1, e2⟩ := pieces_join 44 (prD d) (ds.map (fun x => 32 :: prD x)) hcl
    rw [← sepD_join] at e1 e2
    have hk : kept (pieces 44 (sepD (d :: ds))) = (d :: ds).map prD := by
      rw [e1]
      unfold kept
      have hm : (prD d :: ds.map (fun x => 32 :: prD x)).map trimL = (d :: ds).map prD := by
        rw [List.map_cons, List.map_cons, prD_trim d (h d (by simp)), List.map_map]
        congr 1
        apply List.map_congr_left
        intro x hx
        show trimL (32 :: prD x) = prD x
        rw [trimL_first _ 32 rfl, prD_trim x (h x (by simp [hx]))]
      rw [hm, List.filter_eq_self]
      intro r hr
      obtain ⟨x, hx, rfl⟩ := List.mem_map.1 hr
      obtain ⟨b, q, e, _⟩ := prD_ne x (h x hx)
      rw [e]; rfl
    unfold splitS
    rw [if_neg (by omega), if_neg (by rw [e2]; simp), hk, if_neg (by simp at h20 ⊢; omega)]
/-- What was printed is read as it was. -/
theorem ct_back (ds : List Dv) (s : List UInt8) (h : ctP ds = (s, 0)) : ctQ s = (ds, 0) := by
  unfold ctP at h
  split at h
  · rename_i hb
    split at h
    · cases h
    · rename_i hl
      simp only [Prod.mk.injEq, and_true] at h
      subst h
      have hall := badD_all ds hb
      have hs := split_sepD ds hall (by omega) (by omega)
      unfold ctQ
      rw [hs]
      simp only [if_true]
      rw [paDs_of ds (fun x hx => paD_back x (hall x hx))]
  · rename_i hb
    simp only [Prod.mk.injEq] at h
    exact absurd h.2 hb
theorem ctP_code (ds : List Dv) (s : List UInt8) (c : Int) (h : ctP ds = (s, c)) (hc : c ≠ 0) : s = [] := by
  unfold ctP at h
  split at h
  · split at h
    · simp only [Prod.mk.injEq] at h; exact h.1.symm
    · simp only [Prod.mk.injEq] at h; exact absurd h.2.symm hc
  · simp only [Prod.mk.injEq] at h; exact h.1.symm
theorem ctP_len (ds : List Dv) (s : List UInt8) (c : Int) (h : ctP ds = (s, c)) : s.length ≤ 1000 := by
  unfold ctP at h
  split at h
  · split at h
    · simp only [Prod.mk.injEq] at h; rw [← h.1]; simp
    · rename_i hl
      simp only [Prod.mk.injEq] at h; rw [← h.1]; omega
  · simp only [Prod.mk.injEq] at h; rw [← h.1]; simp
/-- What was read passes. -/
theorem paD_ok (p : List UInt8) (x : Dv) (h : paD p = some x) : chkD x = 0 := by
  unfold paD at h
  split at h
  · rename_i ht
    have hn : okNm (lower (Lib.cut p [61]).1) = true := by
      unfold okNm
      rw [lowtok, ht, lower_lower]; simp
    split at h
    · cases hr : rv (Lib.cut p [61]).2.1 with
      | none => rw [hr] at h; cases h
      | some v =>
        rw [hr] at h
        simp only [Option.map_some, Option.some.injEq] at h
        subst h
        unfold chkD
        simp only
        rw [if_pos hn]
        simp only [if_true]
        unfold rv at hr
        split at hr
        · rename_i hv
          simp only [Option.some.injEq] at hr
          subst hr
          unfold prArg; rw [if_pos hv]
        · split at hr
          · rename_i hu
            simp only [Option.some.injEq] at hr
            obtain ⟨z1, z2, _⟩ := unq_zero _ v (show unq (Lib.cut p [61]).2.1 = (v, 0) from by rw [← hr, ← hu])
            unfold prArg
            split
            · rfl
            · unfold qt; rw [if_neg z2, if_pos z1]
          · cases hr
    · simp only [Option.some.injEq] at h
      subst h
      unfold chkD
      simp only
      rw [if_pos hn]
      rfl
  · cases h
theorem ctQ_bad (s : List UInt8) (ds : List Dv) (c : Int) (h : ctQ s = (ds, c)) (hc : c ≠ 0) : ds = [] := by
  unfold ctQ at h
  split at h
  · split at h
    · simp only [Prod.mk.injEq] at h; exact h.1.symm
    · simp only [Prod.mk.injEq] at h; exact absurd h.2.symm hc
  · simp only [Prod.mk.injEq] at h; exact h.1.symm
theorem tot_mem (ps : List (List UInt8)) (p : List UInt8) (h : p ∈ ps) : p.length + 1 ≤ tot ps := by
  induction ps with
  | nil => cases h
  | cons a ps ih =>
    have e : tot (a :: ps) = a.length + 1 + tot ps := by simp [tot]
    rcases List.mem_cons.1 h with rfl | h
    · omega
    · have := ih h; omega
theorem split_mem (l p : List UInt8) (h : p ∈ (splitS l).1) : p.length ≤ 1000 := by
  unfold splitS at h
  split at h
  · cases h
  · rename_i hl
    split at h
    · cases h
    · split at h
      · cases h
      · have h1 : p.length + 1 ≤ tot (kept (pieces 44 l)) := tot_mem _ p h
        have h2 := tot_filter (fun p => !p.isEmpty) ((pieces 44 l).map trimL)
        have h3 := tot_trim (pieces 44 l)
        have h4 := pieces_tot 44 l
        unfold kept at h1
        omega
theorem split_len (s : List UInt8) : (splitS s).1.length ≤ 20 := by
  unfold splitS
  split
  · simp
  · split
    · simp
    · split
      · simp
      · show (kept (pieces 44 s)).length ≤ 20; omega
theorem ctQ_len (s : List UInt8) : (ctQ s).1.length ≤ 20 := by
  unfold ctQ
  split
  · have h1 := split_len s
    split
    · simp
    · rename_i ds h
      have := (paDs_all _ _ h).1
      simp only; omega
  · simp
theorem paD_len (p : List UInt8) (x : Dv) (h : paD p = some x) (hp : p.length ≤ 1000) : x.1.length ≤ 1000 ∧ x.2.2.length ≤ 1000 := by
  have hl : (Lib.cut p [61]).1.length ≤ p.length ∧ (Lib.cut p [61]).2.1.length ≤ p.length := by
    unfold Lib.cut
    split
    · simp; omega
    · simp
  have hlow : (lower (Lib.cut p [61]).1).length ≤ 1000 := by unfold lower; rw [List.length_map]; omega
  unfold paD at h
  split at h
  · split at h
    · cases hr : rv (Lib.cut p [61]).2.1 with
      | none => rw [hr] at h; cases h
      | some v =>
        rw [hr] at h
        simp only [Option.map_some, Option.some.injEq] at h
        subst h
        refine ⟨hlow, ?_⟩
        simp only
        unfold rv at hr
        split at hr
        · simp only [Option.some.injEq] at hr
          subst hr; omega
        · split at hr
          · rename_i hu
            simp only [Option.some.injEq] at hr
            obtain ⟨_, z2, _⟩ := unq_zero _ v (show unq (Lib.cut p [61]).2.1 = (v, 0) from by rw [← hr, ← hu])
            omega
          · cases hr
    · simp only [Option.some.injEq] at h
      subst h
      exact ⟨hlow, by simp⟩
  · cases h
theorem ctQ_mem (s : List UInt8) : ∀ x ∈ (ctQ s).1, x.1.length ≤ 1000 ∧ x.2.2.length ≤ 1000 := by
  unfold ctQ
  split
  · split
    · intro x hx; cases hx
    · rename_i ds h
      intro x hx
      obtain ⟨p, hp, hpx⟩ := (paDs_all _ _ h).2 x hx
      exact paD_len p x hpx (split_mem s p hp)
  · intro x hx; cases hx
/-- What was read is printed, or is too long. -/
theorem ct_again (s : List UInt8) (ds : List Dv) (h : ctQ s = (ds, 0)) : ctP ds = ([], 2) ∨ ctP ds = (sepD ds, 0) := by
  have hb : badD ds = 0 := by
    unfold ctQ at h
    split at h
    · split at h
      · cases h
      · rename_i r hr
        simp only [Prod.mk.injEq, and_true] at h
        subst h
        apply badD_of
        intro x hx
        obtain ⟨p, _, hp⟩ := (paDs_all _ _ hr).2 x hx
        exact paD_ok p x hp
    · rename_i hc
      simp only [Prod.mk.injEq] at h
      exact absurd h.2 hc
  unfold ctP
  rw [if_pos hb]
  split
  · exact .inl rfl
  · exact .inr rfl
end Go.Proofs.YtigbjhkkbgdkcacGreatDoor

/-
  The calendar in plain numbers: leap years, months, how many days are ahead of a year and of a month; days and their numbers, one for one. No program is named here.
-/
namespace Go.Proofs.YtigbjhkkbgdkcacGreatDoor
open Go.RowKit

def lp (y : Int) : Int := if y % 4 = 0 ∧ (y % 100 ≠ 0 ∨ y % 400 = 0) then 1 else 0
def lpB (y : Int) : Bool := lp y == 1
def dim (y m : Int) : Int := if m = 2 then 28 + lp y else if m = 4 ∨ m = 6 ∨ m = 9 ∨ m = 11 then 30 else 31
def dby (y : Int) : Int := (y - 1970) * 365 + ((y - 1) / 4 - (y - 1) / 100 + (y - 1) / 400) - 477
def cum (y m : Int) : Int :=
  if m ≤ 1 then 0 else if m = 2 then 31 else if m = 3 then 59 + lp y else if m = 4 then 90 + lp y else if m = 5 then 120 + lp y
  else if m = 6 then 151 + lp y else if m = 7 then 181 + lp y else if m = 8 then 212 + lp y else if m = 9 then 243 + lp y
  else if m = 10 then 273 + lp y else if m = 11 then 304 + lp y else if m = 12 then 334 + lp y else 365 + lp y
def num (y m d : Int) : Int := dby y + cum y m + d - 1
def vldB (y m d : Int) : Bool := decide (1970 ≤ y ∧ y ≤ 9999 ∧ 1 ≤ m ∧ m ≤ 12 ∧ 1 ≤ d ∧ d ≤ dim y m)

theorem vld_iff {y m d : Int} : vldB y m d = true ↔ 1970 ≤ y ∧ y ≤ 9999 ∧ 1 ≤ m ∧ m ≤ 12 ∧ 1 ≤ d ∧ d ≤ dim y m := by unfold vldB; simp
theorem vld_mk {y m d : Int} (h : 1970 ≤ y ∧ y ≤ 9999 ∧ 1 ≤ m ∧ m ≤ 12 ∧ 1 ≤ d ∧ d ≤ dim y m) : vldB y m d = true := vld_iff.2 h
theorem vld_no {y m d : Int} (h : ¬ (1970 ≤ y ∧ y ≤ 9999 ∧ 1 ≤ m ∧ m ≤ 12 ∧ 1 ≤ d ∧ d ≤ dim y m)) : vldB y m d = false := by unfold vldB; simpa using h

theorem lp_01 (y : Int) : 0 ≤ lp y ∧ lp y ≤ 1 := by unfold lp; split <;> omega
theorem lp_or (y : Int) : lp y = 0 ∨ lp y = 1 := by unfold lp; split <;> simp
theorem dim_lo (y m : Int) : 28 ≤ dim y m ∧ dim y m ≤ 31 := by
  have := lp_01 y
  unfold dim; split <;> (try split) <;> omega
theorem dby_succ (y : Int) : dby (y + 1) = dby y + 365 + lp y := by
  unfold dby lp; split <;> omega
theorem dby_mono (a b : Int) (h : a ≤ b) : dby a ≤ dby b := by unfold dby; omega
theorem dby_bd (a : Int) (h0 : 1970 ≤ a) (h : a ≤ 10000) : 0 ≤ dby a ∧ dby a ≤ 2932897 := by unfold dby; omega
theorem dby_0 : dby 1970 = 0 := by decide
theorem dby_max : dby 10000 = 2932897 := by decide
theorem dby_guess (n : Int) (h : 0 ≤ n) : dby (1970 + n / 366) ≤ n := by unfold dby; omega
theorem dby_400 (y : Int) : dby (y + 400) = dby y + 146097 := by unfold dby; omega
theorem lp_400 (y : Int) : lp (y + 400) = lp y := by unfold lp; split <;> split <;> omega
theorem dim_400 (y m : Int) : dim (y + 400) m = dim y m := by unfold dim; rw [lp_400]
theorem cum_400 (y m : Int) : cum (y + 400) m = cum y m := by unfold cum; rw [lp_400]

theorem m12 {m : Int} (h1 : 1 ≤ m) (h2 : m ≤ 12) : m = 1 ∨ m = 2 ∨ m = 3 ∨ m = 4 ∨ m = 5 ∨ m = 6 ∨ m = 7 ∨ m = 8 ∨ m = 9 ∨ m = 10 ∨ m = 11 ∨ m = 12 := by omega

theorem cum_succ (y m : Int) (h1 : 1 ≤ m) (h2 : m ≤ 12) : cum y (m + 1) = cum y m + dim y m := by
  rcases m12 h1 h2 with rfl | rfl | rfl | rfl | rfl | rfl | rfl | rfl | rfl | rfl | rfl | rfl <;> simp [cum, dim] <;> omega
theorem cum_one (y : Int) : cum y 1 = 0 := by simp [cum]
theorem cum_13 (y : Int) : cum y 13 = 365 + lp y := by simp [cum]
theorem cum_bd (y m : Int) : 0 ≤ cum y m ∧ cum y m ≤ 366 := by
  have := lp_01 y
  unfold cum
  repeat (first | omega | split)
theorem cum_mono (y a b : Int) (h1 : 1 ≤ a) (h2 : a < b) (h3 : b ≤ 13) : cum y a + dim y a ≤ cum y b := by
  have := lp_01 y
  rcases m12 h1 (show a ≤ 12 by omega) with rfl | rfl | rfl | rfl | rfl | rfl | rfl | rfl | rfl | rfl | rfl | rfl
  all_goals
    rcases (show b = 2 ∨ b = 3 ∨ b = 4 ∨ b = 5 ∨ b = 6 ∨ b = 7 ∨ b = 8 ∨ b = 9 ∨ b = 10 ∨ b = 11 ∨ b = 12 ∨ b = 13 by omega) with rfl | rfl | rfl | rfl | rfl | rfl | rfl | rfl | rfl | rfl | rfl | rfl
    all_goals first | omega | (simp [cum, dim] <;> omega)

theorem num_lo {y m d : Int} (h : vldB y m d = true) : dby y ≤ num y m d ∧ num y m d < dby (y + 1) := by
  obtain ⟨a, b, c, e, f, g⟩ := vld_iff.1 h
  have h1 := cum_bd y m
  have h2 := cum_succ y m c e
  have h3 : cum y (m + 1) ≤ cum y 13 := by
    by_cases hm : m = 12
    · subst hm; exact Int.le_refl _
    · have := cum_mono y (m + 1) 13 (by omega) (by omega) (by omega)
      have := dim_lo y (m + 1); omega
  have h4 := dby_succ y
  rw [cum_13] at h3
  unfold num; omega
theorem num_bd {y m d : Int} (h : vldB y m d = true) : 0 ≤ num y m d ∧ num y m d ≤ 2932896 := by
  obtain ⟨a, b, _⟩ := vld_iff.1 h
  have h1 := num_lo h
  have h2 := dby_bd y a (by omega)
  have h3 := dby_mono (y + 1) 10000 (by omega)
  rw [dby_max] at h3; omega

theorem num_lt {y m d z k c : Int} (h : vldB y m d = true) (h' : vldB z k c = true) (hl : y < z ∨ y = z ∧ (m < k ∨ m = k ∧ d < c)) : num y m d < num z k c := by
  rcases hl with hl | ⟨rfl, hl | ⟨rfl, hl⟩⟩
  · have := num_lo h
    have := num_lo h'
    have := dby_mono (y + 1) z (by omega)
    omega
  · obtain ⟨a, b, c, e, f, g⟩ := vld_iff.1 h
    obtain ⟨a', b', c', e', f', g'⟩ := vld_iff.1 h'
    have := cum_mono y m k c hl (by omega)
    unfold num; omega
  · unfold num; omega
theorem num_order {y m d z k c : Int} (h : vldB y m d = true) (h' : vldB z k c = true) : num y m d < num z k c ↔ y < z ∨ y = z ∧ (m < k ∨ m = k ∧ d < c) := by
  refine ⟨fun hl => ?_, num_lt h h'⟩
  by_cases g : y < z ∨ y = z ∧ (m < k ∨ m = k ∧ d < c)
  · exact g
  · rcases (show z < y ∨ z = y ∧ (k < m ∨ k = m ∧ c < d) ∨ (y = z ∧ m = k ∧ d = c) by omega) with g' | g' | ⟨rfl, rfl, rfl⟩
    · have := num_lt h' h (.inl g'); omega
    · have := num_lt h' h (.inr g'); omega
    · omega
theorem num_inj {y m d z k c : Int} (h : vldB y m d = true) (h' : vldB z k c = true) (e : num y m d = num z k c) : y = z ∧ m = k ∧ d = c := by
  have a := (num_order h h').2
  have b := (num_order h' h).2
  rcases (show (y < z ∨ y = z ∧ (m < k ∨ m = k ∧ d < c)) ∨ (z < y ∨ z = y ∧ (k < m ∨ k = m ∧ c < d)) ∨ (y = z ∧ m = k ∧ d = c) by omega) with g | g | g
  · have := a g; omega
  · have := b g; omega
  · exact g
theorem num_400 (y m d : Int) : num (y + 400) m d = num y m d + 146097 := by
  unfold num; rw [dby_400, cum_400]; omega
theorem vld_400 (y m d : Int) (h : vldB y m d = true) (h' : y ≤ 9599) : vldB (y + 400) m d = true := by
  have := vld_iff.1 h
  refine vld_mk ?_
  rw [dim_400]; omega
theorem vld_400' (y m d : Int) (h : vldB (y + 400) m d = true) (h' : 1970 ≤ y) : vldB y m d = true := by
  have := vld_iff.1 h
  rw [dim_400] at this
  exact vld_mk (by omega)

theorem num_of (n y k : Int) : num y k (n - dby y - cum y k + 1) = n := by unfold num; omega
theorem vld_of (n y k : Int) (a : 1970 ≤ y) (b : y ≤ 9999) (c : 1 ≤ k) (d : k ≤ 12) (e : 0 ≤ n - dby y - cum y k) (f : n - dby y - cum y k < dim y k) : vldB y k (n - dby y - cum y k + 1) = true :=
  vld_mk (by omega)

/-- the day behind a day -/
theorem num_next {y m d z k c : Int} (h : vldB y m d = true) (h' : vldB z k c = true) (e : num z k c = num y m d + 1) :
    (z = y ∧ k = m ∧ c = d + 1 ∧ c ≤ 31) ∨ (z = y ∧ k = m + 1 ∧ c = 1 ∧ 28 ≤ d ∧ d ≤ 31) ∨ (z = y + 1 ∧ m = 12 ∧ k = 1 ∧ c = 1 ∧ 28 ≤ d ∧ d ≤ 31) := by
  obtain ⟨a1, a2, a3, a4, a5, a6⟩ := vld_iff.1 h
  have hd := dim_lo y m
  have b := vld_iff.1 h'
  by_cases h1 : d < dim y m
  · have hv : vldB y m (d + 1) = true := vld_mk (by omega)
    have := num_inj h' hv (by rw [e]; unfold num; omega)
    left; omega
  · by_cases h2 : m = 12
    · subst h2
      have hy : y < 9999 := by
        by_cases hy : y < 9999
        · exact hy
        · have hb := num_bd h'
          obtain rfl : y = 9999 := by omega
          rw [e] at hb
          have h3 : dim 9999 12 = 31 := by decide
          obtain rfl : d = 31 := by omega
          have h4 : num 9999 12 31 = 2932896 := by decide
          rw [h4] at hb; omega
      have hdd := dim_lo (y + 1) 1
      have hv : vldB (y + 1) 1 1 = true := vld_mk (by omega)
      have h4 := dby_succ y
      have h5 : cum y 12 = 334 + lp y := by simp [cum]
      have h6 : dim y 12 = 31 := by simp [dim]
      have := num_inj h' hv (by rw [e]; unfold num; rw [cum_one]; omega)
      right; right; omega
    · have hdd := dim_lo y (m + 1)
      have hv : vldB y (m + 1) 1 = true := vld_mk (by omega)
      have hc := cum_succ y m a3 a4
      have := num_inj h' hv (by rw [e]; unfold num; omega)
      right; left; omega
end Go.Proofs.YtigbjhkkbgdkcacGreatDoor

/-
  Dates as lists of bytes: the names of days and months, numbers in two and in four digits, the text of a second; no program is named here.
-/
namespace Go.Proofs.YtigbjhkkbgdkcacGreatDoor
open Go.RowKit

def weekL : List (List UInt8) := [[84, 104, 117], [70, 114, 105], [83, 97, 116], [83, 117, 110], [77, 111, 110], [84, 117, 101], [87, 101, 100]]
def monthL : List (List UInt8) := [[74, 97, 110], [70, 101, 98], [77, 97, 114], [65, 112, 114], [77, 97, 121], [74, 117, 110], [74, 117, 108], [65, 117, 103], [83, 101, 112], [79, 99, 116], [78, 111, 118], [68, 101, 99]]
def weekS (k : Nat) : List UInt8 := weekL.getD k []
def monthS (k : Nat) : List UInt8 := monthL.getD k []
def dg (u : Nat) : UInt8 := UInt8.ofNat (48 + u)
def dig2 (u : Nat) : List UInt8 := [dg (u / 10), dg (u % 10)]
def dig4 (u : Nat) : List UInt8 := [dg (u / 1000), dg (u / 100 % 10), dg (u / 10 % 10), dg (u % 10)]

/-- the text of second n, on the day (y, m, d) -/
def dtext (n y m d : Int) : List UInt8 :=
  weekS (n / 86400 % 7).toNat ++ [44, 32] ++ dig2 d.toNat ++ [32] ++ monthS (m - 1).toNat ++ [32] ++ dig4 y.toNat ++ [32]
    ++ dig2 (n % 86400 / 3600).toNat ++ [58] ++ dig2 (n % 3600 / 60).toNat ++ [58] ++ dig2 (n % 60).toNat ++ [32, 71, 77, 84]

theorem week_len (k : Nat) (h : k < 7) : (weekS k).length = 3 := by
  rcases (show k = 0 ∨ k = 1 ∨ k = 2 ∨ k = 3 ∨ k = 4 ∨ k = 5 ∨ k = 6 by omega) with rfl | rfl | rfl | rfl | rfl | rfl | rfl <;> rfl
theorem month_len (k : Nat) (h : k < 12) : (monthS k).length = 3 := by
  rcases (show k = 0 ∨ k = 1 ∨ k = 2 ∨ k = 3 ∨ k = 4 ∨ k = 5 ∨ k = 6 ∨ k = 7 ∨ k = 8 ∨ k = 9 ∨ k = 10 ∨ k = 11 by omega) with rfl | rfl | rfl | rfl | rfl | rfl | rfl | rfl | rfl | rfl | rfl | rfl <;> rfl
theorem dig2_len (u : Nat) : (dig2 u).length = 2 := rfl
theorem dig4_len (u : Nat) : (dig4 u).length = 4 := rfl

theorem dec_1 (u : Nat) (h : u < 10) : [48] ++ Lib.decDigits u = dig2 u := by
  rw [Lib.decDigits_one h]
  unfold dig2
  rw [show u / 10 = 0 by omega, show u % 10 = u by omega]; rfl
theorem dec_2 (u : Nat) (h1 : ¬ u < 10) (h2 : u < 100) : Lib.decDigits u = dig2 u := Lib.decDigits_two h1 h2
theorem dec_4 (u : Nat) (h1 : 1000 ≤ u) (h2 : u ≤ 9999) : Lib.decDigits u = dig4 u := by
  rw [Lib.decDigits, dif_neg (by omega), Lib.decDigits, dif_neg (by omega), Lib.decDigits_two (by omega) (by omega)]
  unfold dig4
  rw [show u / 10 / 10 / 10 = u / 1000 by omega, show u / 10 / 10 % 10 = u / 100 % 10 by omega]
  rfl

theorem dtext_len (n y m d : Int) (h1 : 1 ≤ m) (h2 : m ≤ 12) : (dtext n y m d).length = 29 := by
  unfold dtext
  simp only [List.length_append, dig2_len, dig4_len, week_len (n / 86400 % 7).toNat (by omega), month_len (m - 1).toNat (by omega), List.length_cons, List.length_nil]
end Go.Proofs.YtigbjhkkbgdkcacGreatDoor

/-
  How a date's text is read in plain lists: numbers of digits, months by their names, the places where they stand; only one second has a given text. No program is named here.
-/
namespace Go.Proofs.YtigbjhkkbgdkcacGreatDoor
open Go.RowKit

def sl (l : List UInt8) (i j : Nat) : List UInt8 := (l.drop i).take (j - i)
def numb (l : List UInt8) : Int := l.foldl (fun n c => n * 10 + (c.toNat : Int) - 48) 0
def mnumAt (x : List UInt8) (k : Nat) : Int := if k < 12 then if monthS k = x then (k : Int) + 1 else mnumAt x (k + 1) else 0
termination_by 12 - k
def mnum (x : List UInt8) : Int := mnumAt x 0

/-- l is the text of second n -/
def IsDT (l : List UInt8) (n : Int) : Prop := 0 ≤ n ∧ n ≤ 253402300799 ∧ ∃ y m d : Int, vldB y m d = true ∧ num y m d = n / 86400 ∧ l = dtext n y m d

def gY (l : List UInt8) : Int := numb (sl l 12 16)
def gM (l : List UInt8) : Int := mnum (sl l 8 11)
def gD (l : List UInt8) : Int := numb (sl l 5 7)
def gS (l : List UInt8) : Int := numb (sl l 17 19) * 3600 + numb (sl l 20 22) * 60 + numb (sl l 23 25)
def gss (l : List UInt8) : Int := num (gY l) (gM l) (gD l) * 86400 + gS l

theorem numb_snoc (l : List UInt8) (c : UInt8) : numb (l ++ [c]) = numb l * 10 + (c.toNat : Int) - 48 := by unfold numb; rw [List.foldl_append]; rfl

theorem dg_nat (u : Nat) (h : u < 10) : (dg u).toNat = 48 + u := by
  unfold dg
  rw [UInt8.toNat_ofNat', Nat.mod_eq_of_lt (by omega)]
theorem numb_2 (u : Nat) (h : u < 100) : numb (dig2 u) = u := by
  show (0 * 10 + ((dg (u / 10)).toNat : Int) - 48) * 10 + ((dg (u % 10)).toNat : Int) - 48 = u
  rw [dg_nat _ (by omega), dg_nat _ (by omega)]; omega
theorem numb_4 (u : Nat) (h : u < 10000) : numb (dig4 u) = u := by
  show (((0 * 10 + ((dg (u / 1000)).toNat : Int) - 48) * 10 + ((dg (u / 100 % 10)).toNat : Int) - 48) * 10 + ((dg (u / 10 % 10)).toNat : Int) - 48) * 10 + ((dg (u % 10)).toNat : Int) - 48 = u
  rw [dg_nat _ (by omega), dg_nat _ (by omega), dg_nat _ (by omega), dg_nat _ (by omega)]; omega
theorem mnum_month (k : Nat) (h : k < 12) : mnum (monthS k) = (k : Int) + 1 := by
  rcases (show k = 0 ∨ k = 1 ∨ k = 2 ∨ k = 3 ∨ k = 4 ∨ k = 5 ∨ k = 6 ∨ k = 7 ∨ k = 8 ∨ k = 9 ∨ k = 10 ∨ k = 11 by omega) with rfl | rfl | rfl | rfl | rfl | rfl | rfl | rfl | rfl | rfl | rfl | rfl <;> decide +kernel
theorem mnum_hit (x : List UInt8) (k : Nat) (h : k < 12) (e : monthS k = x) : mnumAt x k = (k : Int) + 1 := by rw [mnumAt, if_pos h, if_pos e]
theorem mnum_miss (x : List UInt8) (k : Nat) (h : k < 12) (e : monthS k ≠ x) : mnumAt x k = mnumAt x (k + 1) := by rw [mnumAt, if_pos h, if_neg e]
theorem mnum_end (x : List UInt8) : mnumAt x 12 = 0 := by rw [mnumAt, if_neg (by omega)]
theorem mnumAt_bd (x : List UInt8) (j : Nat) : ∀ k : Nat, 12 - k ≤ j → 0 ≤ mnumAt x k ∧ mnumAt x k ≤ 12 := by
  induction j with
  | zero => intro k hk; rw [mnumAt, if_neg (by omega)]; omega
  | succ j ih =>
    intro k hk
    rw [mnumAt]
    split
    · split
      · omega
      · exact ih (k + 1) (by omega)
    · omega
theorem mnum_bd (x : List UInt8) : 0 ≤ mnum x ∧ mnum x ≤ 12 := mnumAt_bd x 12 0 (Nat.le_refl _)

theorem three {l : List UInt8} (h : l.length = 3) : ∃ a b c, l = [a, b, c] := by
  match l, h with
  | [a, b, c], _ => exact ⟨a, b, c, rfl⟩

/-- where the parts of a date's text stand -/
theorem dtext_parts (n y m d : Int) (h1 : 1 ≤ m) (h2 : m ≤ 12) :
    sl (dtext n y m d) 5 7 = dig2 d.toNat ∧ sl (dtext n y m d) 8 11 = monthS (m - 1).toNat ∧ sl (dtext n y m d) 12 16 = dig4 y.toNat ∧ sl (dtext n y m d) 17 19 = dig2 (n % 86400 / 3600).toNat
      ∧ sl (dtext n y m d) 20 22 = dig2 (n % 3600 / 60).toNat ∧ sl (dtext n y m d) 23 25 = dig2 (n % 60).toNat := by
  obtain ⟨a, b, c, e1⟩ := three (week_len (n / 86400 % 7).toNat (by omega))
  obtain ⟨p, q, r, e2⟩ := three (month_len (m - 1).toNat (by omega))
  unfold dtext
  rw [e1, e2]
  exact ⟨rfl, rfl, rfl, rfl, rfl, rfl⟩

theorem dt_len {l : List UInt8} {n : Int} (h : IsDT l n) : l.length = 29 := by
  obtain ⟨_, _, y, m, d, hv, _, rfl⟩ := h
  obtain ⟨_, _, a, b, _⟩ := vld_iff.1 hv
  exact dtext_len n y m d a b

theorem dt_gss {l : List UInt8} {n : Int} (h : IsDT l n) : vldB (gY l) (gM l) (gD l) = true ∧ gss l = n := by
  obtain ⟨h0, h1, y, m, d, hv, hn, rfl⟩ := h
  obtain ⟨a1, a2, a3, a4, a5, a6⟩ := vld_iff.1 hv
  have hd := dim_lo y m
  obtain ⟨p1, p2, p3, p4, p5, p6⟩ := dtext_parts n y m d a3 a4
  have e1 : gY (dtext n y m d) = y := by unfold gY; rw [p3, numb_4 _ (by omega)]; omega
  have e2 : gM (dtext n y m d) = m := by unfold gM; rw [p2, mnum_month _ (by omega)]; omega
  have e3 : gD (dtext n y m d) = d := by unfold gD; rw [p1, numb_2 _ (by omega)]; omega
  have e4 : gS (dtext n y m d) = n % 86400 := by unfold gS; rw [p4, p5, p6, numb_2 _ (by omega), numb_2 _ (by omega), numb_2 _ (by omega)]; omega
  refine ⟨by rw [e1, e2, e3]; exact hv, ?_⟩
  unfold gss
  rw [e1, e2, e3, e4, hn]; omega

theorem dt_inj {l : List UInt8} {n k : Int} (h : IsDT l n) (h' : IsDT l k) : n = k := by rw [← (dt_gss h).2, ← (dt_gss h').2]

theorem dt_text {n : Int} {y m d z k c : Int} (hv : vldB y m d = true) (hn : num y m d = n / 86400) (hv' : vldB z k c = true) (hn' : num z k c = n / 86400) : dtext n y m d = dtext n z k c := by
  obtain ⟨rfl, rfl, rfl⟩ := num_inj hv hv' (hn.trans hn'.symm)
  rfl

/-- what reading a text answers: the second whose text it is, and 0, or 0 and 3 -/
def PR (l : List UInt8) (n c : Int) : Prop := (c = 0 ∧ IsDT l n) ∨ (c = 3 ∧ n = 0 ∧ ∀ k, ¬ IsDT l k)

theorem PR_one {l : List UInt8} {n c m d : Int} (h : PR l n c) (h' : PR l m d) : n = m ∧ c = d := by
  rcases h with ⟨rfl, h⟩ | ⟨rfl, rfl, h⟩ <;> rcases h' with ⟨rfl, h'⟩ | ⟨rfl, rfl, h'⟩
  · exact ⟨dt_inj h h', rfl⟩
  · exact absurd h (h' _)
  · exact absurd h' (h _)
  · exact ⟨rfl, rfl⟩

theorem numb_bd2 {l : List UInt8} (h : l.length = 2) : -528 ≤ numb l ∧ numb l ≤ 2277 := by
  match l, h with
  | [a, b], _ =>
    have := a.toNat_lt; have := b.toNat_lt
    show -528 ≤ (0 * 10 + (a.toNat : Int) - 48) * 10 + (b.toNat : Int) - 48 ∧ (0 * 10 + (a.toNat : Int) - 48) * 10 + (b.toNat : Int) - 48 ≤ 2277
    omega
theorem numb_bd4 {l : List UInt8} (h : l.length = 4) : -53328 ≤ numb l ∧ numb l ≤ 229977 := by
  match l, h with
  | [a, b, c, d], _ =>
    have := a.toNat_lt; have := b.toNat_lt; have := c.toNat_lt; have := d.toNat_lt
    show -53328 ≤ (((0 * 10 + (a.toNat : Int) - 48) * 10 + (b.toNat : Int) - 48) * 10 + (c.toNat : Int) - 48) * 10 + (d.toNat : Int) - 48 ∧ (((0 * 10 + (a.toNat : Int) - 48) * 10 + (b.toNat : Int) - 48) * 10 + (c.toNat : Int) - 48) * 10 + (d.toNat : Int) - 48 ≤ 229977
    omega
theorem sl_len (l : List UInt8) (i j : Nat) (h : l.length = 29) (h1 : i ≤ j) (h2 : j ≤ 29) : (sl l i j).length = j - i := by
  unfold sl; rw [List.length_take, List.length_drop]; omega
end Go.Proofs.YtigbjhkkbgdkcacGreatDoor

/-
  Numbers of digits in plain lists, as the document's answers count them; no program is named here.
-/
namespace Go.Proofs.YtigbjhkkbgdkcacGreatDoor
open Go.RowKit

def isDig (c : UInt8) : Bool := 48 ≤ c && c ≤ 57
def cnt (l : List UInt8) (most : Int) : Int :=
  if l.length = 0 ∨ 18 < l.length ∨ (1 < l.length ∧ l.head? = some 48) ∨ l.all isDig = false then -1 else if most < numb l then -1 else numb l
/-- a number with noughts ahead, as the document's answers count it: -1 for 0 -/
def cn (l : List UInt8) : Int := cnt (Lib.trimLeftB l 48) 9999

theorem dig_iff (c : UInt8) : isDig c = true ↔ 48 ≤ c.toNat ∧ c.toNat ≤ 57 := by
  unfold isDig
  simp [UInt8.le_iff_toNat_le]
theorem dig_tens (c : UInt8) : ([48, 49, 50, 51, 52, 53, 54, 55, 56, 57] : List UInt8).contains c = isDig c := by
  have := byAll (fun c => ([48, 49, 50, 51, 52, 53, 54, 55, 56, 57] : List UInt8).contains c == isDig c) (by decide +kernel) c
  simpa using this
theorem tens_all (l : List UInt8) : allIn [48, 49, 50, 51, 52, 53, 54, 55, 56, 57] l = l.all isDig := congrArg l.all (funext dig_tens)

theorem foldl_bd (l : List UInt8) : ∀ (_ : l.all isDig = true) (n : Int) (_ : 0 ≤ n), 0 ≤ l.foldl (fun n c => n * 10 + (c.toNat : Int) - 48) n ∧ l.foldl (fun n c => n * 10 + (c.toNat : Int) - 48) n < (n + 1) * 10 ^ l.length := by
  induction l with
  | nil => intro _ n hn; simp; omega
  | cons c l ih =>
    intro h n hn
    rw [List.all_cons, Bool.and_eq_true] at h
    obtain ⟨h1, h2⟩ := (dig_iff c).1 h.1
    have := ih h.2 (n * 10 + (c.toNat : Int) - 48) (by omega)
    rw [List.foldl_cons]
    refine ⟨this.1, Int.lt_of_lt_of_le this.2 ?_⟩
    rw [List.length_cons, Int.pow_succ, Int.mul_comm (10 ^ l.length) 10, ← Int.mul_assoc]
    exact Int.mul_le_mul_of_nonneg_right (by omega) (by exact Int.le_of_lt (Int.pow_pos (by omega)))
theorem numb_dig (l : List UInt8) (h : l.all isDig = true) : 0 ≤ numb l ∧ numb l < 10 ^ l.length := by
  have := foldl_bd l h 0 (Int.le_refl _)
  simpa [numb] using this

theorem cnt_most (l : List UInt8) (most : Int) (h : 0 ≤ most) : -1 ≤ cnt l most ∧ cnt l most ≤ most := by
  unfold cnt
  split
  · omega
  · rename_i h1
    split
    · omega
    · rename_i h2
      have : l.all isDig = true := by
        cases hq : l.all isDig with
        | true => rfl
        | false => exact absurd (.inr (.inr (.inr hq))) h1
      have := (numb_dig l this).1
      omega
theorem numb_trim (l : List UInt8) : numb (Lib.trimLeftB l 48) = numb l := by
  unfold Lib.trimLeftB
  induction l with
  | nil => rfl
  | cons c l ih =>
    rw [List.dropWhile_cons]
    split
    · rename_i h
      obtain rfl : c = 48 := by simpa using h
      rw [ih]; rfl
    · rfl
theorem trim_all (l : List UInt8) (h : l.all isDig = true) : (Lib.trimLeftB l 48).all isDig = true :=
  List.all_eq_true.2 fun x hx => List.all_eq_true.1 h x ((List.dropWhile_sublist _).mem hx)
theorem trim_len (l : List UInt8) : (Lib.trimLeftB l 48).length ≤ l.length := (List.dropWhile_sublist _).length_le
theorem trim_head (l : List UInt8) : (Lib.trimLeftB l 48).head? ≠ some 48 := by
  unfold Lib.trimLeftB
  induction l with
  | nil => simp
  | cons c l ih =>
    rw [List.dropWhile_cons]
    split
    · exact ih
    · rename_i h
      simpa using h

theorem numb_dig4 (l : List UInt8) (h : l.all isDig = true) (hl : l.length ≤ 4) : 0 ≤ numb l ∧ numb l ≤ 9999 := by
  obtain ⟨a, b⟩ := numb_dig l h
  refine ⟨a, ?_⟩
  rcases (show l.length = 0 ∨ l.length = 1 ∨ l.length = 2 ∨ l.length = 3 ∨ l.length = 4 by omega) with e | e | e | e | e <;> (rw [e] at b; omega)

theorem cn_is (l : List UInt8) (h : l.all isDig = true) (hl : l.length ≤ 4) : (cn l = -1 ∧ numb l = 0) ∨ cn l = numb l := by
  have b := numb_dig4 l h hl
  have t1 := trim_all l h
  have t2 := trim_len l
  have t3 := trim_head l
  have t4 := numb_trim l
  unfold cn cnt
  rw [t4]
  by_cases he : (Lib.trimLeftB l 48).length = 0
  · left
    refine ⟨if_pos (.inl he), ?_⟩
    rw [← t4, List.length_eq_zero_iff.1 he]; rfl
  · right
    rw [if_neg, if_neg (by omega)]
    rintro (g | g | g | g)
    · exact he g
    · omega
    · exact t3 g.2
    · rw [t1] at g; cases g
theorem cn_max (l : List UInt8) (h : l.all isDig = true) (hl : l.length ≤ 4) : max 0 (cn l) = numb l := by
  have b := numb_dig4 l h hl
  rcases cn_is l h hl with ⟨e, f⟩ | e
  · rw [e, f]; rfl
  · rw [e]; omega
theorem cn_bd (l : List UInt8) (h : l.all isDig = true) (hl : l.length ≤ 4) : -1 ≤ cn l ∧ cn l ≤ 9999 := by
  have b := numb_dig4 l h hl
  rcases cn_is l h hl with ⟨e, f⟩ | e <;> omega

theorem dig_dg (u : Nat) (h : u < 10) : isDig (dg u) = true := by rw [dig_iff, dg_nat u h]; omega
theorem dig2_all (u : Nat) (h : u < 100) : (dig2 u).all isDig = true := by
  unfold dig2; simp [dig_dg (u / 10) (by omega), dig_dg (u % 10) (by omega)]
theorem dig4_all (u : Nat) (h : u < 10000) : (dig4 u).all isDig = true := by
  unfold dig4; simp [dig_dg (u / 1000) (by omega), dig_dg (u / 100 % 10) (by omega), dig_dg (u / 10 % 10) (by omega), dig_dg (u % 10) (by omega)]

def mtext : List UInt8 := [74, 97, 110, 32, 70, 101, 98, 32, 77, 97, 114, 32, 65, 112, 114, 32, 77, 97, 121, 32, 74, 117, 110, 32, 74, 117, 108, 32, 65, 117, 103, 32, 83, 101, 112, 32, 79, 99, 116, 32, 78, 111, 118, 32, 68, 101, 99]
theorem mtext_at (k : Nat) (h : k < 12) : Lib.index mtext (monthS k) = 4 * (k : Int) := by
  rcases (show k = 0 ∨ k = 1 ∨ k = 2 ∨ k = 3 ∨ k = 4 ∨ k = 5 ∨ k = 6 ∨ k = 7 ∨ k = 8 ∨ k = 9 ∨ k = 10 ∨ k = 11 by omega) with rfl | rfl | rfl | rfl | rfl | rfl | rfl | rfl | rfl | rfl | rfl | rfl <;> decide +kernel
theorem mtext_bd (x : List UInt8) : -1 ≤ Lib.index mtext x ∧ Lib.index mtext x ≤ 47 := ⟨Lib.index_ge _ _, Lib.index_le _ _⟩

/-- the five numbers' texts of a date -/
def part (l : List UInt8) (k : Nat) : List UInt8 := ([sl l 5 7, sl l 12 16, sl l 17 19, sl l 20 22, sl l 23 25]).getD k []
theorem part0 (l : List UInt8) : part l 0 = sl l 5 7 := rfl
theorem part1 (l : List UInt8) : part l 1 = sl l 12 16 := rfl
theorem part2 (l : List UInt8) : part l 2 = sl l 17 19 := rfl
theorem part3 (l : List UInt8) : part l 3 = sl l 20 22 := rfl
theorem part4 (l : List UInt8) : part l 4 = sl l 23 25 := rfl
def digs (l : List UInt8) : Prop := ∀ k : Nat, k < 5 → (part l k).all isDig = true
def rN (l : List UInt8) (m : Int) : Int := num (cn (part l 1)) (m / 4 + 1) (numb (part l 0)) * 86400 + 3600 * numb (part l 2) + 60 * numb (part l 3) + numb (part l 4)

theorem part_len (l : List UInt8) (h : l.length = 29) (k : Nat) (hk : k < 5) : (part l k).length ≤ 4 := by
  rcases (show k = 0 ∨ k = 1 ∨ k = 2 ∨ k = 3 ∨ k = 4 by omega) with rfl | rfl | rfl | rfl | rfl
  · exact Nat.le_trans (Nat.le_of_eq (sl_len l 5 7 h (by decide) (by decide))) (by decide)
  · exact Nat.le_trans (Nat.le_of_eq (sl_len l 12 16 h (by decide) (by decide))) (by decide)
  · exact Nat.le_trans (Nat.le_of_eq (sl_len l 17 19 h (by decide) (by decide))) (by decide)
  · exact Nat.le_trans (Nat.le_of_eq (sl_len l 20 22 h (by decide) (by decide))) (by decide)
  · exact Nat.le_trans (Nat.le_of_eq (sl_len l 23 25 h (by decide) (by decide))) (by decide)
theorem part_bd2 (l : List UInt8) (h : l.length = 29) (hd : digs l) (k : Nat) (hk : k < 5) (h1 : k ≠ 1) : 0 ≤ numb (part l k) ∧ numb (part l k) ≤ 99 := by
  obtain ⟨a, b⟩ := numb_dig (part l k) (hd k hk)
  have hl : (part l k).length = 2 := by
    rcases (show k = 0 ∨ k = 2 ∨ k = 3 ∨ k = 4 by omega) with rfl | rfl | rfl | rfl
    · exact sl_len l 5 7 h (by decide) (by decide)
    · exact sl_len l 17 19 h (by decide) (by decide)
    · exact sl_len l 20 22 h (by decide) (by decide)
    · exact sl_len l 23 25 h (by decide) (by decide)
  rw [hl] at b
  omega

/-- what the document's answers read of a date's text -/
theorem dt_ref {l : List UInt8} {n : Int} (h : IsDT l n) : digs l ∧ 0 ≤ Lib.index mtext (sl l 8 11) ∧ vldB (cn (part l 1)) (Lib.index mtext (sl l 8 11) / 4 + 1) (numb (part l 0)) = true ∧ rN l (Lib.index mtext (sl l 8 11)) = n := by
  have hlen := dt_len h
  obtain ⟨h0, h1, y, m, d, hv, hn, rfl⟩ := h
  obtain ⟨a1, a2, a3, a4, a5, a6⟩ := vld_iff.1 hv
  have hd := dim_lo y m
  obtain ⟨p1, p2, p3, p4, p5, p6⟩ := dtext_parts n y m d a3 a4
  have hdg : digs (dtext n y m d) := by
    intro k hk
    rcases (show k = 0 ∨ k = 1 ∨ k = 2 ∨ k = 3 ∨ k = 4 by omega) with rfl | rfl | rfl | rfl | rfl
    · rw [part0, p1]; exact dig2_all _ (by omega)
    · rw [part1, p3]; exact dig4_all _ (by omega)
    · rw [part2, p4]; exact dig2_all _ (by omega)
    · rw [part3, p5]; exact dig2_all _ (by omega)
    · rw [part4, p6]; exact dig2_all _ (by omega)
  have e0 : numb (part (dtext n y m d) 0) = d := by rw [part0, p1, numb_2 _ (by omega)]; omega
  have e1' : numb (part (dtext n y m d) 1) = y := by rw [part1, p3, numb_4 _ (by omega)]; omega
  have e1 : cn (part (dtext n y m d) 1) = y := by
    rcases cn_is _ (hdg 1 (by decide)) (part_len _ hlen 1 (by decide)) with ⟨_, g⟩ | g <;> omega
  have e2 : numb (part (dtext n y m d) 2) = n % 86400 / 3600 := by rw [part2, p4, numb_2 _ (by omega)]; omega
  have e3 : numb (part (dtext n y m d) 3) = n % 3600 / 60 := by rw [part3, p5, numb_2 _ (by omega)]; omega
  have e4 : numb (part (dtext n y m d) 4) = n % 60 := by rw [part4, p6, numb_2 _ (by omega)]; omega
  have em : Lib.index mtext (sl (dtext n y m d) 8 11) = 4 * (m - 1) := by rw [p2, mtext_at _ (by omega)]; omega
  refine ⟨hdg, by rw [em]; omega, ?_, ?_⟩
  · rw [e0, e1, em, show 4 * (m - 1) / 4 + 1 = m by omega]; exact hv
  · unfold rN
    rw [e0, e1, e2, e3, e4, em, show 4 * (m - 1) / 4 + 1 = m by omega, hn]; omega
end Go.Proofs.YtigbjhkkbgdkcacGreatDoor

/-
  A slice of directives that can be read, as a plain list; no program is named here.
-/
namespace Go.Proofs.YtigbjhkkbgdkcacGreatDoor
open Go.RowKit

def drs (ds : List (List UInt8 × Bool × List UInt8)) : List Value := ds.flatMap fun x => [Value.string ⟨x.1.toArray⟩, Value.bool x.2.1, Value.string ⟨x.2.2.toArray⟩]
theorem drs_snoc (ps : List (List UInt8 × Bool × List UInt8)) (x : List UInt8 × Bool × List UInt8) : drs ps ++ [Value.string ⟨x.1.toArray⟩, Value.bool x.2.1, Value.string ⟨x.2.2.toArray⟩] = drs (ps ++ [x]) := by simp [drs]
theorem drs_app (ps qs : List (List UInt8 × Bool × List UInt8)) : drs (ps ++ qs) = drs ps ++ drs qs := by simp [drs]
theorem drs_length (ps : List (List UInt8 × Bool × List UInt8)) : (drs ps).length = ps.length * 3 := by
  induction ps with
  | nil => rfl
  | cons x ps ih =>
    have e : drs (x :: ps) = [Value.string ⟨x.1.toArray⟩, Value.bool x.2.1, Value.string ⟨x.2.2.toArray⟩] ++ drs ps := by simp [drs]
    rw [e, List.length_append, ih, List.length_cons]; simp; omega
theorem drs_get (ps : List (List UInt8 × Bool × List UInt8)) : ∀ (k : Nat) (h : k < ps.length), (drs ps)[k * 3]? = some (.string ⟨(ps[k]).1.toArray⟩) ∧ (drs ps)[k * 3 + 1]? = some (.bool (ps[k]).2.1) ∧ (drs ps)[k * 3 + 2]? = some (.string ⟨(ps[k]).2.2.toArray⟩) := by
  induction ps with
  | nil => intro k h; simp at h
  | cons x ps ih =>
    intro k h
    have e : drs (x :: ps) = Value.string ⟨x.1.toArray⟩ :: Value.bool x.2.1 :: Value.string ⟨x.2.2.toArray⟩ :: drs ps := by simp [drs]
    rw [e]
    cases k with
    | zero => exact ⟨rfl, rfl, rfl⟩
    | succ k =>
      have := ih k (by simpa using h)
      rw [show (k + 1) * 3 = k * 3 + 1 + 1 + 1 from by omega, show k * 3 + 1 + 1 + 1 + 1 = (k * 3 + 1) + 1 + 1 + 1 from by omega, show k * 3 + 1 + 1 + 1 + 2 = (k * 3 + 2) + 1 + 1 + 1 from by omega]
      simp only [List.getElem?_cons_succ]
      exact this

/-- A slice of directives that can be read. -/
def Dl (w : World) (v : Value) (ls : List (List UInt8 × Bool × List UInt8)) : Prop :=
  ∃ ad cap, v = .slice ad ls.length cap ∧ ls.length ≤ cap ∧ cap ≤ maxLen ∧ (0 < ls.length → ∃ g off, ad = some ⟨g, off, none⟩ ∧ g < w.heap.size ∧
    ∀ (k : Nat) (h : k < ls.length), w.cell? ⟨g, off + k * 3, none⟩ = some (.string ⟨(ls[k]).1.toArray⟩) ∧ w.cell? ⟨g, off + k * 3 + 1, none⟩ = some (.bool (ls[k]).2.1) ∧ w.cell? ⟨g, off + k * 3 + 2, none⟩ = some (.string ⟨(ls[k]).2.2.toArray⟩))
theorem Dl.below {w w' : World} {v : Value} {ls : List (List UInt8 × Bool × List UInt8)} (h : Dl w v ls) (hb : Below w.heap.size w w') : Dl w' v ls := by
  obtain ⟨ad, cap, hv, h1, h2, h3⟩ := h
  refine ⟨ad, cap, hv, h1, h2, fun h0 => ?_⟩
  obtain ⟨g, off, ha, hg, hc⟩ := h3 h0
  refine ⟨g, off, ha, Nat.lt_of_lt_of_le hg hb.size, fun k hk => ?_⟩
  obtain ⟨c1, c2, c3⟩ := hc k hk
  exact ⟨(hb.cell (p := ⟨g, off + k * 3, none⟩) hg).trans c1, (hb.cell (p := ⟨g, off + k * 3 + 1, none⟩) hg).trans c2, (hb.cell (p := ⟨g, off + k * 3 + 2, none⟩) hg).trans c3⟩
theorem Dl.nil (w : World) : Dl w (.slice none 0 0) [] := ⟨none, 0, rfl, Nat.le_refl _, by unfold maxLen; omega, fun h => absurd h (by simp)⟩
/-- A row of directives that the call made itself can be read. -/
theorem Dl.own {w : World} {B : Nat} {e : TypeId} {v : Value} {ls : List (List UInt8 × Bool × List UInt8)} (h : w.ownsRow B e 3 v ls.length (drs ls)) : Dl w v ls := by
  obtain ⟨ad, cap, hv, hcm, hnc, hc⟩ := own_form2 h
  refine ⟨ad, cap, hv, hnc, hcm, fun h0 => ?_⟩
  obtain ⟨g, ha, _, hg, hce⟩ := hc h0
  refine ⟨g, 0, ha, hg, fun k hk => ?_⟩
  obtain ⟨p1, p2, p3⟩ := drs_get ls k hk
  rw [Nat.zero_add, hce _ (by omega), hce _ (by omega), hce _ (by omega)]
  exact ⟨p1, p2, p3⟩
/-- No text of them is longer than so many bytes. -/
def MostD (m : Nat) (ls : List (List UInt8 × Bool × List UInt8)) : Prop := ∀ x ∈ ls, x.1.length ≤ m ∧ x.2.2.length ≤ m
/-- How many values and letters they hold. -/
def bulkD (ls : List (List UInt8 × Bool × List UInt8)) : Nat := (ls.map fun y => y.1.length + y.2.2.length + 4).sum
theorem bulkD_len (ls : List (List UInt8 × Bool × List UInt8)) : ls.length * 4 ≤ bulkD ls := by
  induction ls with
  | nil => simp [bulkD]
  | cons a ls ih => simp only [bulkD, List.map_cons, List.sum_cons, List.length_cons] at ih ⊢; omega
theorem bulkD_mem (ls : List (List UInt8 × Bool × List UInt8)) (x : List UInt8 × Bool × List UInt8) (h : x ∈ ls) : x.1.length + x.2.2.length + 4 ≤ bulkD ls := by
  induction ls with
  | nil => cases h
  | cons a ls ih =>
    simp only [bulkD, List.map_cons, List.sum_cons] at ih ⊢
    rcases List.mem_cons.1 h with rfl | h
    · omega
    · have := ih h; omega
theorem bulkD_most (ls : List (List UInt8 × Bool × List UInt8)) (m : Nat) (h : bulkD ls ≤ m) : MostD m ls := fun x hx => by
  have := bulkD_mem ls x hx
  exact ⟨by omega, by omega⟩
theorem bulkD_app (a b : List (List UInt8 × Bool × List UInt8)) : bulkD (a ++ b) = bulkD a + bulkD b := by simp [bulkD]
end Go.Proofs.YtigbjhkkbgdkcacGreatDoor

/-
  The number that digits tell, held down at 2^31, and the first directive of a name, in plain lists; no program is named here.
-/
namespace Go.Proofs.YtigbjhkkbgdkcacGreatDoor
open Go.RowKit

def stepK (n : Int) (c : UInt8) : Int := min (n * 10 + ((c.toNat : Int) - 48)) 2147483648
def runK (l : List UInt8) : Int := l.foldl stepK 0
def numK (l : List UInt8) : Int := if l.all isDig = true then runK l else 0
theorem runK_snoc (l : List UInt8) (c : UInt8) : runK (l ++ [c]) = stepK (runK l) c := by simp [runK]
theorem runK_in (l : List UInt8) (h : l.all isDig = true) : 0 ≤ runK l ∧ runK l ≤ 2147483648 := by
  have gen : ∀ (l : List UInt8) (a : Int), l.all isDig = true → 0 ≤ a → a ≤ 2147483648 → 0 ≤ l.foldl stepK a ∧ l.foldl stepK a ≤ 2147483648 := by
    intro l
    induction l with
    | nil => intro a _ h1 h2; exact ⟨h1, h2⟩
    | cons c l ih =>
      intro a h h1 h2
      rw [List.all_cons, Bool.and_eq_true] at h
      have hc := (dig_iff c).1 h.1
      rw [List.foldl_cons]
      apply ih _ h.2
      · unfold stepK; omega
      · unfold stepK; omega
  exact gen l 0 h (Int.le_refl _) (by omega)
theorem numK_in (l : List UInt8) : 0 ≤ numK l ∧ numK l ≤ 2147483648 := by
  unfold numK
  split
  · rename_i h; exact runK_in l h
  · omega
theorem numK_yes (l : List UInt8) (h : l.all isDig = true) : numK l = runK l := by unfold numK; rw [if_pos h]
theorem numK_no (l : List UInt8) (h : l.all isDig = false) : numK l = 0 := by unfold numK; rw [if_neg (by rw [h]; simp)]
def isNm (n : List UInt8) (x : List UInt8 × Bool × List UInt8) : Bool := x.1 == n
/-- What Seconds answers. -/
def secK (ds : List (List UInt8 × Bool × List UInt8)) (n : List UInt8) : Int × Bool := match ds.find? (isNm n) with | some d => (numK d.2.2, true) | none => (0, false)
theorem find_first (ds : List (List UInt8 × Bool × List UInt8)) (p : List UInt8 × Bool × List UInt8 → Bool) (k : Nat) (h : k < ds.length) (h0 : (ds.take k).any p = false) (h1 : p ds[k] = true) : ds.find? p = some ds[k] := by
  have e : ds = ds.take k ++ ds[k] :: ds.drop (k + 1) := by rw [← List.drop_eq_getElem_cons h, List.take_append_drop]
  have hn : (ds.take k).find? p = none := by
    rw [List.find?_eq_none]
    intro x hx
    rw [List.any_eq_false] at h0
    exact h0 x hx
  have e2 : (ds.take k ++ ds[k] :: ds.drop (k + 1)).find? p = some ds[k] := by
    rw [List.find?_append, hn, List.find?_cons, h1]; rfl
  rw [← e] at e2
  exact e2
theorem find_none (ds : List (List UInt8 × Bool × List UInt8)) (p : List UInt8 × Bool × List UInt8 → Bool) (h0 : ds.any p = false) : ds.find? p = none := by
  rw [List.find?_eq_none]
  intro x hx
  rw [List.any_eq_false] at h0
  exact h0 x hx
theorem secK_at (ds : List (List UInt8 × Bool × List UInt8)) (n : List UInt8) (k : Nat) (h : k < ds.length) (h0 : (ds.take k).any (isNm n) = false) (h1 : isNm n ds[k] = true) : secK ds n = (numK (ds[k]).2.2, true) := by
  unfold secK; rw [find_first ds _ k h h0 h1]
theorem secK_no (ds : List (List UInt8 × Bool × List UInt8)) (n : List UInt8) (h : ds.any (isNm n) = false) : secK ds n = (0, false) := by
  unfold secK; rw [find_none ds _ h]
theorem secK_in (ds : List (List UInt8 × Bool × List UInt8)) (n : List UInt8) : 0 ≤ (secK ds n).1 ∧ (secK ds n).1 ≤ 2147483648 := by
  unfold secK
  split
  · exact numK_in _
  · omega
theorem secK_any (ds : List (List UInt8 × Bool × List UInt8)) (n : List UInt8) : (secK ds n).2 = ds.any (isNm n) := by
  unfold secK
  cases h : ds.find? (isNm n) with
  | none =>
    rw [List.find?_eq_none] at h
    simp only
    symm
    rw [List.any_eq_false]
    exact h
  | some x =>
    simp only
    symm
    rw [List.any_eq_true]
    exact ⟨x, List.mem_of_find?_eq_some h, List.find?_some h⟩
/-- Two lists, one behind the other: the first one counts. -/
theorem secK_app (a b : List (List UInt8 × Bool × List UInt8)) (n : List UInt8) : secK (a ++ b) n = if (secK a n).2 = true then secK a n else secK b n := by
  unfold secK
  rw [List.find?_append]
  cases h : a.find? (isNm n) <;> simp
theorem any_snoc (ds : List (List UInt8 × Bool × List UInt8)) (p : List UInt8 × Bool × List UInt8 → Bool) (k : Nat) (h : k < ds.length) (h0 : (ds.take k).any p = false) (h1 : p ds[k] = false) : (ds.take (k + 1)).any p = false := by
  rw [List.take_succ_eq_append_getElem h, List.any_append, h0, List.any_cons, h1]; rfl
end Go.Proofs.YtigbjhkkbgdkcacGreatDoor

/-
  How long a response is fresh, how old it is, and what may be done with it, over plain lists; D tells of each text what time it is (and 0, or 3); no program is named here.
-/
namespace Go.Proofs.YtigbjhkkbgdkcacGreatDoor
open Go.RowKit

abbrev DFn := List UInt8 → Int × Int
def DOk (D : DFn) : Prop := ∀ l, PR l (D l).1 (D l).2
theorem pr_some (l : List UInt8) : ∃ p : Int × Int, PR l p.1 p.2 := by
  by_cases h : ∃ k, IsDT l k
  · obtain ⟨k, hk⟩ := h
    exact ⟨(k, 0), .inl ⟨rfl, hk⟩⟩
  · exact ⟨(0, 3), .inr ⟨rfl, rfl, fun k hk => h ⟨k, hk⟩⟩⟩
theorem dfn_ex : ∃ D, DOk D := ⟨fun l => Classical.choose (pr_some l), fun l => Classical.choose_spec (pr_some l)⟩
theorem DOk.one {D : DFn} (h : DOk D) {l : List UInt8} {n c : Int} (hp : PR l n c) : D l = (n, c) := by
  obtain ⟨h1, h2⟩ := PR_one (h l) hp
  rw [← h1, ← h2]
theorem DOk.nil {D : DFn} (h : DOk D) : D [] = (0, 3) := h.one (.inr ⟨rfl, rfl, fun k hk => by have := dt_len hk; simp at this⟩)

def nCC : List UInt8 := [67, 97, 99, 104, 101, 45, 67, 111, 110, 116, 114, 111, 108]
def nDate : List UInt8 := [68, 97, 116, 101]
def nExp : List UInt8 := [69, 120, 112, 105, 114, 101, 115]
def nLM : List UInt8 := [76, 97, 115, 116, 45, 77, 111, 100, 105, 102, 105, 101, 100]
def nAge : List UInt8 := [65, 103, 101]
def dSM : List UInt8 := [115, 45, 109, 97, 120, 97, 103, 101]
def dMA : List UInt8 := [109, 97, 120, 45, 97, 103, 101]
def dMust : List UInt8 := [109, 117, 115, 116, 45, 114, 101, 118, 97, 108, 105, 100, 97, 116, 101]
def dProxy : List UInt8 := [112, 114, 111, 120, 121, 45, 114, 101, 118, 97, 108, 105, 100, 97, 116, 101]
def dNC : List UInt8 := [110, 111, 45, 99, 97, 99, 104, 101]
def dMS : List UInt8 := [109, 97, 120, 45, 115, 116, 97, 108, 101]
def dMF : List UInt8 := [109, 105, 110, 45, 102, 114, 101, 115, 104]
def dOIC : List UInt8 := [111, 110, 108, 121, 45, 105, 102, 45, 99, 97, 99, 104, 101, 100]

/-- The value of the fields of that name. -/
def gv (ls : List Fld) (s : List UInt8) : List UInt8 := jn (vals ls s)
/-- The directives of Cache-Control. -/
def ctl (ls : List Fld) : List Dv := (ctQ (gv ls nCC)).1
def dOf (D : DFn) (ls : List Fld) (s : List UInt8) : Int × Bool := ((D (gv ls s)).1, !(vals ls s).isEmpty && ((D (gv ls s)).2 == 0))
def spn (n most : Int) : Int := max 0 (min n most)
def lastT : Int := 253402300799
def top31 : Int := 2147483648
def madeP (D : DFn) (ls : List Fld) (came : Int) : Int := if (dOf D ls nDate).2 = true then (dOf D ls nDate).1 else spn came lastT
def storedP (code : Int) : Bool := [200, 203, 204, 300, 301, 308, 404, 405, 410, 414, 501].contains code
def lifeP (D : DFn) (ls : List Fld) (code came : Int) : Int :=
  if (secK (ctl ls) dSM).2 = true then (secK (ctl ls) dSM).1
  else if (secK (ctl ls) dMA).2 = true then (secK (ctl ls) dMA).1
  else if (vals ls nExp).isEmpty = false then (if (dOf D ls nExp).2 = true then spn ((dOf D ls nExp).1 - madeP D ls came) top31 else 0)
  else if (dOf D ls nLM).2 = true ∧ storedP code = true ∧ (dOf D ls nLM).1 ≤ madeP D ls came then spn ((madeP D ls came - (dOf D ls nLM).1) / 10) top31
  else 0
/-- How old it was when it came. -/
def grown (D : DFn) (ls : List Fld) (asked came : Int) : Int :=
  max (max (spn came lastT - madeP D ls came) (numK (gv ls nAge) + max 0 (spn came lastT - spn asked lastT))) 0
def ageP (D : DFn) (ls : List Fld) (asked came now : Int) : Int := spn (grown D ls asked came + max 0 (spn now lastT - spn came lastT)) top31
def hasK (ds : List Dv) (n : List UInt8) : Bool := (secK ds n).2
def boundP (says : List Dv) : Bool := hasK says dMust || hasK says dProxy || hasK says dSM || hasK says dNC
/-- Is it served stale, by leave? -/
def leave (asks : List Dv) (over : Int) : Bool := match asks.find? (isNm dMS) with | some d => !d.2.1 || decide (over ≤ numK d.2.2) | none => false
def goodP (asks says : List Dv) (life age : Int) : Bool :=
  (decide (age < life) || (!boundP says && leave asks (age - life))) && !hasK asks dNC && !hasK says dNC &&
    !(hasK asks dMA && decide ((secK asks dMA).1 < age)) && !(hasK asks dMF && decide (life - age < (secK asks dMF).1))
def useP (asks says : List Dv) (life age : Int) : Int := if goodP asks says life age = true then 1 else if hasK asks dOIC = true then 3 else 2

theorem spn_in (n most : Int) (h : 0 ≤ most) : 0 ≤ spn n most ∧ spn n most ≤ most := by unfold spn; omega
theorem spn_id (n most : Int) (h : 0 ≤ n) (h2 : n ≤ most) : spn n most = n := by unfold spn; omega
theorem spn_mono (n m most : Int) (h : n ≤ m) : spn n most ≤ spn m most := by unfold spn; omega
theorem life_in (D : DFn) (ls : List Fld) (code came : Int) : 0 ≤ lifeP D ls code came ∧ lifeP D ls code came ≤ 2147483648 := by
  have h1 := secK_in (ctl ls) dSM
  have h2 := secK_in (ctl ls) dMA
  have h3 := spn_in ((dOf D ls nExp).1 - madeP D ls came) top31 (by unfold top31; omega)
  have h4 := spn_in ((madeP D ls came - (dOf D ls nLM).1) / 10) top31 (by unfold top31; omega)
  unfold top31 at h3 h4
  unfold lifeP top31
  split
  · exact h1
  · split
    · exact h2
    · split
      · split
        · exact h3
        · omega
      · split
        · exact h4
        · omega
theorem age_in (D : DFn) (ls : List Fld) (asked came now : Int) : 0 ≤ ageP D ls asked came now ∧ ageP D ls asked came now ≤ 2147483648 := by
  have := spn_in (grown D ls asked came + max 0 (spn now lastT - spn came lastT)) top31 (by unfold top31; omega)
  unfold top31 at this
  exact this
theorem grown_pos (D : DFn) (ls : List Fld) (asked came : Int) : 0 ≤ grown D ls asked came := by unfold grown; omega
/-- It grows by each second that goes by. -/
theorem age_grows (D : DFn) (ls : List Fld) (asked came now n : Int) (hn : 0 ≤ n) (hnow : 0 ≤ now) :
    ageP D ls asked came now ≤ ageP D ls asked came (now + n) ∧ ageP D ls asked came (now + n) ≤ ageP D ls asked came now + n ∧
    (now < min (max came 0) 253402300799 ∨ 253402300799 < now + n ∨ ageP D ls asked came (now + n) = min (ageP D ls asked came now + n) 2147483648) := by
  have hg := grown_pos D ls asked came
  unfold ageP spn lastT top31
  generalize grown D ls asked came = g at hg ⊢
  refine ⟨by omega, by omega, ?_⟩
  by_cases h1 : now < min (max came 0) 253402300799
  · exact .inl h1
  · by_cases h2 : 253402300799 < now + n
    · exact .inr (.inl h2)
    · right; right
      omega
theorem leave_mono (asks : List Dv) (a b : Int) (h : a ≤ b) (hb : leave asks b = true) : leave asks a = true := by
  unfold leave at *
  split at hb
  · rename_i d he
    simp only [Bool.or_eq_true, decide_eq_true_eq] at hb ⊢
    rcases hb with hb | hb
    · exact .inl hb
    · exact .inr (by omega)
  · cases hb
theorem good_later (asks says : List Dv) (life a b : Int) (h : a ≤ b) (hb : goodP asks says life b = true) : goodP asks says life a = true := by
  unfold goodP at *
  simp only [Bool.and_eq_true, Bool.or_eq_true, Bool.not_eq_true', Bool.and_eq_false_iff, decide_eq_true_eq, decide_eq_false_iff_not] at hb ⊢
  obtain ⟨⟨⟨⟨h1, h2⟩, h3⟩, h4⟩, h5⟩ := hb
  refine ⟨⟨⟨⟨?_, h2⟩, h3⟩, ?_⟩, ?_⟩
  · rcases h1 with h1 | ⟨h1, h6⟩
    · exact .inl (by omega)
    · exact .inr ⟨h1, leave_mono _ _ _ (by omega) h6⟩
  · rcases h4 with h4 | h4
    · exact .inl h4
    · exact .inr (by omega)
  · rcases h5 with h5 | h5
    · exact .inl h5
    · exact .inr (by omega)
theorem use_in (asks says : List Dv) (life age : Int) : useP asks says life age = 1 ∨ useP asks says life age = 2 ∨ useP asks says life age = 3 := by
  unfold useP
  split
  · exact .inl rfl
  · split
    · exact .inr (.inr rfl)
    · exact .inr (.inl rfl)
theorem use_one (asks says : List Dv) (life age : Int) : useP asks says life age = 1 ↔ goodP asks says life age = true := by
  unfold useP
  split
  · rename_i h; simp [h]
  · rename_i h
    split <;> simp [h]
/-- What may not be served any more may not be served later. -/
theorem use_later (asks says : List Dv) (life a b : Int) (h : a ≤ b) : useP asks says life a = 1 ∨ useP asks says life a = useP asks says life b := by
  by_cases h1 : goodP asks says life b = true
  · left
    rw [use_one]
    exact good_later asks says life a b h h1
  · by_cases h2 : goodP asks says life a = true
    · left; rw [use_one]; exact h2
    · right
      unfold useP
      rw [if_neg h1, if_neg h2]
/-- Without demands. -/
theorem use_bare (says : List Dv) (life age : Int) : useP [] says life age = if age < life ∧ hasK says dNC = false then 1 else 2 := by
  have h1 : hasK [] dNC = false := rfl
  have h2 : hasK [] dMA = false := rfl
  have h3 : hasK [] dMF = false := rfl
  have h4 : leave [] (age - life) = false := rfl
  have h5 : hasK [] dOIC = false := rfl
  unfold useP goodP
  rw [h1, h2, h3, h4, h5]
  by_cases ha : age < life
  · cases hasK says dNC <;> simp [ha]
  · simp [ha]
/-- One demand more. -/
theorem hasK_app (a b : List Dv) (n : List UInt8) : hasK (a ++ b) n = (hasK a n || hasK b n) := by
  unfold hasK
  rw [secK_app]
  cases h : (secK a n).2
  · simp
  · simp [h]
theorem leave_app (a b : List Dv) (o : Int) (h : b.find? (isNm dMS) = none) : leave (a ++ b) o = leave a o := by
  unfold leave
  rw [List.find?_append, h]
  cases a.find? (isNm dMS) <;> rfl
end Go.Proofs.YtigbjhkkbgdkcacGreatDoor
