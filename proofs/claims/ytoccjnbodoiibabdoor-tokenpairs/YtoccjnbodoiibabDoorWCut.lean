/-
  What cut of package token computes: the pieces of a text between the signs that are not within quotes; the text has at most 1000 bytes, and the sign is no quote and no stroke.
-/
import Derived.Test.YtoccjnbodoiibabDoorWInfo9
import Derived.Test.YtoccjnbodoiibabDoorShelf
import Derived.Test.YtoccjnbodoiibabDoorRows
namespace Go.Proofs.YtoccjnbodoiibabDoor
open Go.RowKit

set_option maxHeartbeats 4000000 in
set_option maxRecDepth 100000 in
theorem cut_any (s : ByteArray) (sep : UInt8) (w : World) (hs : s.size ≤ 1000) (h34 : sep ≠ 34) :
    Calls Tryd.prog 12 #[.string s, .int .u8 (sep.toNat : Int)] w fun e w' => ∃ v, e = .returned (.tuple #[v, .bool (ends sep s.data.toList)]) ∧
      w'.ownsRow w.heap.size 9 1 v (pieces sep s.data.toList).length (strs (pieces sep s.data.toList)) ∧ Below w.heap.size w w' := by
  obtain ⟨i0, hi, hz0, hz1, hz2⟩ := info_parts info9
  have HS34 : Hid (sep ≠ 34) := h34
  clear h34
  go_enter Tryd.func12, Tryd.ntmps12
  go_wp2_with fail
  go_loopw [6, 7, 8, 9] (fun v st wi i wr => ∃ (k a : Nat) (ps : List (List UInt8)) (q cn : Bool), k ≤ s.size + 1 ∧ a ≤ k ∧ a ≤ s.size ∧ i = .int .i64 k ∧ st = .int .i64 a ∧ wi = .bool q ∧ (k ≤ s.size → cn = false) ∧
      cutS sep (s.data.toList.take k) = ⟨ps, (s.data.toList.drop a).take (k - a), q, cn⟩ ∧ wr.ownsRow w.heap.size 9 1 v ps.length (strs ps) ∧ Below w.heap.size w wr) (fun _ _ _ i _ => s.size + 1 - (intOf i).toNat)
  case atStart => exact ⟨0, 0, [], false, false, by omega, by omega, by omega, rfl, rfl, rfl, fun _ => rfl, by simp [cutS], World.ownsRow_nil _ _ _ _, Below.refl _ _⟩
  case round =>
    obtain ⟨k, a, ps, q, cn, hk, hak, has, rfl, rfl, rfl, hcn, hcut, hown, hw⟩ := hrel
    have hpl : ps.length ≤ 1000 := by
      have h1 := cutS_len sep (s.data.toList.take k)
      have h2 := List.length_take_le' k s.data.toList
      rw [hcut] at h1
      rw [size_list] at h2
      simp only at h1
      omega
    have hsz := hw.size
    have HC : Hid (cutS sep (s.data.toList.take k) = ⟨ps, (s.data.toList.drop a).take (k - a), q, cn⟩) := hcut
    clear hcut
    by_cases hlt : k < s.size
    · have hcn' := hcn (by omega)
      subst hcn'
      clear hcn
      have hc1 : (s[k].toNat : Int) < 256 := by have := s[k].toNat_lt; omega
      have HSN : Hid (∀ x, cstep sep ⟨ps, (s.data.toList.drop a).take (k - a), q, false⟩ s[k] = x → cutS sep (s.data.toList.take (k + 1)) = x) := by
        intro x hx
        rw [take_snoc s k hlt, cutS_snoc, HC.out, hx]
      by_cases hq34 : (s[k].toNat : Int) = 34
      · have hd1 : ((s[k].toNat : Int) == 92) = false := by rw [beq_eq_false_iff_ne]; omega
        have hd2 : ((s[k].toNat : Int) == 34) = true := by simp [hq34]
        have H34 : Hid ((s[k].toNat : Int) = 34) := hq34
        clear hq34
        cases q
        · go_wp2_with fail
          go_roundw
          case rel => exact ⟨k + 1, a, ps, true, false, by omega, by omega, by omega, by go_num, rfl, rfl, fun _ => rfl, by rw [seg_snoc s a k hak hlt]; exact HSN.out _ (cstep_quote sep HS34.out _ _ _ _ (eq_of_int _ 34 H34.out)), hown, hw⟩
          case measure => simp [intOf]; omega
        · go_wp2_with fail
          go_roundw
          case rel => exact ⟨k + 1, a, ps, false, false, by omega, by omega, by omega, by go_num, rfl, rfl, fun _ => rfl, by rw [seg_snoc s a k hak hlt]; exact HSN.out _ (cstep_quote sep HS34.out _ _ _ _ (eq_of_int _ 34 H34.out)), hown, hw⟩
          case measure => simp [intOf]; omega
      · have hd2 : ((s[k].toNat : Int) == 34) = false := by rw [beq_eq_false_iff_ne]; exact hq34
        have H34 : Hid ((s[k].toNat : Int) ≠ 34) := hq34
        clear hq34
        cases q
        · by_cases hsep : (s[k].toNat : Int) = (sep.toNat : Int)
          · have hd3 : ((s[k].toNat : Int) == (sep.toNat : Int)) = true := by simp [hsep]
            have HSP : Hid ((s[k].toNat : Int) = (sep.toNat : Int)) := hsep
            clear hsep
            go_wp2_with (at_builtin; refine wpList_append_own _ rfl _ _ 30 rfl w.heap.size 9 i0 (.string ⟨#[]⟩) 1 16 Tryd.underlying30 hi hz0 hz1 hz2 rfl (by decide) _ _ _ rfl (hown.alloc _) ⟨wr.heap.size, 0, none⟩ 1 1 [.string (s.extract a k)] rfl rfl ?c1 ?c2 ?c3 ?c4 ?c5 ?_)
            case c1 => exact one_cell _ _ _
            case c2 => intro u hu; simp at hu; subst hu; rfl
            case c3 => unfold maxLen; omega
            case c4 => omega
            case c5 => simp; omega
            · intro v' w1 hown' hgrow _
              have hB : Below w.heap.size w w1 := (hw.alloc (by omega) _).grown hgrow (by simp; omega) (fun b hb => ((hown.alloc (.cells #[.string (s.extract a k)] 9)).lt b hb).1)
              have hown2 : w1.ownsRow w.heap.size 9 1 v' (ps ++ [(s.data.toList.drop a).take (k - a)]).length (strs (ps ++ [(s.data.toList.drop a).take (k - a)])) := by
                rw [← strs_snoc, List.length_append, ← extract_seg]; exact hown'
              clear hown' hgrow hown hw
              go_wp2_with fail
              go_roundw
              case rel => exact ⟨k + 1, k + 1, _, false, false, by omega, by omega, by omega, by go_num, by go_num, rfl, fun _ => rfl, by rw [Nat.sub_self, List.take_zero]; exact HSN.out _ (cstep_sep sep _ _ _ (eq_of_int _ _ HSP.out)), hown2, hB⟩
              case measure => simp [intOf]; omega
          · have hd3 : ((s[k].toNat : Int) == (sep.toNat : Int)) = false := by rw [beq_eq_false_iff_ne]; exact hsep
            have HSP : Hid ((s[k].toNat : Int) ≠ (sep.toNat : Int)) := hsep
            clear hsep
            go_wp2_with fail
            go_roundw
            case rel => exact ⟨k + 1, a, ps, false, false, by omega, by omega, by omega, by go_num, rfl, rfl, fun _ => rfl, by rw [seg_snoc s a k hak hlt]; exact HSN.out _ (cstep_else sep _ _ _ _ (fun h => ne_of_int _ _ HSP.out h.1) (ne_of_int _ 34 H34.out) (fun h => by cases h.2)), hown, hw⟩
            case measure => simp [intOf]; omega
        · by_cases hq92 : (s[k].toNat : Int) = 92
          · have hd1 : ((s[k].toNat : Int) == 92) = true := by simp [hq92]
            have H92 : Hid ((s[k].toNat : Int) = 92) := hq92
            clear hq92
            have HN : Hid (∃ cn', (k + 2 ≤ s.size → cn' = false) ∧ cutS sep (s.data.toList.take (k + 2)) = ⟨ps, (s.data.toList.drop a).take (k + 2 - a), true, cn'⟩) := by
              have h1 := HSN.out _ (cstep_back sep _ _ _ (eq_of_int _ 92 H92.out))
              rw [← seg_snoc s a k hak hlt] at h1
              by_cases h2 : k + 1 < s.size
              · refine ⟨false, fun _ => rfl, ?_⟩
                rw [take_snoc s (k + 1) h2, cutS_snoc, h1, cstep_took, seg_snoc s a (k + 1) (by omega) h2]
              · refine ⟨true, fun h => absurd h (by omega), ?_⟩
                have e1 : s.data.toList.take (k + 2) = s.data.toList.take (k + 1) := by
                  rw [List.take_of_length_le (by rw [size_list]; omega), List.take_of_length_le (by rw [size_list]; omega)]
                have e2 : (s.data.toList.drop a).take (k + 2 - a) = (s.data.toList.drop a).take (k + 1 - a) := by
                  rw [List.take_of_length_le (by rw [List.length_drop, size_list]; omega), List.take_of_length_le (by rw [List.length_drop, size_list]; omega)]
                rw [e1, e2, h1]
            go_wp2_with fail
            go_roundw
            case rel =>
              obtain ⟨cn', h1, h2⟩ := HN.out
              exact ⟨k + 2, a, ps, true, cn', by omega, by omega, by omega, by go_num, rfl, rfl, h1, h2, hown, hw⟩
            case measure => simp [intOf]; omega
          · have hd1 : ((s[k].toNat : Int) == 92) = false := by rw [beq_eq_false_iff_ne]; exact hq92
            have H92 : Hid ((s[k].toNat : Int) ≠ 92) := hq92
            clear hq92
            by_cases hsep : (s[k].toNat : Int) = (sep.toNat : Int)
            · have hd3 : ((s[k].toNat : Int) == (sep.toNat : Int)) = true := by simp [hsep]
              clear hsep
              go_wp2_with fail
              go_roundw
              case rel => exact ⟨k + 1, a, ps, true, false, by omega, by omega, by omega, by go_num, rfl, rfl, fun _ => rfl, by rw [seg_snoc s a k hak hlt]; exact HSN.out _ (cstep_else sep _ _ _ _ (fun h => by cases h.2) (ne_of_int _ 34 H34.out) (fun h => ne_of_int _ 92 H92.out h.1)), hown, hw⟩
              case measure => simp [intOf]; omega
            · have hd3 : ((s[k].toNat : Int) == (sep.toNat : Int)) = false := by rw [beq_eq_false_iff_ne]; exact hsep
              clear hsep
              go_wp2_with fail
              go_roundw
              case rel => exact ⟨k + 1, a, ps, true, false, by omega, by omega, by omega, by go_num, rfl, rfl, fun _ => rfl, by rw [seg_snoc s a k hak hlt]; exact HSN.out _ (cstep_else sep _ _ _ _ (fun h => by cases h.2) (ne_of_int _ 34 H34.out) (fun h => ne_of_int _ 92 H92.out h.1)), hown, hw⟩
              case measure => simp [intOf]; omega
    · have HE : Hid (cutS sep s.data.toList = ⟨ps, (s.data.toList.drop a).take (s.size - a), q, cn⟩) := by
        show cutS sep s.data.toList = _
        have h := HC.out
        have e2 : (s.data.toList.drop a).take (k - a) = (s.data.toList.drop a).take (s.size - a) := by
          rw [List.take_of_length_le (by rw [List.length_drop, size_list]; omega), List.take_of_length_le (by rw [List.length_drop, size_list]; omega)]
        rw [List.take_of_length_le (by rw [size_list]; omega), e2] at h
        exact h
      clear hcn
      go_wp2_with (at_builtin; refine wpList_append_own _ rfl _ _ 30 rfl w.heap.size 9 i0 (.string ⟨#[]⟩) 1 16 Tryd.underlying30 hi hz0 hz1 hz2 rfl (by decide) _ _ _ rfl (hown.alloc _) ⟨wr.heap.size, 0, none⟩ 1 1 [.string (s.extract a s.size)] rfl rfl ?d1 ?d2 ?d3 ?d4 ?d5 ?_)
      case d1 => exact one_cell _ _ _
      case d2 => intro u hu; simp at hu; subst hu; rfl
      case d3 => unfold maxLen; omega
      case d4 => omega
      case d5 => simp; omega
      · intro v' w1 hown' hgrow _
        have hB : Below w.heap.size w w1 := (hw.alloc (by omega) _).grown hgrow (by simp; omega) (fun b hb => ((hown.alloc (.cells #[.string (s.extract a s.size)] 9)).lt b hb).1)
        have hown2 : w1.ownsRow w.heap.size 9 1 v' (pieces sep s.data.toList).length (strs (pieces sep s.data.toList)) := by
          unfold pieces
          rw [HE.out, ← strs_snoc, List.length_append, ← extract_seg]; exact hown'
        have HEN : Hid (ends sep s.data.toList = !q) := by show _ = _; unfold ends; rw [HE.out]
        clear hown' hgrow hown hw
        go_wp2_with fail
        go_ret2
        exact ⟨v', by rw [HEN.out]; rfl, hown2, hB⟩
end Go.Proofs.YtoccjnbodoiibabDoor
