/-
  What Split of package token computes; the text is no longer than Go allows.
-/
import Derived.Test.YtofafonppajfkabDoorWTrim
import Derived.Test.YtofafonppajfkabDoorWCut
import Derived.Test.YtofafonppajfkabDoorOwn
namespace Go.Proofs.YtofafonppajfkabDoor
open Go.RowKit

def kept (P : List (List UInt8)) : List (List UInt8) := (P.map trimL).filter (fun p => !p.isEmpty)
def splitS (l : List UInt8) : List (List UInt8) × Int :=
  if 1000 < l.length then ([], 2) else if ends 44 l = false then ([], 3) else if 20 < (kept (pieces 44 l)).length then ([], 2) else (kept (pieces 44 l), 0)

theorem kept_snoc (P : List (List UInt8)) (p : List UInt8) : kept (P ++ [p]) = if (trimL p).isEmpty = true then kept P else kept P ++ [trimL p] := by
  unfold kept
  rw [List.map_append, List.filter_append]
  cases h : (trimL p).isEmpty <;> simp [h]
theorem kept_len (P : List (List UInt8)) : (kept P).length ≤ P.length := by
  unfold kept
  have := List.length_filter_le (fun p : List UInt8 => !p.isEmpty) (P.map trimL)
  simpa using this
theorem take_one (P : List (List UInt8)) (k : Nat) (h : k < P.length) : P.take (k + 1) = P.take k ++ [P[k]] := List.take_succ_eq_append_getElem h

set_option maxHeartbeats 4000000 in
set_option maxRecDepth 100000 in
theorem split_any (s : ByteArray) (w : World) :
    Calls Tryd.prog 31 #[.string s] w fun e w' => ∃ v, e = .returned (.tuple #[v, .int .i64 (splitS s.data.toList).2]) ∧
      w'.ownsRow w.heap.size 9 1 v (splitS s.data.toList).1.length (strs (splitS s.data.toList).1) ∧ Below w.heap.size w w' := by
  obtain ⟨i0, hi, hz0, hz1, hz2⟩ := info_parts info9
  by_cases h1 : 1000 < (s.size : Int)
  · have HL : Hid (splitS s.data.toList = ([], 2)) := by show _ = _; unfold splitS; rw [if_pos (by rw [size_list]; omega)]
    go_enter Tryd.func31, Tryd.ntmps31
    go_wp2_with fail
    go_ret2
    exact ⟨.slice none 0 0, by rw [HL.out]; rfl, by rw [HL.out]; exact World.ownsRow_nil _ _ _ _, Below.refl _ _⟩
  · have hs : s.size ≤ 1000 := by omega
    have HL : Hid (¬ 1000 < s.data.toList.length) := by show ¬ _; rw [size_list]; omega
    clear h1
    cases he : ends 44 s.data.toList
    · have HE : Hid (ends 44 s.data.toList = false) := he
      have HS : Hid (splitS s.data.toList = ([], 3)) := by show _ = _; unfold splitS; rw [if_neg HL.out, if_pos he]
      clear he
      go_enter Tryd.func31, Tryd.ntmps31
      go_wp2_with fail
      refine (cut_any s 44 _ hs (by decide)).mono ?_
      rintro e w1 ⟨v, rfl, hown, hb⟩
      rw [HE.out]
      go_wp2_with fail
      go_ret2
      exact ⟨.slice none 0 0, by rw [HS.out]; rfl, by rw [HS.out]; exact World.ownsRow_nil _ _ _ _, hb⟩
    · have HE : Hid (ends 44 s.data.toList = true) := he
      have HS : Hid (splitS s.data.toList = if 20 < (kept (pieces 44 s.data.toList)).length then ([], 2) else (kept (pieces 44 s.data.toList), 0)) := by
        show _ = _; unfold splitS; rw [if_neg HL.out, if_neg (by rw [he]; simp)]
      clear he
      obtain ⟨P, hP⟩ : ∃ P, P = pieces 44 s.data.toList := ⟨_, rfl⟩
      have HP : Hid (P = pieces 44 s.data.toList) := hP
      have hPl : P.length ≤ 1001 := by
        rw [hP]; unfold pieces
        have := cutS_len 44 s.data.toList
        rw [size_list] at this
        simp; omega
      clear hP
      go_enter Tryd.func31, Tryd.ntmps31
      go_wp2_with fail
      refine (cut_any s 44 _ hs (by decide)).mono ?_
      rintro e w1 ⟨v, rfl, hown, hb⟩
      rw [HE.out]
      rw [← HP.out] at hown
      obtain ⟨ad, cap, hv, hcm, hnc, hcells⟩ := own_slice hown
      subst hv
      unfold maxLen at hcm
      have HCL : Hid (0 < P.length → ∃ g, ad = some ⟨g, 0, none⟩ ∧ w.heap.size ≤ g ∧ g < w1.heap.size ∧ ∀ j, j < P.length → w1.cell? ⟨g, j, none⟩ = (strs P)[j]?) := hcells
      have hbs := hb.size
      clear hcells hown
      go_wp2_with fail
      go_loopw [6, 22] (fun v i wr => ∃ k : Nat, k ≤ P.length ∧ i = .int .i64 k ∧ wr.ownsRow w1.heap.size 9 1 v (kept (P.take k)).length (strs (kept (P.take k))) ∧ Below w1.heap.size w1 wr) (fun _ i _ => P.length - (intOf i).toNat)
      case atStart => exact ⟨0, by omega, rfl, World.ownsRow_nil _ _ _ _, Below.refl _ _⟩
      case round =>
        obtain ⟨k, hk, rfl, hown, hw⟩ := hrel
        have hsz := hw.size
        have hkl : (kept (P.take k)).length ≤ 1001 := by
          have h1 := kept_len (P.take k)
          have h2 := List.length_take_le k P
          omega
        by_cases hlt : k < P.length
        · obtain ⟨g, rfl, hgB, hgs, hce⟩ := HCL.out (by omega)
          have hcell : wr.cell? ⟨g, k, none⟩ = some (.string ⟨(P[k]).toArray⟩) := by
            rw [hw.cell (p := ⟨g, k, none⟩) hgs, hce k hlt]
            exact strs_get P k hlt
          obtain ⟨u, hu⟩ : ∃ u : ByteArray, u = ⟨(P[k]).toArray⟩ := ⟨_, rfl⟩
          rw [← hu] at hcell
          have hus : u.size ≤ 1000 := by
            rw [hu, ← size_list]
            have h2 := pieces_len 44 s.data.toList P[k] (by rw [← HP.out]; exact List.getElem_mem hlt)
            rw [size_list] at h2
            show (P[k]).length ≤ 1000
            omega
          obtain ⟨u', hu'⟩ : ∃ u' : ByteArray, u' = ⟨(trimL P[k]).toArray⟩ := ⟨_, rfl⟩
          have HU : Hid (u'.data.toList = trimL u.data.toList) := by show _ = _; rw [hu, hu']
          have HU' : Hid (u' = ⟨(trimL P[k]).toArray⟩) := hu'
          have hus' : u'.size ≤ 1000 := by
            rw [← size_list, HU.out]
            have := trimL_len u.data.toList
            rw [size_list] at this
            omega
          have HKS : Hid (kept (P.take (k + 1)) = if (trimL P[k]).isEmpty = true then kept (P.take k) else kept (P.take k) ++ [trimL P[k]]) := by
            show _ = _; rw [take_one P k hlt, kept_snoc]
          clear hce hu hu'
          cases hem : u'.toList.isEmpty
          · have HEM : Hid ((trimL P[k]).isEmpty = false) := by
              show _ = _
              rw [ByteArray.toList_eq, HU'.out] at hem
              exact hem
            go_wp2_with fail
            refine (trim_at _ u' HU.out _ (by omega)).mono ?_
            rintro e w2 ⟨rfl, hb2⟩
            have hown2 := own_below2 hown hb2
            have hw2 := hw.trans (hb2.mono hw.size)
            have hsz2 := hw2.size
            clear hown hw hb2 hcell
            go_wp2_with fail
            refine (clone_at _ _ (by omega)).mono ?_
            rintro e w3 ⟨rfl, hb3⟩
            have hown3 := own_below2 hown2 hb3
            have hw3 := hw2.trans (hb3.mono hw2.size)
            have hsz3 := hw3.size
            clear hown2 hw2 hb3
            go_wp2_with (at_builtin; refine wpList_append_own _ rfl _ _ 59 rfl w1.heap.size 9 i0 (.string ⟨#[]⟩) 1 16 Tryd.underlying59 hi hz0 hz1 hz2 rfl (by decide) _ _ _ rfl (hown3.alloc _) ⟨w3.heap.size, 0, none⟩ 1 1 [.string u'] rfl rfl ?c1 ?c2 ?c3 ?c4 ?c5 ?_)
            case c1 => exact one_cell _ _ _
            case c2 => intro x hx; simp at hx; subst hx; rfl
            case c3 => unfold maxLen; omega
            case c4 => omega
            case c5 => simp; omega
            · intro v' w4 hown' hgrow _
              have hB : Below w1.heap.size w1 w4 := (hw3.alloc (by omega) _).grown hgrow (by simp; omega) (fun b hb => ((hown3.alloc (.cells #[.string u'] 9)).lt b hb).1)
              have hown4 : w4.ownsRow w1.heap.size 9 1 v' (kept (P.take (k + 1))).length (strs (kept (P.take (k + 1)))) := by
                rw [HKS.out, HEM.out]
                simp only [Bool.false_eq_true, if_false]
                rw [← strs_snoc, List.length_append, ← HU'.out]; exact hown'
              clear hown' hgrow hown3 hw3
              go_wp2_with fail
              go_roundw
              case rel => exact ⟨k + 1, by omega, by go_num, hown4, hB⟩
              case measure => simp [intOf]; omega
          · have HEM : Hid ((trimL P[k]).isEmpty = true) := by
              show _ = _
              rw [ByteArray.toList_eq, HU'.out] at hem
              exact hem
            go_wp2_with fail
            refine (trim_at _ u' HU.out _ (by omega)).mono ?_
            rintro e w2 ⟨rfl, hb2⟩
            have hown2 := own_below2 hown hb2
            have hw2 := hw.trans (hb2.mono hw.size)
            clear hown hw hb2 hcell
            go_wp2_with fail
            go_roundw
            case rel => exact ⟨k + 1, by omega, by go_num, by rw [HKS.out, if_pos HEM.out]; exact hown2, hw2⟩
            case measure => simp [intOf]; omega
        · obtain rfl : k = P.length := by omega
          rw [List.take_length] at hown hkl
          obtain ⟨ad2, cap2, hv2, hcm2, hnc2, _⟩ := own_slice hown
          subst hv2
          unfold maxLen at hcm2
          by_cases h20 : 20 < ((kept P).length : Int)
          · have HR : Hid (splitS s.data.toList = ([], 2)) := by show _ = _; rw [HS.out, if_pos (by rw [← HP.out]; omega)]
            go_wp2_with fail
            go_ret2
            exact ⟨.slice none 0 0, by rw [HR.out]; rfl, by rw [HR.out]; exact World.ownsRow_nil _ _ _ _, hb.trans (hw.mono hbs)⟩
          · have HR : Hid (splitS s.data.toList = (kept P, 0)) := by show _ = _; rw [HS.out, if_neg (by rw [← HP.out]; omega), ← HP.out]
            go_wp2_with fail
            go_ret2
            exact ⟨_, by rw [HR.out]; rfl, by rw [HR.out]; exact ownsRow_le' hown hbs, hb.trans (hw.mono hbs)⟩
end Go.Proofs.YtofafonppajfkabDoor
