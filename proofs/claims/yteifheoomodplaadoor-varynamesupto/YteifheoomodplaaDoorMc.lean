/-
  What Names of package vary computes; lists and texts are no longer than Go allows.
-/
import Derived.Test.YteifheoomodplaaDoorMb
import Derived.Test.YteifheoomodplaaDoorRows
import Derived.Test.YteifheoomodplaaDoorShelf
namespace Go.Proofs.YteifheoomodplaaDoor
open Go.RowKit

theorem ret_vbi {v : Value} {a b : Bool} {c d : Int} (h : a = b) (h' : c = d) : Ending.returned (.tuple #[v, .bool a, .int .i64 c]) = .returned (.tuple #[v, .bool b, .int .i64 d]) := by rw [h, h']
theorem any_grow (P : List Txt) (k : Nat) (h : k < P.length) : lowsV (P.take (k + 1)) = lowsV (P.take k) ++ (if (P[k] == [42]) = true then [] else [lower P[k]]) ∧ starV (P.take (k + 1)) = (starV (P.take k) || (P[k] == [42])) := by
  rw [take_one P k h]
  exact ⟨lows_snoc _ _, star_snoc _ _⟩
theorem lows_len (P : List Txt) : (lowsV P).length ≤ P.length := by
  unfold lowsV
  rw [List.length_map]
  exact List.length_filter_le _ _
theorem split_most (l : Txt) : (splitS l).1.length ≤ 20 ∧ (∀ p ∈ (splitS l).1, p.length ≤ 1000) := by
  unfold splitS
  split
  · simp
  · rename_i h1
    split
    · simp
    · split
      · simp
      · refine ⟨by simp only; omega, ?_⟩
        intro p hp
        simp only at hp
        unfold kept at hp
        obtain ⟨q, hq, e⟩ := List.mem_map.1 (List.mem_filter.1 hp).1
        have := pieces_len 44 l q hq
        have h2 := trimL_len q
        rw [← e]; omega
set_option maxHeartbeats 4000000 in
set_option maxRecDepth 100000 in
theorem vnames_at (v : Value) (ls : List Fld) (w : World) (hf : Fl w v ls) (hl : Wide ls) (hj : (jn (vals ls nVary)).length ≤ 140737488355328) :
    Calls Tryd.prog 7 #[v] w fun e w' => ∃ v', e = .returned (.tuple #[v', .bool (vV ls).2.1, .int .i64 (vV ls).2.2]) ∧
      w'.ownsRow w.heap.size 9 1 v' (vV ls).1.length (strs (vV ls).1) ∧ Below w.heap.size w w' := by
  obtain ⟨i0, hi, hz0, hz1, hz2⟩ := info_parts info9
  obtain ⟨t, ht⟩ : ∃ t : ByteArray, t.data.toList = jn (vals ls nVary) := ⟨⟨(jn (vals ls nVary)).toArray⟩, rfl⟩
  have HJ : Hid (t.data.toList = jn (vals ls (⟨#[86, 97, 114, 121]⟩ : ByteArray).data.toList)) := ht
  have hts : t.size ≤ 140737488355328 := by rw [← size_list, ht]; omega
  have HV : Hid (vV ls = vN t.data.toList) := by show vV ls = _; unfold vV; rw [ht]
  have HW : Hid (Wide ls) := hl
  have HF : Hid (Fl w v ls) := hf
  obtain ⟨P, c, hP⟩ : ∃ P c, splitS t.data.toList = (P, c) := ⟨_, _, rfl⟩
  have HP : Hid (splitS t.data.toList = (P, c)) := hP
  have hmost := split_most t.data.toList
  rw [hP] at hmost
  obtain ⟨hP20, hPl⟩ := hmost
  replace hP20 : P.length ≤ 20 := hP20
  have HPL : Hid (∀ p ∈ P, p.length ≤ 1000) := hPl
  clear ht hl hf hP hj hPl
  go_enter Tryd.func7, Tryd.ntmps7
  go_wp2_with fail
  refine (get_at v ls _ t _ HJ.out rfl _ HF.out HW.out (by decide) hts).mono ?_
  rintro e w1 ⟨rfl, hb1⟩
  have HB1 : Hid (Below w.heap.size w w1) := hb1
  clear hb1
  go_wp2_with fail
  refine (split_any t _).mono ?_
  rintro e w2 ⟨v2, rfl, hown, hb2⟩
  rw [HP.out] at hown ⊢
  replace hown : w2.ownsRow w1.heap.size 9 1 v2 P.length (strs P) := hown
  have hB1 := HB1.out
  have hw2 : Below w.heap.size w w2 := hB1.trans (hb2.mono hB1.size)
  have hsz := hw2.size
  have hsz1 := hb2.size
  obtain ⟨ad, cap, hv2, hcm, hnc, hcells⟩ := own_slice hown
  subst hv2
  unfold maxLen at hcm
  have HCL : Hid (0 < P.length → ∃ g, ad = some ⟨g, 0, none⟩ ∧ w1.heap.size ≤ g ∧ g < w2.heap.size ∧ ∀ j, j < P.length → w2.cell? ⟨g, j, none⟩ = (strs P)[j]?) := hcells
  have HW2 : Hid (Below w.heap.size w w2) := hw2
  clear hown hB1 hb2 hw2 hcells
  by_cases hc : c = 0
  · subst hc
    have HVN : Hid (vV ls = if P.all token = true then (nmsV P, starV P, 0) else ([], false, 3)) := by
      show _ = _
      rw [HV.out]
      unfold vN
      rw [HP.out]
      simp
    clear HV HJ HP
    go_wp2_with fail
    go_loopw [9, 10, 28] (fun st v i wr => ∃ k : Nat, k ≤ P.length ∧ i = .int .i64 k ∧ st = .bool (starV (P.take k)) ∧ (P.take k).all token = true ∧ wr.ownsRow w2.heap.size 9 1 v (lowsV (P.take k)).length (strs (lowsV (P.take k))) ∧ Below w2.heap.size w2 wr) (fun _ _ i _ => P.length - (intOf i).toNat)
    case atStart => exact ⟨0, by omega, rfl, rfl, rfl, World.ownsRow_nil _ _ _ _, Below.refl _ _⟩
    case round =>
      obtain ⟨k, hk, rfl, rfl, hall, hown, hw⟩ := hrel
      have hszr := hw.size
      have HALL : Hid ((P.take k).all token = true) := hall
      have hkl : (lowsV (P.take k)).length ≤ 20 := by
        have h1 := lows_len (P.take k)
        have h2 := List.length_take_le k P
        omega
      clear hall
      by_cases hlt : k < P.length
      · obtain ⟨g, rfl, hgB, hgs, hce⟩ := HCL.out (by omega)
        have hcell : wr.cell? ⟨g, k, none⟩ = some (.string ⟨(P[k]).toArray⟩) := by
          rw [hw.cell (p := ⟨g, k, none⟩) hgs, hce k hlt]
          exact strs_get P k hlt
        obtain ⟨u, hu⟩ : ∃ u : ByteArray, u = ⟨(P[k]).toArray⟩ := ⟨_, rfl⟩
        rw [← hu] at hcell
        have HU : Hid (u.data.toList = P[k]) := by show _ = _; rw [hu]
        have hus : u.size ≤ 1000 := by rw [← size_list, HU.out]; exact HPL.out _ (List.getElem_mem hlt)
        obtain ⟨hlo, hst⟩ := any_grow P k hlt
        have HLO : Hid (lowsV (P.take (k + 1)) = lowsV (P.take k) ++ (if (P[k] == [42]) = true then [] else [lower P[k]])) := hlo
        have HST : Hid (starV (P.take (k + 1)) = (starV (P.take k) || (P[k] == [42]))) := hst
        have hki : (k : Int) < (P.length : Int) := by omega
        have hk0 : (0 : Int) ≤ (k : Int) := by omega
        have hgr : g < wr.heap.size := by omega
        clear hce hu hlo hst
        cases htk : token u.data.toList
        · have HTK : Hid (token u.data.toList = false) := htk
          have HR : Hid (vV ls = ([], false, 3)) := by
            show _ = _
            rw [HVN.out, if_neg]
            intro h
            have := List.all_eq_true.1 h _ (List.getElem_mem hlt)
            rw [← HU.out, htk] at this
            cases this
          have HB3 : Hid (Below w.heap.size w wr) := HW2.out.trans (hw.mono hsz)
          clear htk
          go_wp2_with fail
          refine (isToken_any u _ (by unfold maxLen; omega)).mono ?_
          rintro e w' ⟨rfl, rfl⟩
          rw [HTK.out]
          clear hown
          go_wp2_with fail
          go_ret3
          exact ⟨.slice none 0 0, by rw [HR.out]; rfl, by rw [HR.out]; exact World.ownsRow_nil _ _ _ _, HB3.out⟩
        · have HTK : Hid (token u.data.toList = true) := htk
          have HAN : Hid ((P.take (k + 1)).all token = true) := by
            show _ = _
            rw [take_one P k hlt, List.all_append, HALL.out, ← HU.out]
            simp [htk]
          clear htk
          cases hse : (u.toList == [42])
          · have hne : (P[k] == [42]) = false := by rw [← HU.out, ← ByteArray.toList_eq]; exact hse
            have HLN : Hid (lowsV (P.take (k + 1)) = lowsV (P.take k) ++ [lower u.data.toList]) := by show _ = _; rw [HLO.out, hne, HU.out]; rfl
            have HSN : Hid (starV (P.take (k + 1)) = starV (P.take k)) := by show _ = _; rw [HST.out, hne]; simp
            obtain ⟨u', hu'⟩ : ∃ u' : ByteArray, u'.data.toList = lower u.data.toList := ⟨⟨(lower u.data.toList).toArray⟩, rfl⟩
            have HU' : Hid (u'.data.toList = lower u.data.toList) := hu'
            clear hne hu'
            go_wp2_with fail
            refine (isToken_any u _ (by unfold maxLen; omega)).mono ?_
            rintro e w' ⟨rfl, rfl⟩
            rw [HTK.out]
            clear hcell
            go_wp2_with fail
            refine (lower_at u u' HU'.out _ (by omega)).mono ?_
            rintro e w4 ⟨rfl, hb4⟩
            have hown4 := own_below2 hown hb4
            have hw4 := hw.trans (hb4.mono hw.size)
            have hsz4 := hw4.size
            clear hown hb4
            go_wp2_with (at_builtin; refine wpList_append_own _ rfl _ _ 23 rfl w2.heap.size 9 i0 (.string ⟨#[]⟩) 1 16 Tryd.underlying23 hi hz0 hz1 hz2 rfl (by decide) _ _ _ rfl (hown4.alloc _) ⟨w4.heap.size, 0, none⟩ 1 1 [.string u'] rfl rfl ?c1 ?c2 ?c3 ?c4 ?c5 ?_)
            case c1 => exact one_cell _ _ _
            case c2 => intro x hx; simp at hx; subst hx; rfl
            case c3 => unfold maxLen; omega
            case c4 => omega
            case c5 => simp; omega
            · intro v' w5 hown' hgrow _
              have hB : Below w2.heap.size w2 w5 := (hw4.alloc (by omega) _).grown hgrow (by simp; omega) (fun b hb => ((hown4.alloc (.cells #[.string u'] 9)).lt b hb).1)
              have hown5 : w5.ownsRow w2.heap.size 9 1 v' (lowsV (P.take (k + 1))).length (strs (lowsV (P.take (k + 1)))) := by
                rw [HLN.out, ← strs_snoc, List.length_append, ← HU'.out]; exact hown'
              clear hown' hgrow hown4 hw4
              go_wp2_with fail
              go_roundw
              case rel => exact ⟨k + 1, by omega, by go_num, by rw [HSN.out], HAN.out, hown5, hB⟩
              case measure => simp [intOf]; omega
          · have heq : (P[k] == [42]) = true := by rw [← HU.out, ← ByteArray.toList_eq]; exact hse
            have HLN : Hid (lowsV (P.take (k + 1)) = lowsV (P.take k)) := by show _ = _; rw [HLO.out, heq]; simp
            have HSN : Hid (starV (P.take (k + 1)) = true) := by show _ = _; rw [HST.out, heq]; simp
            clear heq
            go_wp2_with fail
            refine (isToken_any u _ (by unfold maxLen; omega)).mono ?_
            rintro e w' ⟨rfl, rfl⟩
            rw [HTK.out]
            clear hcell
            go_wp2_with fail
            go_roundw
            case rel => exact ⟨k + 1, by omega, by go_num, by rw [HSN.out], HAN.out, by rw [HLN.out]; exact hown, hw⟩
            case measure => simp [intOf]; omega
      · obtain rfl : k = P.length := by omega
        rw [List.take_length] at hown hkl
        have HR : Hid (vV ls = (nmsV P, starV P, 0)) := by
          show _ = _
          have := HALL.out
          rw [List.take_length] at this
          rw [HVN.out, if_pos this]
        have HSR : Hid (starV (P.take P.length) = starV P) := by show _ = _; rw [List.take_length]
        go_wp2_with fail
        refine (ssort_any _ (lowsV P) _ w2.heap.size rfl (by omega) _ hown).mono ?_
        rintro e w3 ⟨rfl, hown3, hb3, hs3⟩
        have hw3 := hw.trans hb3
        clear hown hb3
        go_wp2_with fail
        refine (scompact_any _ _ _ w2.heap.size (List.length_mergeSort _).symm (by omega) _ hown3).mono ?_
        rintro e w4 ⟨v4, rfl, hown4, hb4, hs4⟩
        have hw4 := hw3.trans hb4
        have HO : Hid (w4.ownsRow w2.heap.size 9 1 v4 (nmsV P).length (strs (nmsV P))) := hown4
        have HB4 : Hid (Below w.heap.size w w4) := HW2.out.trans (hw4.mono hsz)
        clear hown4 hb4 hown3 hw3 hw4
        go_wp2_with fail
        go_ret3
        exact ⟨v4, by rw [HR.out]; rfl, by rw [HR.out]; exact ownsRow_le' HO.out hsz, HB4.out⟩
  · have hcb : (c == 0) = false := beq_eq_false_iff_ne.2 hc
    have HR : Hid (vV ls = ([], false, c)) := by
      show _ = _
      rw [HV.out]
      unfold vN
      rw [HP.out]
      simp [hc]
    go_wp2_with fail
    go_ret3
    exact ⟨.slice none 0 0, by rw [HR.out]; rfl, by rw [HR.out]; exact World.ownsRow_nil _ _ _ _, HW2.out⟩
end Go.Proofs.YteifheoomodplaaDoor

/-
  What Lower of the document's answers computes: the letters A to Z as a to z; the string fits in the memory that Go's limits allow.
-/
namespace Go.Proofs.YteifheoomodplaaDoor
open Go.RowKit

theorem idx_great (c : UInt8) : (if 65 ≤ c && c ≤ 90 then (c.toNat : Int) - 65 else -1) = Lib.indexByte [65, 66, 67, 68, 69, 70, 71, 72, 73, 74, 75, 76, 77, 78, 79, 80, 81, 82, 83, 84, 85, 86, 87, 88, 89, 90] c := by
  have := byAll (fun c => decide ((if 65 ≤ c && c ≤ 90 then (c.toNat : Int) - 65 else -1) = Lib.indexByte [65, 66, 67, 68, 69, 70, 71, 72, 73, 74, 75, 76, 77, 78, 79, 80, 81, 82, 83, 84, 85, 86, 87, 88, 89, 90] c)) (by decide +kernel) c
  exact of_decide_eq_true this
theorem idx_yes (c : UInt8) (h : 65 ≤ (c.toNat : Int)) (h' : (c.toNat : Int) ≤ 90) : Lib.indexByte [65, 66, 67, 68, 69, 70, 71, 72, 73, 74, 75, 76, 77, 78, 79, 80, 81, 82, 83, 84, 85, 86, 87, 88, 89, 90] c = ((c.toNat - 65 : Nat) : Int) := by
  rw [← idx_great, if_pos (by simp [UInt8.le_iff_toNat_le]; omega)]; omega
theorem idx_no (c : UInt8) (h : (c.toNat : Int) < 65 ∨ 90 < (c.toNat : Int)) : Lib.indexByte [65, 66, 67, 68, 69, 70, 71, 72, 73, 74, 75, 76, 77, 78, 79, 80, 81, 82, 83, 84, 85, 86, 87, 88, 89, 90] c = -1 := by
  rw [← idx_great, if_neg (by simp [UInt8.le_iff_toNat_le]; omega)]

theorem u8_back (c : UInt8) : ((c.toNat : Int)).toNat.toUInt8 = c := by simp

theorem great_yes (c : UInt8) (n : Nat) (hn : (c.toNat : Int) = n + 65) (hn' : n < 26) (w : World) :
    Calls Tryd.prog 49 #[.string ⟨#[65, 66, 67, 68, 69, 70, 71, 72, 73, 74, 75, 76, 77, 78, 79, 80, 81, 82, 83, 84, 85, 86, 87, 88, 89, 90]⟩, .int .u8 (c.toNat : Int)] w fun e w' => e = .returned (.int .i64 (n : Int)) ∧ w' = w := by
  refine (Tryd.strings_IndexByte _ _ _).mono ?_
  rintro e w' ⟨rfl, rfl⟩
  refine ⟨?_, rfl⟩
  rw [u8_back]
  have h := idx_yes c (by omega) (by omega)
  have e : c.toNat - 65 = n := by omega
  rw [e] at h
  exact congrArg (fun x => Ending.returned (.int .i64 x)) h

theorem great_no (c : UInt8) (h : (c.toNat : Int) < 65 ∨ 90 < (c.toNat : Int)) (w : World) :
    Calls Tryd.prog 49 #[.string ⟨#[65, 66, 67, 68, 69, 70, 71, 72, 73, 74, 75, 76, 77, 78, 79, 80, 81, 82, 83, 84, 85, 86, 87, 88, 89, 90]⟩, .int .u8 (c.toNat : Int)] w fun e w' => e = .returned (.int .i64 (-1)) ∧ w' = w := by
  refine (Tryd.strings_IndexByte _ _ _).mono ?_
  rintro e w' ⟨rfl, rfl⟩
  refine ⟨?_, rfl⟩
  rw [u8_back]
  exact congrArg (fun x => Ending.returned (.int .i64 x)) (idx_no c h)

theorem app_list1 (l : List UInt8) (c : UInt8) : (⟨l.toArray⟩ : ByteArray) ++ ⟨#[c]⟩ = ⟨(l ++ [c]).toArray⟩ := by
  rw [ByteArray.mk_append_mk]

theorem small_at (c : UInt8) (n : Nat) (hn : (c.toNat : Int) = n + 65) (hn' : n < 26) : (⟨#[97, 98, 99, 100, 101, 102, 103, 104, 105, 106, 107, 108, 109, 110, 111, 112, 113, 114, 115, 116, 117, 118, 119, 120, 121, 122]⟩ : ByteArray).extract n (n + 1) = ⟨#[low c]⟩ := by
  rw [extract_one _ n (by exact hn')]
  have h : ∀ m : Fin 26, (#[97, 98, 99, 100, 101, 102, 103, 104, 105, 106, 107, 108, 109, 110, 111, 112, 113, 114, 115, 116, 117, 118, 119, 120, 121, 122] : Array UInt8)[m.val]'(by exact m.isLt) = low (UInt8.ofNat (m.val + 65)) := by decide +kernel
  have e : UInt8.ofNat (n + 65) = c := by
    apply UInt8.toNat.inj
    rw [UInt8.toNat_ofNat']
    omega
  have h' := h ⟨n, hn'⟩
  simp only [e] at h'
  exact congrArg (fun x => (⟨#[x]⟩ : ByteArray)) h'

theorem lower_step (s : ByteArray) (k : Nat) (h : k < s.size) : (⟨(lower (s.data.toList.take k)).toArray⟩ : ByteArray) ++ ⟨#[low s[k]]⟩ = ⟨(lower (s.data.toList.take (k + 1))).toArray⟩ := by
  rw [app_list1, take_snoc s k h, lower_snoc]

theorem lower_len (s : ByteArray) (k : Nat) (h : k ≤ s.size) : (⟨(lower (s.data.toList.take k)).toArray⟩ : ByteArray).size = k := by
  rw [← size_list]; simp [lower]
  have := size_list s
  simp at this
  omega

set_option maxHeartbeats 1000000 in
set_option maxRecDepth 100000 in
theorem rlower_any (s : ByteArray) (w : World) (hs : s.size ≤ 140737488351232) :
    Calls Tryd.prog 24 #[.string s] w fun e w' => e = .returned (.string ⟨(lower s.data.toList).toArray⟩) ∧ w' = w := by
  go_enter Tryd.func24, Tryd.ntmps24
  go_wp2_with fail
  go_loop [3, 8] (fun o i => ∃ k : Nat, ∃ t : ByteArray, k ≤ s.size ∧ i = .int .i64 k ∧ o = .string t ∧ t = ⟨(lower (s.data.toList.take k)).toArray⟩) (fun _ i => s.size - (intOf i).toNat)
  case atStart => exact ⟨0, _, Nat.zero_le _, rfl, rfl, rfl⟩
  case round =>
    obtain ⟨k, t, hk, rfl, rfl, ht⟩ := hrel
    have htl : t.size = k := by rw [ht]; exact lower_len s k hk
    have HT : Hid (t = ⟨(lower (s.data.toList.take k)).toArray⟩) := ht
    have hts : t.size ≤ 140737488351232 := by omega
    clear ht htl
    by_cases hlt : k < s.size
    · rcases (show (s[k].toNat : Int) < 65 ∨ (65 ≤ (s[k].toNat : Int) ∧ (s[k].toNat : Int) ≤ 90) ∨ 91 ≤ (s[k].toNat : Int) from by omega) with h | ⟨h, h'⟩ | h
      · go_wp2_with fail
        refine (great_no _ (by omega) _).mono ?_
        rintro e w' ⟨rfl, rfl⟩
        go_wp2_with fail
        go_round
        case rel => exact ⟨k + 1, _, by omega, by go_num, rfl, by rw [HT.out, extract_one s k hlt, ← lower_step s k hlt, low_no s[k] (by omega)]⟩
        case measure => simp [intOf]; omega
      · obtain ⟨n, hn⟩ : ∃ n : Nat, (s[k].toNat : Int) = n + 65 := ⟨s[k].toNat - 65, by omega⟩
        have hn' : n < 26 := by omega
        have HN : Hid ((s[k].toNat : Int) = n + 65) := hn
        clear hn
        go_wp2_with fail
        refine (great_yes _ n HN.out hn' _).mono ?_
        rintro e w' ⟨rfl, rfl⟩
        go_wp2_with fail
        go_round
        case rel => exact ⟨k + 1, _, by omega, by go_num, rfl, by rw [HT.out, small_at s[k] n HN.out hn', ← lower_step s k hlt]⟩
        case measure => simp [intOf]; omega
      · go_wp2_with fail
        refine (great_no _ (by omega) _).mono ?_
        rintro e w' ⟨rfl, rfl⟩
        go_wp2_with fail
        go_round
        case rel => exact ⟨k + 1, _, by omega, by go_num, rfl, by rw [HT.out, extract_one s k hlt, ← lower_step s k hlt, low_no s[k] (by omega)]⟩
        case measure => simp [intOf]; omega
    · obtain rfl : k = s.size := by omega
      go_wp2_with fail
      go_ret
      exact ⟨ret_str (by rw [HT.out, take_all]), rfl⟩
end Go.Proofs.YteifheoomodplaaDoor

/-
  What Get of the document's answers computes; lists and texts are no longer than Go allows, and the values, with what stands between them, fit in 2^47 bytes.
-/
namespace Go.Proofs.YteifheoomodplaaDoor
open Go.RowKit

theorem rlower_at (s t : ByteArray) (h : t.data.toList = lower s.data.toList) (w : World) (hs : s.size ≤ 140737488351232) :
    Calls Tryd.prog 24 #[.string s] w fun e w' => e = .returned (.string t) ∧ w' = w := by
  refine (rlower_any s w hs).mono ?_
  rintro e w' ⟨rfl, hb⟩
  refine ⟨ret_str ?_, hb⟩
  apply ByteArray.ext; apply Array.ext'; exact h.symm
theorem nm_is (n s t1 t2 : ByteArray) (u : List UInt8) (h1 : t1.data.toList = lower n.data.toList) (h2 : t2.data.toList = lower s.data.toList) : nm s.data.toList (n.data.toList, u) = (t1.toList == t2.toList) := by
  rw [ByteArray.toList_eq, ByteArray.toList_eq, h1, h2]; rfl
theorem ret_sb' {a b : ByteArray} {c d : Bool} (h : a = b) (h' : c = d) : Ending.returned (.tuple #[.string a, .bool c]) = .returned (.tuple #[.string b, .bool d]) := by rw [h, h']
theorem ba_two (a b : ByteArray) (l : List UInt8) (h : a.data.toList ++ b.data.toList = l) : a ++ b = ⟨l.toArray⟩ := by
  apply ByteArray.ext; apply Array.ext'
  rw [ByteArray.data_append, Array.toList_append, h]

set_option maxHeartbeats 4000000 in
set_option maxRecDepth 100000 in
theorem rget_at (v : Value) (ls : List Fld) (s t : ByteArray) (b : Bool) (ht : t.data.toList = jn (vals ls s.data.toList)) (hb : b = !(vals ls s.data.toList).isEmpty) (w : World) (hf : Fl w v ls) (hbk : bulkF ls ≤ 1048576) (hs : s.size ≤ 140737488351232) :
    Calls Tryd.prog 21 #[v, .string s] w fun e w' => e = .returned (.tuple #[.string t, .bool b]) ∧ Below w.heap.size w w' := by
  obtain ⟨ad, cap, hv, hcap, hcm, hc⟩ := hf
  subst hv
  have HC : Hid (0 < ls.length → ∃ g off, ad = some ⟨g, off, none⟩ ∧ g < w.heap.size ∧
    ∀ (k : Nat) (h : k < ls.length), w.cell? ⟨g, off + k * 2, none⟩ = some (.string ⟨(ls[k]).1.toArray⟩) ∧ w.cell? ⟨g, off + k * 2 + 1, none⟩ = some (.string ⟨(ls[k]).2.toArray⟩)) := hc
  have HT : Hid (t.data.toList = jn (vals ls s.data.toList)) := ht
  have HB : Hid (b = !(vals ls s.data.toList).isEmpty) := hb
  have HBK : Hid (bulkF ls ≤ 1048576) := hbk
  have hbl := bulk_len ls
  obtain ⟨t2, ht2⟩ : ∃ t2 : ByteArray, t2.data.toList = lower s.data.toList := ⟨⟨(lower s.data.toList).toArray⟩, rfl⟩
  have HT2 : Hid (t2.data.toList = lower s.data.toList) := ht2
  clear hc ht hb hbk ht2
  unfold maxLen at hcm
  go_enter Tryd.func21, Tryd.ntmps21
  go_wp2_with fail
  go_loopw [6, 7, 12] (fun o q i wr => ∃ (k : Nat) (r : ByteArray) (c : Bool), k ≤ ls.length ∧ i = .int .i64 k ∧ o = .string r ∧ q = .bool c ∧ r.data.toList = jn (vals (ls.take k) s.data.toList) ∧ c = !(vals (ls.take k) s.data.toList).isEmpty ∧ Below w.heap.size w wr) (fun _ _ i _ => ls.length - (intOf i).toNat)
  case atStart => exact ⟨0, ⟨#[]⟩, false, Nat.zero_le _, rfl, rfl, rfl, rfl, rfl, Below.refl _ _⟩
  case round =>
    obtain ⟨k, r, c, hk, rfl, rfl, rfl, hr, hcc, hw⟩ := hrel
    have hsz := hw.size
    have hrs : r.size ≤ 1048576 := by
      rw [← size_list, hr]
      have h1 := jn_bulk (ls.take k) s.data.toList
      have h2 : bulkF (ls.take k) ≤ bulkF ls := by
        have : bulkF ls = bulkF (ls.take k ++ ls.drop k) := by rw [List.take_append_drop]
        rw [this, bulkF_app]; omega
      have := HBK.out
      omega
    have HR : Hid (r.data.toList = jn (vals (ls.take k) s.data.toList)) := hr
    have HCC : Hid (c = !(vals (ls.take k) s.data.toList).isEmpty) := hcc
    clear hr hcc
    by_cases hlt : k < ls.length
    · obtain ⟨g, off, rfl, hgs, hce⟩ := HC.out (by omega)
      obtain ⟨c1, c2⟩ := hce k hlt
      have hmo := bulk_most ls ls[k] (List.getElem_mem hlt)
      have hbk := HBK.out
      obtain ⟨n, hn⟩ : ∃ n : ByteArray, n = ⟨(ls[k]).1.toArray⟩ := ⟨_, rfl⟩
      obtain ⟨u, hu⟩ : ∃ u : ByteArray, u = ⟨(ls[k]).2.toArray⟩ := ⟨_, rfl⟩
      have hns : n.size ≤ 1048576 := by rw [← size_list, hn]; exact Nat.le_trans hmo.1 hbk
      have hus : u.size ≤ 1048576 := by rw [← size_list, hu]; exact Nat.le_trans hmo.2 hbk
      have HE : Hid ((n.data.toList, u.data.toList) = ls[k]) := by show _ = _; rw [hn, hu]
      have HV := vals_take ls s.data.toList k hlt
      rw [← HE.out] at HV
      obtain ⟨t1, ht1⟩ : ∃ t1 : ByteArray, t1.data.toList = lower n.data.toList := ⟨⟨(lower n.data.toList).toArray⟩, rfl⟩
      have HT1 : Hid (t1.data.toList = lower n.data.toList) := ht1
      have HNM := nm_is n s t1 t2 u.data.toList ht1 HT2.out
      have d1 : wr.cell? ⟨g, off + k * 2, none⟩ = some (.string n) := by rw [hw.cell (p := ⟨g, off + k * 2, none⟩) hgs, hn]; exact c1
      have d2 : wr.cell? ⟨g, off + k * 2 + 1, none⟩ = some (.string u) := by rw [hw.cell (p := ⟨g, off + k * 2 + 1, none⟩) hgs, hu]; exact c2
      have hgr : g < wr.heap.size := by omega
      clear hce c1 c2 hmo hn hu ht1 hbk
      have hki : (k : Int) < (ls.length : Int) := by omega
      have hk0 : (0 : Int) ≤ (k : Int) := by omega
      cases hq : (t1.toList == t2.toList)
      · rw [HNM, hq] at HV
        have HV2 : Hid (vals (ls.take (k + 1)) s.data.toList = vals (ls.take k) s.data.toList) := by show _ = _; rw [HV]; simp
        clear HV HNM
        go_wp2_with fail
        refine (rlower_at n t1 HT1.out _ (by omega)).mono ?_
        rintro e w1 ⟨rfl, rfl⟩
        go_wp2_with fail
        refine (rlower_at s t2 HT2.out _ hs).mono ?_
        rintro e w2 ⟨rfl, rfl⟩
        go_wp2_with fail
        go_roundw
        case rel => exact ⟨k + 1, r, c, by omega, by go_num, rfl, rfl, by rw [HV2.out]; exact HR.out, by rw [HV2.out]; exact HCC.out, hw.alloc hsz _⟩
        case measure => simp [intOf]; omega
      · rw [HNM, hq] at HV
        have HV2 : Hid (vals (ls.take (k + 1)) s.data.toList = vals (ls.take k) s.data.toList ++ [u.data.toList]) := by show _ = _; rw [HV]; simp
        clear HV HNM
        cases c
        · have HX : Hid (vals (ls.take k) s.data.toList = []) := by
            have := HCC.out
            show _ = _
            simpa using this
          have HRE : Hid (r = ⟨#[]⟩) := by
            show _ = _
            apply ByteArray.ext; apply Array.ext'
            rw [HR.out, HX.out]; rfl
          have HN : Hid ((r ++ u).data.toList = jn (vals (ls.take (k + 1)) s.data.toList)) := by
            show _ = _
            rw [HV2.out, jn_snoc, if_pos HX.out, HRE.out, ByteArray.data_append, Array.toList_append]; rfl
          have HN2 : Hid (true = !(vals (ls.take (k + 1)) s.data.toList).isEmpty) := by show _ = _; rw [HV2.out]; simp
          go_wp2_with fail
          refine (rlower_at n t1 HT1.out _ (by omega)).mono ?_
          rintro e w1 ⟨rfl, rfl⟩
          go_wp2_with fail
          refine (rlower_at s t2 HT2.out _ hs).mono ?_
          rintro e w2 ⟨rfl, rfl⟩
          go_wp2_with fail
          go_roundw
          case rel => exact ⟨k + 1, r ++ u, true, by omega, by go_num, rfl, rfl, HN.out, HN2.out, hw.alloc hsz _⟩
          case measure => simp [intOf]; omega
        · have HX : Hid (vals (ls.take k) s.data.toList ≠ []) := by
            have := HCC.out
            show _ ≠ _
            intro e
            rw [e] at this
            simp at this
          have HN : Hid ((r ++ ⟨#[44, 32]⟩ ++ u).data.toList = jn (vals (ls.take (k + 1)) s.data.toList)) := by
            show _ = _
            rw [HV2.out, jn_snoc, if_neg HX.out, ByteArray.data_append, Array.toList_append, ByteArray.data_append, Array.toList_append, HR.out]
          have HN2 : Hid (true = !(vals (ls.take (k + 1)) s.data.toList).isEmpty) := by show _ = _; rw [HV2.out]; simp
          go_wp2_with fail
          refine (rlower_at n t1 HT1.out _ (by omega)).mono ?_
          rintro e w1 ⟨rfl, rfl⟩
          go_wp2_with fail
          refine (rlower_at s t2 HT2.out _ hs).mono ?_
          rintro e w2 ⟨rfl, rfl⟩
          go_wp2_with fail
          go_roundw
          case rel => exact ⟨k + 1, r ++ ⟨#[44, 32]⟩ ++ u, true, by omega, by go_num, rfl, rfl, HN.out, HN2.out, hw.alloc hsz _⟩
          case measure => simp [intOf]; omega
    · have HEnd : Hid (ls.take k = ls) := List.take_of_length_le (by omega)
      go_wp2_with fail
      go_ret2
      refine ⟨ret_sb' ?_ (by rw [HB.out, HCC.out, HEnd.out]), hw⟩
      apply ByteArray.ext; apply Array.ext'
      rw [HT.out, HR.out, HEnd.out]
end Go.Proofs.YteifheoomodplaaDoor

/-
  What Trim of the document's answers computes, by recursion on the text's length; a text is no longer than Go allows.
-/
namespace Go.Proofs.YteifheoomodplaaDoor
open Go.RowKit

theorem drop_data (s : ByteArray) : (s.extract 1 s.size).data.toList = s.data.toList.drop 1 := by
  rw [Lib.extract_data, List.take_of_length_le (by rw [List.length_drop, size_list]; omega)]
theorem take_data (s : ByteArray) : (s.extract 0 (s.size - 1)).data.toList = s.data.toList.take (s.data.toList.length - 1) := by
  rw [Lib.extract_data, List.drop_zero, size_list]; rfl

set_option maxHeartbeats 2000000 in
set_option maxRecDepth 100000 in
theorem rtrim_at (n : Nat) : ∀ (s t : ByteArray) (w : World), s.size ≤ n → n ≤ 9223372036854775807 → t.data.toList = trimL s.data.toList →
    Calls Tryd.prog 74 #[.string s] w fun e w' => e = .returned (.string t) ∧ Below w.heap.size w w' := by
  induction n using Nat.strongRecOn with
  | _ n ih =>
    intro s t w hn hN ht
    have IH : Hid (∀ m, m < n → ∀ (s t : ByteArray) (w : World), s.size ≤ m → m ≤ 9223372036854775807 → t.data.toList = trimL s.data.toList → Calls Tryd.prog 74 #[.string s] w fun e w' => e = .returned (.string t) ∧ Below w.heap.size w w') :=
      ih
    clear ih
    have HT : Hid (t.data.toList = trimL s.data.toList) := ht
    clear ht
    go_enter Tryd.func74, Tryd.ntmps74
    go_wp2_with fail
    go_loop [7] (fun i => ∃ k : Nat, k ≤ 2 ∧ i = .int .i64 k ∧ (1 ≤ k → Lib.hasPrefix s.data.toList [32] = false ∧ Lib.hasSuffix s.data.toList [32] = false) ∧ (2 ≤ k → Lib.hasPrefix s.data.toList [9] = false ∧ Lib.hasSuffix s.data.toList [9] = false)) (fun i => 2 - (intOf i).toNat)
    case atStart => exact ⟨0, by omega, rfl, fun h => absurd h (by omega), fun h => absurd h (by omega)⟩
    case round =>
      obtain ⟨k, hk, rfl, h1, h2⟩ := hrel
      have HH1 : Hid (1 ≤ k → Lib.hasPrefix s.data.toList [32] = false ∧ Lib.hasSuffix s.data.toList [32] = false) := h1
      have HH2 : Hid (2 ≤ k → Lib.hasPrefix s.data.toList [9] = false ∧ Lib.hasSuffix s.data.toList [9] = false) := h2
      clear h1 h2
      rcases (show k = 0 ∨ k = 1 ∨ k = 2 from by omega) with rfl | rfl | rfl
      · cases hp : Lib.hasPrefix s.data.toList [32]
        · cases hq : Lib.hasSuffix s.data.toList [32]
          · have HP : Hid (Lib.hasPrefix s.data.toList [32] = false) := hp
            have HQ : Hid (Lib.hasSuffix s.data.toList [32] = false) := hq
            clear hp hq
            go_wp2_with fail
            refine (Tryd.strings_HasPrefix s ⟨#[32]⟩ _).mono ?_
            rintro e w1 ⟨rfl, rfl⟩
            rw [show Lib.hasPrefix s.data.toList (⟨#[32]⟩ : ByteArray).data.toList = false from HP.out]
            go_wp2_with fail
            refine (Tryd.strings_HasSuffix s ⟨#[32]⟩ _ (by omega)).mono ?_
            rintro e w1 ⟨rfl, rfl⟩
            rw [show Lib.hasSuffix s.data.toList (⟨#[32]⟩ : ByteArray).data.toList = false from HQ.out]
            go_wp2_with fail
            go_round
            case rel => exact ⟨1, by omega, rfl, fun _ => by first | exact ⟨HP.out, HQ.out⟩ | simp, fun h => absurd h (by omega)⟩
            case measure => simp [intOf]
          · obtain ⟨e1, e2⟩ := trimL_suf _ 32 rfl hq
            rw [size_list] at e2
            have HP : Hid (Lib.hasPrefix s.data.toList [32] = false) := hp
            have HQ : Hid (Lib.hasSuffix s.data.toList [32] = true) := hq
            have HR : Hid (t.data.toList = trimL (s.extract 0 (s.size - 1)).data.toList) := by show _ = _; rw [take_data, e1]; exact HT.out
            have hz : (s.extract 0 (s.size - 1)).size ≤ n - 1 := by rw [ByteArray.size_extract]; omega
            clear hp hq e1
            go_wp2_with fail
            refine (Tryd.strings_HasPrefix s ⟨#[32]⟩ _).mono ?_
            rintro e w1 ⟨rfl, rfl⟩
            rw [show Lib.hasPrefix s.data.toList (⟨#[32]⟩ : ByteArray).data.toList = false from HP.out]
            go_wp2_with fail
            refine (Tryd.strings_HasSuffix s ⟨#[32]⟩ _ (by omega)).mono ?_
            rintro e w1 ⟨rfl, rfl⟩
            rw [show Lib.hasSuffix s.data.toList (⟨#[32]⟩ : ByteArray).data.toList = true from HQ.out]
            go_wp2_with fail
            refine (IH.out (n - 1) (by omega) _ t _ hz (by omega) HR.out).mono ?_
            rintro e w2 ⟨rfl, hb⟩
            go_wp2_with fail
            go_ret
            exact ⟨rfl, ((Below.refl _ w).alloc (Nat.le_refl _) _).trans (hb.mono (by simp))⟩
        · obtain ⟨e1, e2⟩ := trimL_pre _ 32 rfl hp
          rw [size_list] at e2
          have HP : Hid (Lib.hasPrefix s.data.toList [32] = true) := hp
          have HR : Hid (t.data.toList = trimL (s.extract 1 s.size).data.toList) := by show _ = _; rw [drop_data, e1]; exact HT.out
          have hz : (s.extract 1 s.size).size ≤ n - 1 := by rw [ByteArray.size_extract]; omega
          clear hp e1
          go_wp2_with fail
          refine (Tryd.strings_HasPrefix s ⟨#[32]⟩ _).mono ?_
          rintro e w1 ⟨rfl, rfl⟩
          rw [show Lib.hasPrefix s.data.toList (⟨#[32]⟩ : ByteArray).data.toList = true from HP.out]
          go_wp2_with fail
          refine (IH.out (n - 1) (by omega) _ t _ hz (by omega) HR.out).mono ?_
          rintro e w2 ⟨rfl, hb⟩
          go_wp2_with fail
          go_ret
          exact ⟨rfl, ((Below.refl _ w).alloc (Nat.le_refl _) _).trans (hb.mono (by simp))⟩
      · cases hp : Lib.hasPrefix s.data.toList [9]
        · cases hq : Lib.hasSuffix s.data.toList [9]
          · have HP : Hid (Lib.hasPrefix s.data.toList [9] = false) := hp
            have HQ : Hid (Lib.hasSuffix s.data.toList [9] = false) := hq
            clear hp hq
            go_wp2_with fail
            refine (Tryd.strings_HasPrefix s ⟨#[9]⟩ _).mono ?_
            rintro e w1 ⟨rfl, rfl⟩
            rw [show Lib.hasPrefix s.data.toList (⟨#[9]⟩ : ByteArray).data.toList = false from HP.out]
            go_wp2_with fail
            refine (Tryd.strings_HasSuffix s ⟨#[9]⟩ _ (by omega)).mono ?_
            rintro e w1 ⟨rfl, rfl⟩
            rw [show Lib.hasSuffix s.data.toList (⟨#[9]⟩ : ByteArray).data.toList = false from HQ.out]
            go_wp2_with fail
            go_round
            case rel => exact ⟨2, by omega, rfl, fun _ => HH1.out (by omega), fun _ => by first | exact ⟨HP.out, HQ.out⟩ | simp⟩
            case measure => simp [intOf]
          · obtain ⟨e1, e2⟩ := trimL_suf _ 9 rfl hq
            rw [size_list] at e2
            have HP : Hid (Lib.hasPrefix s.data.toList [9] = false) := hp
            have HQ : Hid (Lib.hasSuffix s.data.toList [9] = true) := hq
            have HR : Hid (t.data.toList = trimL (s.extract 0 (s.size - 1)).data.toList) := by show _ = _; rw [take_data, e1]; exact HT.out
            have hz : (s.extract 0 (s.size - 1)).size ≤ n - 1 := by rw [ByteArray.size_extract]; omega
            clear hp hq e1
            go_wp2_with fail
            refine (Tryd.strings_HasPrefix s ⟨#[9]⟩ _).mono ?_
            rintro e w1 ⟨rfl, rfl⟩
            rw [show Lib.hasPrefix s.data.toList (⟨#[9]⟩ : ByteArray).data.toList = false from HP.out]
            go_wp2_with fail
            refine (Tryd.strings_HasSuffix s ⟨#[9]⟩ _ (by omega)).mono ?_
            rintro e w1 ⟨rfl, rfl⟩
            rw [show Lib.hasSuffix s.data.toList (⟨#[9]⟩ : ByteArray).data.toList = true from HQ.out]
            go_wp2_with fail
            refine (IH.out (n - 1) (by omega) _ t _ hz (by omega) HR.out).mono ?_
            rintro e w2 ⟨rfl, hb⟩
            go_wp2_with fail
            go_ret
            exact ⟨rfl, ((Below.refl _ w).alloc (Nat.le_refl _) _).trans (hb.mono (by simp))⟩
        · obtain ⟨e1, e2⟩ := trimL_pre _ 9 rfl hp
          rw [size_list] at e2
          have HP : Hid (Lib.hasPrefix s.data.toList [9] = true) := hp
          have HR : Hid (t.data.toList = trimL (s.extract 1 s.size).data.toList) := by show _ = _; rw [drop_data, e1]; exact HT.out
          have hz : (s.extract 1 s.size).size ≤ n - 1 := by rw [ByteArray.size_extract]; omega
          clear hp e1
          go_wp2_with fail
          refine (Tryd.strings_HasPrefix s ⟨#[9]⟩ _).mono ?_
          rintro e w1 ⟨rfl, rfl⟩
          rw [show Lib.hasPrefix s.data.toList (⟨#[9]⟩ : ByteArray).data.toList = true from HP.out]
          go_wp2_with fail
          refine (IH.out (n - 1) (by omega) _ t _ hz (by omega) HR.out).mono ?_
          rintro e w2 ⟨rfl, hb⟩
          go_wp2_with fail
          go_ret
          exact ⟨rfl, ((Below.refl _ w).alloc (Nat.le_refl _) _).trans (hb.mono (by simp))⟩
      · go_wp2_with fail
        go_ret
        obtain ⟨p1, p2⟩ := HH1.out (by omega)
        obtain ⟨p3, p4⟩ := HH2.out (by omega)
        refine ⟨ret_str ?_, (Below.refl _ w).alloc (Nat.le_refl _) _⟩
        apply ByteArray.ext
        apply Array.ext'
        rw [HT.out, trimL_none _ p1 p2 p3 p4]
end Go.Proofs.YteifheoomodplaaDoor

/-
  What parts of the document's answers computes: the pieces between the signs that are not within quotes, each without the blanks at its ends; the text has at most 1000 bytes.
-/
namespace Go.Proofs.YteifheoomodplaaDoor
open Go.RowKit

theorem own_form {w : World} {B : Nat} {v : Value} {n : Nat} {xs : List Value} (h : w.ownsRow B 9 1 v n xs) (hn : 0 < n) : ∃ g cap, v = .slice (some ⟨g, 0, none⟩) n cap ∧ B ≤ g ∧ g < w.heap.size ∧ n ≤ cap ∧ cap ≤ maxLen := by
  rcases h.2 with ⟨_, h0⟩ | ⟨g, cap, cur, hv, hb, hg, hnc, hcm, _, _⟩
  · omega
  · refine ⟨g, cap, hv, hb, ?_, hnc, hcm⟩
    exact (Array.getElem?_eq_some_iff.1 hg).1

theorem set_last (ps : List (List UInt8)) (cur : List UInt8) (c : UInt8) : (strs (ps ++ [cur])).set ps.length (.string ⟨(cur ++ [c]).toArray⟩) = strs (ps ++ [cur ++ [c]]) := by
  rw [← strs_snoc, ← strs_snoc, List.set_append_right _ _ (by rw [strs_length]; exact Nat.le_refl _), strs_length, Nat.sub_self]; rfl
theorem get_last (ps : List (List UInt8)) (cur : List UInt8) : (strs (ps ++ [cur]))[ps.length]? = some (.string ⟨cur.toArray⟩) := by
  rw [← strs_snoc, List.getElem?_append_right (by rw [strs_length]; exact Nat.le_refl _), strs_length, Nat.sub_self]; rfl
theorem app_cur (cur : List UInt8) (c : UInt8) : (⟨cur.toArray⟩ : ByteArray) ++ ⟨#[c]⟩ = ⟨(cur ++ [c]).toArray⟩ := by
  rw [ByteArray.mk_append_mk]
theorem cur_len (sep : UInt8) (l : List UInt8) : (cutS sep l).cur.length ≤ l.length := by
  have gen : ∀ (l : List UInt8) (x : Cut), (l.foldl (cstep sep) x).cur.length ≤ x.cur.length + l.length := by
    intro l
    induction l with
    | nil => intro x; simp
    | cons c l ih =>
      intro x
      rw [List.foldl_cons]
      have h := ih (cstep sep x c)
      have h2 : (cstep sep x c).cur.length ≤ x.cur.length + 1 := by unfold cstep; split <;> simp
      rw [List.length_cons]
      omega
  have := gen l ⟨[], [], false, false⟩
  simpa [cutS] using this
theorem one_eq (s : ByteArray) (k : Nat) (h : k < s.size) (d : UInt8) (b : Bool) (hb : decide ((s[k].toNat : Int) = (d.toNat : Int)) = b) : ((s.extract k (k + 1)).toList == [d]) = b := by
  have e : (s.extract k (k + 1)).toList = [s[k]] := by rw [extract_one s k h, ByteArray.toList_eq]
  rw [e, ← hb, Bool.eq_iff_iff]
  simp
  constructor
  · intro e; rw [e]
  · intro e; exact eq_of_int _ d (by omega)
theorem one_eq2 (s : ByteArray) (k : Nat) (h : k < s.size) (d : UInt8) (b : Bool) (hb : decide ((s[k].toNat : Int) = (d.toNat : Int)) = b) : ((s.extract k (k + 1)).toList == (⟨#[d]⟩ : ByteArray).toList) = b := by
  rw [ByteArray.toList_eq ⟨#[d]⟩]; exact one_eq s k h d b hb
theorem cstep_else' (sep : UInt8) (ps : List (List UInt8)) (cur : List UInt8) (q cn : Bool) (c : UInt8) (h1 : ¬ (c = sep ∧ q = false)) :
    cstep sep ⟨ps, cur, q, cn⟩ c = ⟨ps, cur ++ [c], if cn = true then q else if c = 34 then !q else q, if cn = true then false else if c = 34 then false else if c = 92 then q else false⟩ := by
  unfold cstep; rw [if_neg h1]

theorem own_below {w w1 : World} {B : Nat} {e : TypeId} {v : Value} {n : Nat} {xs : List Value} (h : w.ownsRow B e 1 v n xs) (hb : Below w.heap.size w w1) : w1.ownsRow B e 1 v n xs := by
  refine ⟨h.1, ?_⟩
  rcases h.2 with h0 | ⟨g, cap, cur, hv, hB, hg, h3⟩
  · exact .inl h0
  · exact .inr ⟨g, cap, cur, hv, hB, (hb.block g (Array.getElem?_eq_some_iff.1 hg).1).trans hg, h3⟩
theorem cell_block' {w : World} {a : Addr} {v : Value} (h : w.cell? a = some v) : a.block < w.heap.size := by
  rcases Nat.lt_or_ge a.block w.heap.size with h1 | h1
  · exact h1
  · exfalso
    unfold World.cell? at h
    rw [Array.getElem?_eq_none h1] at h
    simp at h
theorem cstep_sep' (sep : UInt8) (ps : List (List UInt8)) (cur : List UInt8) (cn : Bool) (c : UInt8) (hc : c = sep) : cstep sep ⟨ps, cur, false, cn⟩ c = ⟨ps ++ [cur], [], false, cn⟩ := by
  simp [cstep, hc]

/-- What the second loop has done after k rounds. -/
def half (P : List (List UInt8)) (k : Nat) : List (List UInt8) := (P.take k).map trimL ++ P.drop k
theorem half_len (P : List (List UInt8)) (k : Nat) (h : k ≤ P.length) : (half P k).length = P.length := by
  simp [half]; omega
theorem half_get (P : List (List UInt8)) (k : Nat) (h : k < P.length) : (strs (half P k))[k]? = some (.string ⟨P[k].toArray⟩) := by
  have hl : (half P k)[k]? = some P[k] := by
    unfold half
    rw [List.getElem?_append_right (by simp; omega)]
    simp [List.length_take, Nat.min_eq_left (Nat.le_of_lt h), h]
  unfold strs
  rw [List.getElem?_map, hl]; rfl
theorem half_at (P : List (List UInt8)) (k : Nat) (h : k < P.length) : half P k = (P.take k).map trimL ++ P[k] :: P.drop (k + 1) ∧ half P (k + 1) = (P.take k).map trimL ++ trimL P[k] :: P.drop (k + 1) := by
  refine ⟨by unfold half; rw [List.drop_eq_getElem_cons h], ?_⟩
  unfold half
  rw [List.take_succ_eq_append_getElem h, List.map_append, List.append_assoc]; rfl
theorem half_set (P : List (List UInt8)) (k : Nat) (h : k < P.length) : (strs (half P k)).set k (.string ⟨(trimL P[k]).toArray⟩) = strs (half P (k + 1)) := by
  obtain ⟨e1, e2⟩ := half_at P k h
  have hl : (strs ((P.take k).map trimL)).length = k := by simp [strs]; omega
  have ea : strs (half P k) = strs ((P.take k).map trimL) ++ Value.string ⟨P[k].toArray⟩ :: strs (P.drop (k + 1)) := by rw [e1]; unfold strs; rw [List.map_append, List.map_cons]
  have eb : strs (half P (k + 1)) = strs ((P.take k).map trimL) ++ Value.string ⟨(trimL P[k]).toArray⟩ :: strs (P.drop (k + 1)) := by rw [e2]; unfold strs; rw [List.map_append, List.map_cons]
  rw [ea, eb, List.set_append_right _ _ (by omega), hl, Nat.sub_self, List.set_cons_zero]
theorem half_all (P : List (List UInt8)) : half P P.length = P.map trimL := by simp [half]

set_option maxHeartbeats 4000000 in
set_option maxRecDepth 100000 in
theorem rparts_any (s : ByteArray) (sep : UInt8) (w : World) (hs : s.size ≤ 1000) :
    Calls Tryd.prog 47 #[.string s, .string ⟨#[sep]⟩] w fun e w' => ∃ v, e = .returned (.tuple #[v, .bool (ends sep s.data.toList)]) ∧
      w'.ownsRow w.heap.size 9 1 v (pieces sep s.data.toList).length (strs ((pieces sep s.data.toList).map trimL)) ∧ Below w.heap.size w w' := by
  obtain ⟨i0, hi, hz0, hz1, hz2⟩ := info_parts info9
  have hst : (w.alloc (.cells #[.string ⟨#[]⟩] 9)).ownsRow w.heap.size 9 1 (.slice (some ⟨w.heap.size, 0, none⟩) 1 1) (0 + 1) (strs ([] ++ [([] : List UInt8)])) :=
    World.ownsRow_lit w #[.string ⟨#[]⟩] 1 (Nat.le_refl _) (by unfold maxLen; omega) rfl
  go_enter Tryd.func47, Tryd.ntmps47
  go_wp2_with fail
  go_loopw [6, 7, 8, 15] (fun v qv cv i wr => ∃ (k : Nat) (ps : List (List UInt8)) (cur : List UInt8) (q cn : Bool) , k ≤ s.size ∧ i = .int .i64 k ∧ qv = .bool q ∧ cv = .bool cn ∧
      cutS sep (s.data.toList.take k) = ⟨ps, cur, q, cn⟩ ∧ wr.ownsRow w.heap.size 9 1 v (ps.length + 1) (strs (ps ++ [cur])) ∧ Below w.heap.size w wr) (fun _ _ _ i _ => s.size - (intOf i).toNat)
  case atStart => exact ⟨0, [], [], false, false, by omega, rfl, rfl, rfl, rfl, hst, (Below.refl _ w).alloc (Nat.le_refl _) _⟩
  case round =>
    obtain ⟨k, ps, cur, q, cn, hk, rfl, rfl, rfl, hcut, hown, hw⟩ := hrel
    clear hst
    have hpl : ps.length ≤ 1000 ∧ cur.length ≤ 1000 := by
      have h1 := cutS_len sep (s.data.toList.take k)
      have h1' := cur_len sep (s.data.toList.take k)
      have h2 := List.length_take_le k s.data.toList
      rw [hcut] at h1 h1'
      simp only at h1 h1'
      omega
    obtain ⟨hpl, hcl⟩ := hpl
    have hsz := hw.size
    have HC : Hid (cutS sep (s.data.toList.take k) = ⟨ps, cur, q, cn⟩) := hcut
    clear hcut
    obtain ⟨g, cap, hv, hgB, hgs, hnc, hcm⟩ := own_form hown (by omega)
    have hcell : wr.cell? ⟨g, ps.length, none⟩ = some (.string ⟨cur.toArray⟩) := by
      rw [hv] at hown
      rw [hown.cellAt ps.length (by omega)]
      exact get_last ps cur
    have hfz : wr.frozen? ⟨g, ps.length, none⟩ = false := by
      rw [hv] at hown
      exact hown.frozenAt ps.length
    obtain ⟨t, ht⟩ : ∃ t : ByteArray, t = ⟨cur.toArray⟩ := ⟨_, rfl⟩
    have hts : t.size ≤ 1000 := by rw [ht, ← size_list]; exact hcl
    rw [← ht] at hcell
    have HT : Hid (t = ⟨cur.toArray⟩) := ht
    subst hv
    unfold maxLen at hcm
    clear ht
    by_cases hlt : k < s.size
    · have hc1 : (s[k].toNat : Int) < 256 := by have := s[k].toNat_lt; omega
      have HSN : Hid (∀ x, cstep sep ⟨ps, cur, q, cn⟩ s[k] = x → cutS sep (s.data.toList.take (k + 1)) = x) := by
        intro x hx
        rw [take_snoc s k hlt, cutS_snoc, HC.out, hx]
      have HST : Hid ((wr.setCell ⟨g, ps.length, none⟩ (.string (t ++ s.extract k (k + 1)))).ownsRow w.heap.size 9 1 (.slice (some ⟨g, 0, none⟩) (ps.length + 1) cap) (ps.length + 1) (strs (ps ++ [cur ++ [s[k]]])) ∧ Below w.heap.size w (wr.setCell ⟨g, ps.length, none⟩ (.string (t ++ s.extract k (k + 1))))) := by
        refine ⟨?_, hw.setCell (p := ⟨g, ps.length, none⟩) hgB _⟩
        have h := (hown.stored ps.length (.string (t ++ s.extract k (k + 1)))).1
        have e : t ++ s.extract k (k + 1) = ⟨(cur ++ [s[k]]).toArray⟩ := by rw [HT.out, extract_one s k hlt, app_cur]
        rw [e, set_last] at h
        rw [e]
        exact h
      by_cases hsep : (s[k].toNat : Int) = (sep.toNat : Int)
      · have hd1 := one_eq s k hlt sep true (decide_eq_true hsep)
        have hd1' := one_eq2 s k hlt sep true (decide_eq_true hsep)
        have HSP : Hid (s[k] = sep) := eq_of_int _ _ hsep
        cases q
        · clear hsep
          go_wp2_with (at_builtin; refine wpList_append_own _ rfl _ _ 23 rfl w.heap.size 9 i0 (.string ⟨#[]⟩) 1 16 Tryd.underlying23 hi hz0 hz1 hz2 rfl (by decide) _ _ _ rfl (hown.alloc _) ⟨wr.heap.size, 0, none⟩ 1 1 [.string ⟨#[]⟩] rfl rfl ?c1 ?c2 ?c3 ?c4 ?c5 ?_)
          case c1 => exact one_cell _ _ _
          case c2 => intro u hu; simp at hu; subst hu; rfl
          case c3 => unfold maxLen; omega
          case c4 => omega
          case c5 => simp; omega
          · intro v' w1 hown' hgrow _
            have hB : Below w.heap.size w w1 := (hw.alloc (by omega) _).grown hgrow (by simp; omega) (fun b hb => ((hown.alloc (.cells #[.string ⟨#[]⟩] 9)).lt b hb).1)
            have hown2 : w1.ownsRow w.heap.size 9 1 v' ((ps ++ [cur]).length + 1) (strs (ps ++ [cur] ++ [[]])) := by
              rw [← strs_snoc, List.length_append]; exact hown'
            clear hown' hgrow hown hw HST
            go_wp2_with fail
            go_roundw
            case rel => exact ⟨k + 1, ps ++ [cur], [], false, cn, by omega, by go_num, rfl, rfl, HSN.out _ (cstep_sep' sep _ _ _ _ HSP.out), hown2, hB⟩
            case measure => simp [intOf]; omega
        · have HE := HSN.out _ (cstep_else' sep ps cur true cn s[k] (fun h => by cases h.2))
          have HEE : Hid (cutS sep (s.data.toList.take (k + 1)) = _) := HE
          clear HE hsep HSN hown hw
          cases cn
          · by_cases h34 : (s[k].toNat : Int) = 34
            · have hd2 := one_eq s k hlt 34 true (decide_eq_true h34)
              have H34 : Hid (s[k] = 34) := eq_of_int _ 34 h34
              clear h34
              go_wp2_with fail
              go_roundw
              case rel => exact ⟨k + 1, ps, cur ++ [s[k]], false, false, by omega, by go_num, rfl, rfl, by rw [HEE.out, H34.out]; rfl, HST.out.1, HST.out.2⟩
              case measure => simp [intOf]; omega
            · have hd2 := one_eq s k hlt 34 false (decide_eq_false h34)
              have H34 : Hid (s[k] ≠ 34) := ne_of_int _ 34 h34
              clear h34
              by_cases h92 : (s[k].toNat : Int) = 92
              · have hd3 := one_eq s k hlt 92 true (decide_eq_true h92)
                have H92 : Hid (s[k] = 92) := eq_of_int _ 92 h92
                clear h92
                go_wp2_with fail
                go_roundw
                case rel => exact ⟨k + 1, ps, cur ++ [s[k]], true, true, by omega, by go_num, rfl, rfl, by rw [HEE.out, H92.out]; rfl, HST.out.1, HST.out.2⟩
                case measure => simp [intOf]; omega
              · have hd3 := one_eq s k hlt 92 false (decide_eq_false h92)
                have H92 : Hid (s[k] ≠ 92) := ne_of_int _ 92 h92
                clear h92
                go_wp2_with fail
                go_roundw
                case rel => exact ⟨k + 1, ps, cur ++ [s[k]], true, false, by omega, by go_num, rfl, rfl, by rw [HEE.out, if_neg H34.out, if_neg H34.out, if_neg H92.out]; rfl, HST.out.1, HST.out.2⟩
                case measure => simp [intOf]; omega
          · go_wp2_with fail
            go_roundw
            case rel => exact ⟨k + 1, ps, cur ++ [s[k]], true, false, by omega, by go_num, rfl, rfl, HEE.out, HST.out.1, HST.out.2⟩
            case measure => simp [intOf]; omega
      · have hd1 := one_eq s k hlt sep false (decide_eq_false hsep)
        have hd1' := one_eq2 s k hlt sep false (decide_eq_false hsep)
        have HE := HSN.out _ (cstep_else' sep ps cur q cn s[k] (fun h => ne_of_int _ _ hsep h.1))
        have HEE : Hid (cutS sep (s.data.toList.take (k + 1)) = _) := HE
        clear HE hsep HSN hown hw
        cases cn
        · by_cases h34 : (s[k].toNat : Int) = 34
          · have hd2 := one_eq s k hlt 34 true (decide_eq_true h34)
            have H34 : Hid (s[k] = 34) := eq_of_int _ 34 h34
            clear h34
            cases q
            all_goals
              go_wp2_with fail
              go_roundw
              case rel => exact ⟨k + 1, ps, cur ++ [s[k]], _, false, by omega, by go_num, rfl, rfl, by rw [HEE.out, H34.out]; rfl, HST.out.1, HST.out.2⟩
              case measure => simp [intOf]; omega
          · have hd2 := one_eq s k hlt 34 false (decide_eq_false h34)
            have H34 : Hid (s[k] ≠ 34) := ne_of_int _ 34 h34
            clear h34
            by_cases h92 : (s[k].toNat : Int) = 92
            · have hd3 := one_eq s k hlt 92 true (decide_eq_true h92)
              have H92 : Hid (s[k] = 92) := eq_of_int _ 92 h92
              clear h92
              cases q
              all_goals
                go_wp2_with fail
                go_roundw
                case rel => exact ⟨k + 1, ps, cur ++ [s[k]], _, _, by omega, by go_num, rfl, rfl, by rw [HEE.out, H92.out]; rfl, HST.out.1, HST.out.2⟩
                case measure => simp [intOf]; omega
            · have hd3 := one_eq s k hlt 92 false (decide_eq_false h92)
              have H92 : Hid (s[k] ≠ 92) := ne_of_int _ 92 h92
              clear h92
              cases q
              all_goals
                go_wp2_with fail
                go_roundw
                case rel => exact ⟨k + 1, ps, cur ++ [s[k]], _, false, by omega, by go_num, rfl, rfl, by rw [HEE.out, if_neg H34.out, if_neg H34.out, if_neg H92.out]; rfl, HST.out.1, HST.out.2⟩
                case measure => simp [intOf]; omega
        · cases q
          all_goals
            go_wp2_with fail
            go_roundw
            case rel => exact ⟨k + 1, ps, cur ++ [s[k]], _, false, by omega, by go_num, rfl, rfl, HEE.out, HST.out.1, HST.out.2⟩
            case measure => simp [intOf]; omega
    · have HE : Hid (cutS sep s.data.toList = ⟨ps, cur, q, cn⟩) := by
        show cutS sep s.data.toList = _
        have h := HC.out
        rw [List.take_of_length_le (by rw [size_list]; omega)] at h
        exact h
      have HEN : Hid (ends sep s.data.toList = !q) := by show _ = _; unfold ends; rw [HE.out]
      have HPI : Hid (pieces sep s.data.toList = ps ++ [cur]) := by show _ = _; unfold pieces; rw [HE.out]
      obtain ⟨wo, rfl⟩ : ∃ wo : World, wo = wr := ⟨_, rfl⟩
      clear hcell hfz HC hcl
      go_wp2_with fail
      go_loopw [56] (fun i wr => ∃ j : Nat, j ≤ ps.length + 1 ∧ i = .int .i64 j ∧ wr.ownsRow w.heap.size 9 1 (.slice (some ⟨g, 0, none⟩) (ps.length + 1) cap) (ps.length + 1) (strs (half (ps ++ [cur]) j)) ∧ Below w.heap.size w wr) (fun i _ => ps.length + 1 - (intOf i).toNat)
      case atStart => exact ⟨0, by omega, rfl, by simpa [half] using hown, hw⟩
      case round =>
        obtain ⟨j, hj, rfl, hown2, hw2⟩ := hrel
        clear hown hw
        have hsz2 := hw2.size
        by_cases hjt : j < ps.length + 1
        · have hjP : j < (ps ++ [cur]).length := by simp; omega
          have hcell : wr.cell? ⟨g, j, none⟩ = some (.string ⟨((ps ++ [cur])[j]).toArray⟩) := by
            rw [hown2.cellAt j (by omega)]
            exact half_get _ j hjP
          obtain ⟨u, hu⟩ : ∃ u : ByteArray, u = ⟨((ps ++ [cur])[j]).toArray⟩ := ⟨_, rfl⟩
          rw [← hu] at hcell
          obtain ⟨u', hu'⟩ : ∃ u' : ByteArray, u' = ⟨(trimL (ps ++ [cur])[j]).toArray⟩ := ⟨_, rfl⟩
          have hus : u.size ≤ 1000 := by
            rw [hu, ← size_list]
            have := pieces_len sep s.data.toList (ps ++ [cur])[j] (by rw [HPI.out]; exact List.getElem_mem hjP)
            rw [size_list] at this
            show ((ps ++ [cur])[j]).length ≤ 1000
            omega
          have HU : Hid (u'.data.toList = trimL u.data.toList) := by show _ = _; rw [hu, hu']
          have HU' : Hid (u' = ⟨(trimL (ps ++ [cur])[j]).toArray⟩) := hu'
          clear hu hu'
          go_wp2_with fail
          refine (rtrim_at 1000 _ u' _ hus (by omega) HU.out).mono ?_
          rintro e w1 ⟨rfl, hb⟩
          have hown3 := own_below hown2 hb
          have hcell3 : w1.cell? ⟨g, j, none⟩ = some (.string u) := (hb.cell (cell_block' hcell)).trans hcell
          have hfz3 := hown3.frozenAt j
          have hw3 := hw2.trans (hb.mono hw2.size)
          have HST : Hid ((w1.setCell ⟨g, j, none⟩ (.string u')).ownsRow w.heap.size 9 1 (.slice (some ⟨g, 0, none⟩) (ps.length + 1) cap) (ps.length + 1) (strs (half (ps ++ [cur]) (j + 1))) ∧ Below w.heap.size w (w1.setCell ⟨g, j, none⟩ (.string u'))) := by
            refine ⟨?_, hw3.setCell (p := ⟨g, j, none⟩) hgB _⟩
            have h := (hown3.stored j (.string u')).1
            rw [HU'.out, half_set _ j hjP] at h
            rw [HU'.out]
            exact h
          clear hown3 hown2 hw2 hw3 hb hcell
          go_wp2_with fail
          go_roundw
          case rel => exact ⟨j + 1, by omega, by go_num, HST.out.1, HST.out.2⟩
          case measure => simp [intOf]; omega
        · obtain rfl : j = ps.length + 1 := by omega
          go_wp2_with fail
          go_ret2
          refine ⟨.slice (some ⟨g, 0, none⟩) (ps.length + 1) cap, by rw [HEN.out]; rfl, ?_, hw2⟩
          rw [HPI.out, ← half_all]
          have e : (ps ++ [cur]).length = ps.length + 1 := by simp
          rw [e]
          exact hown2
end Go.Proofs.YteifheoomodplaaDoor

/-
  What Split of the document's answers computes; the text is no longer than Go allows.
-/
namespace Go.Proofs.YteifheoomodplaaDoor
open Go.RowKit

def full (P : List (List UInt8)) : List (List UInt8) := P.filter (fun p => !p.isEmpty)
theorem full_snoc (P : List (List UInt8)) (p : List UInt8) : full (P ++ [p]) = if p.isEmpty = true then full P else full P ++ [p] := by
  unfold full
  rw [List.filter_append]
  cases h : p.isEmpty <;> simp [h]
theorem full_len (P : List (List UInt8)) : (full P).length ≤ P.length := List.length_filter_le _ _
theorem full_kept (P : List (List UInt8)) : full (P.map trimL) = kept P := rfl

set_option maxHeartbeats 4000000 in
set_option maxRecDepth 100000 in
theorem rsplit_any (s : ByteArray) (w : World) :
    Calls Tryd.prog 22 #[.string s] w fun e w' => ∃ v, e = .returned (.tuple #[v, .int .i64 (splitS s.data.toList).2]) ∧
      w'.ownsRow w.heap.size 9 1 v (splitS s.data.toList).1.length (strs (splitS s.data.toList).1) ∧ Below w.heap.size w w' := by
  obtain ⟨i0, hi, hz0, hz1, hz2⟩ := info_parts info9
  by_cases h1 : 1000 < (s.size : Int)
  · have HL : Hid (splitS s.data.toList = ([], 2)) := by show _ = _; unfold splitS; rw [if_pos (by rw [size_list]; omega)]
    go_enter Tryd.func22, Tryd.ntmps22
    go_wp2_with fail
    go_ret2
    exact ⟨.slice none 0 0, by rw [HL.out]; rfl, by rw [HL.out]; exact World.ownsRow_nil _ _ _ _, Below.refl _ _⟩
  · have hs : s.size ≤ 1000 := by omega
    have HL : Hid (¬ 1000 < s.data.toList.length) := by show ¬ _; rw [size_list]; omega
    clear h1
    cases he : ends 44 s.data.toList
    · have HE : Hid (ends 44 s.data.toList = false) := he
      have HS : Hid (splitS s.data.toList = ([], 3)) := by show _ = _; unfold splitS; rw [if_neg HL.out, if_pos he]
      clear he
      go_enter Tryd.func22, Tryd.ntmps22
      go_wp2_with fail
      refine (rparts_any s 44 _ hs).mono ?_
      rintro e w1 ⟨v, rfl, hown, hb⟩
      rw [HE.out]
      go_wp2_with fail
      go_ret2
      exact ⟨.slice none 0 0, by rw [HS.out]; rfl, by rw [HS.out]; exact World.ownsRow_nil _ _ _ _, hb⟩
    · have HE : Hid (ends 44 s.data.toList = true) := he
      have HS : Hid (splitS s.data.toList = if 20 < (kept (pieces 44 s.data.toList)).length then ([], 2) else (kept (pieces 44 s.data.toList), 0)) := by
        show _ = _; unfold splitS; rw [if_neg HL.out, if_neg (by rw [he]; simp)]
      clear he
      obtain ⟨P, hP⟩ : ∃ P, P = (pieces 44 s.data.toList).map trimL := ⟨_, rfl⟩
      have HP : Hid (P = (pieces 44 s.data.toList).map trimL) := hP
      have HK : Hid (kept (pieces 44 s.data.toList) = full P) := by show _ = _; rw [hP, full_kept]
      have HPL : Hid ((pieces 44 s.data.toList).length = P.length) := by show _ = _; rw [hP]; simp
      have hPl : P.length ≤ 1001 := by
        rw [hP]; unfold pieces
        have := cutS_len 44 s.data.toList
        rw [size_list] at this
        simp; omega
      clear hP
      go_enter Tryd.func22, Tryd.ntmps22
      go_wp2_with fail
      refine (rparts_any s 44 _ hs).mono ?_
      rintro e w1 ⟨v, rfl, hown, hb⟩
      rw [HE.out]
      rw [← HP.out, HPL.out] at hown
      obtain ⟨ad, cap, hv, hcm, hnc, hcells⟩ := own_slice hown
      subst hv
      unfold maxLen at hcm
      have HCL : Hid (0 < P.length → ∃ g, ad = some ⟨g, 0, none⟩ ∧ w.heap.size ≤ g ∧ g < w1.heap.size ∧ ∀ j, j < P.length → w1.cell? ⟨g, j, none⟩ = (strs P)[j]?) := hcells
      have hbs := hb.size
      clear hcells hown
      go_wp2_with fail
      go_loopw [6, 21] (fun v i wr => ∃ k : Nat, k ≤ P.length ∧ i = .int .i64 k ∧ wr.ownsRow w1.heap.size 9 1 v (full (P.take k)).length (strs (full (P.take k))) ∧ Below w1.heap.size w1 wr) (fun _ i _ => P.length - (intOf i).toNat)
      case atStart => exact ⟨0, by omega, rfl, World.ownsRow_nil _ _ _ _, Below.refl _ _⟩
      case round =>
        obtain ⟨k, hk, rfl, hown, hw⟩ := hrel
        have hsz := hw.size
        have hkl : (full (P.take k)).length ≤ 1001 := by
          have h1 := full_len (P.take k)
          have h2 := List.length_take_le k P
          omega
        by_cases hlt : k < P.length
        · obtain ⟨g, rfl, hgB, hgs, hce⟩ := HCL.out (by omega)
          have hcell : wr.cell? ⟨g, k, none⟩ = some (.string ⟨(P[k]).toArray⟩) := by
            rw [hw.cell (p := ⟨g, k, none⟩) hgs, hce k hlt]
            exact strs_get P k hlt
          obtain ⟨u, hu⟩ : ∃ u : ByteArray, u = ⟨(P[k]).toArray⟩ := ⟨_, rfl⟩
          rw [← hu] at hcell
          have HU : Hid (u = ⟨(P[k]).toArray⟩) := hu
          have HKS : Hid (full (P.take (k + 1)) = if (P[k]).isEmpty = true then full (P.take k) else full (P.take k) ++ [P[k]]) := by
            show _ = _; rw [take_one P k hlt, full_snoc]
          clear hce hu
          cases hem : u.toList.isEmpty
          · have HEM : Hid ((P[k]).isEmpty = false) := by
              show _ = _
              rw [ByteArray.toList_eq, HU.out] at hem
              exact hem
            go_wp2_with (at_builtin; refine wpList_append_own _ rfl _ _ 23 rfl w1.heap.size 9 i0 (.string ⟨#[]⟩) 1 16 Tryd.underlying23 hi hz0 hz1 hz2 rfl (by decide) _ _ _ rfl (hown.alloc _) ⟨wr.heap.size, 0, none⟩ 1 1 [.string u] rfl rfl ?c1 ?c2 ?c3 ?c4 ?c5 ?_)
            case c1 => exact one_cell _ _ _
            case c2 => intro x hx; simp at hx; subst hx; rfl
            case c3 => unfold maxLen; omega
            case c4 => omega
            case c5 => simp; omega
            · intro v' w4 hown' hgrow _
              have hB : Below w1.heap.size w1 w4 := (hw.alloc (by omega) _).grown hgrow (by simp; omega) (fun b hb => ((hown.alloc (.cells #[.string u] 9)).lt b hb).1)
              have hown4 : w4.ownsRow w1.heap.size 9 1 v' (full (P.take (k + 1))).length (strs (full (P.take (k + 1)))) := by
                rw [HKS.out, HEM.out]
                simp only [Bool.false_eq_true, if_false]
                rw [← strs_snoc, List.length_append, ← HU.out]; exact hown'
              clear hown' hgrow hown hw
              go_wp2_with fail
              go_roundw
              case rel => exact ⟨k + 1, by omega, by go_num, hown4, hB⟩
              case measure => simp [intOf]; omega
          · have HEM : Hid ((P[k]).isEmpty = true) := by
              show _ = _
              rw [ByteArray.toList_eq, HU.out] at hem
              exact hem
            go_wp2_with fail
            go_roundw
            case rel => exact ⟨k + 1, by omega, by go_num, by rw [HKS.out, if_pos HEM.out]; exact hown, hw⟩
            case measure => simp [intOf]; omega
        · obtain rfl : k = P.length := by omega
          rw [List.take_length] at hown hkl
          obtain ⟨ad2, cap2, hv2, hcm2, hnc2, _⟩ := own_slice hown
          subst hv2
          unfold maxLen at hcm2
          by_cases h20 : 20 < ((full P).length : Int)
          · have HR : Hid (splitS s.data.toList = ([], 2)) := by show _ = _; rw [HS.out, HK.out, if_pos (by omega)]
            go_wp2_with fail
            go_ret2
            exact ⟨.slice none 0 0, by rw [HR.out]; rfl, by rw [HR.out]; exact World.ownsRow_nil _ _ _ _, hb.trans (hw.mono hbs)⟩
          · have HR : Hid (splitS s.data.toList = (full P, 0)) := by show _ = _; rw [HS.out, HK.out, if_neg (by omega)]
            go_wp2_with fail
            go_ret2
            exact ⟨_, by rw [HR.out]; rfl, by rw [HR.out]; exact ownsRow_le' hown hbs, hb.trans (hw.mono hbs)⟩
end Go.Proofs.YteifheoomodplaaDoor

/-
  What allOf of the document's answers computes; no condition but that a string is no longer than Go allows.
-/
namespace Go.Proofs.YteifheoomodplaaDoor
open Go.RowKit

set_option maxHeartbeats 400000 in
set_option maxRecDepth 100000 in
theorem allOf_any (s f : ByteArray) (w : World) (hs : s.size ≤ maxLen) :
    Calls Tryd.prog 48 #[.string s, .string f] w fun e w' => e = .returned (.bool (allIn f.data.toList s.data.toList)) ∧ w' = w := by
  unfold maxLen at hs
  go_enter Tryd.func48, Tryd.ntmps48
  go_wp2_with fail
  go_loop [8] (fun i => ∃ k : Nat, k ≤ s.size ∧ i = .int .i64 k ∧ allIn f.data.toList (s.data.toList.take k) = true) (fun i => s.size - (intOf i).toNat)
  case atStart => exact ⟨0, Nat.zero_le _, rfl, rfl⟩
  case round =>
    obtain ⟨k, hk, rfl, hall⟩ := hrel
    have HA : Hid (allIn f.data.toList (s.data.toList.take k) = true) := hall
    clear hall
    by_cases hlt : k < s.size
    · cases ht : f.data.toList.contains s[k]
      · have HT : Hid (f.data.toList.contains s[k] = false) := ht
        clear ht
        go_wp2_with fail
        rw [extract_one s k hlt]
        refine (Tryd.strings_Contains_one _ _ _).mono ?_
        rintro e w' ⟨rfl, rfl⟩
        rw [← Lib.contains_iff_indexByte, HT.out]
        go_wp2_with fail
        go_ret
        refine ⟨ret_bool ?_, rfl⟩
        rw [allIn, all_false s (fun c => f.data.toList.contains c) k hlt HT.out]
      · have HT : Hid (f.data.toList.contains s[k] = true) := ht
        clear ht
        go_wp2_with fail
        rw [extract_one s k hlt]
        refine (Tryd.strings_Contains_one _ _ _).mono ?_
        rintro e w' ⟨rfl, rfl⟩
        rw [← Lib.contains_iff_indexByte, HT.out]
        go_wp2_with fail
        go_round
        case rel => exact ⟨k + 1, by omega, by go_num, by rw [take_snoc s k hlt, allIn, List.all_append, List.all_cons, HT.out, Bool.true_and, List.all_nil, Bool.and_true]; exact HA.out⟩
        case measure => simp [intOf]; omega
    · obtain rfl : k = s.size := by omega
      go_wp2_with fail
      go_ret
      refine ⟨ret_bool ?_, rfl⟩
      have h := HA.out
      rw [take_all] at h
      rw [h]
end Go.Proofs.YteifheoomodplaaDoor

/-
  What Token of the document's answers compute; no condition but that a string is no longer than Go allows.
-/
namespace Go.Proofs.YteifheoomodplaaDoor
open Go.RowKit

theorem isTok_all (c : UInt8) : [97, 98, 99, 100, 101, 102, 103, 104, 105, 106, 107, 108, 109, 110, 111, 112, 113, 114, 115, 116, 117, 118, 119, 120, 121, 122, 65, 66, 67, 68, 69, 70, 71, 72, 73, 74, 75, 76, 77, 78, 79, 80, 81, 82, 83, 84, 85, 86, 87, 88, 89, 90, 48, 49, 50, 51, 52, 53, 54, 55, 56, 57, 33, 35, 36, 37, 38, 39, 42, 43, 45, 46, 94, 95, 96, 124, 126].contains c = isTok c := by
  have := byAll (fun c => [97, 98, 99, 100, 101, 102, 103, 104, 105, 106, 107, 108, 109, 110, 111, 112, 113, 114, 115, 116, 117, 118, 119, 120, 121, 122, 65, 66, 67, 68, 69, 70, 71, 72, 73, 74, 75, 76, 77, 78, 79, 80, 81, 82, 83, 84, 85, 86, 87, 88, 89, 90, 48, 49, 50, 51, 52, 53, 54, 55, 56, 57, 33, 35, 36, 37, 38, 39, 42, 43, 45, 46, 94, 95, 96, 124, 126].contains c == isTok c) (by decide +kernel) c
  simpa using this

theorem allIn_tok (f l : List UInt8) (h : f = [97, 98, 99, 100, 101, 102, 103, 104, 105, 106, 107, 108, 109, 110, 111, 112, 113, 114, 115, 116, 117, 118, 119, 120, 121, 122, 65, 66, 67, 68, 69, 70, 71, 72, 73, 74, 75, 76, 77, 78, 79, 80, 81, 82, 83, 84, 85, 86, 87, 88, 89, 90, 48, 49, 50, 51, 52, 53, 54, 55, 56, 57, 33, 35, 36, 37, 38, 39, 42, 43, 45, 46, 94, 95, 96, 124, 126]) : allIn f l = l.all isTok := by
  subst h
  exact congrArg l.all (funext fun c => isTok_all c)

set_option maxHeartbeats 400000 in
set_option maxRecDepth 100000 in
theorem rtoken_any (s : ByteArray) (w : World) (hs : s.size ≤ maxLen) :
    Calls Tryd.prog 23 #[.string s] w fun e w' => e = .returned (.bool (token s.data.toList)) ∧ w' = w := by
  cases he : s.toList.isEmpty
  · have H : Hid (token s.data.toList = s.data.toList.all isTok) := by
      show token s.data.toList = _
      rw [token, ← ByteArray.toList_eq, he]; rfl
    go_enter Tryd.func23, Tryd.ntmps23
    go_wp2_with fail
    refine (allOf_any _ _ _ hs).mono ?_
    rintro e w' ⟨rfl, rfl⟩
    go_wp2_with fail
    go_ret
    refine ⟨ret_bool ?_, rfl⟩
    rw [H.out]
    exact allIn_tok _ _ rfl
  · have H : Hid (token s.data.toList = false) := by
      show token s.data.toList = _
      rw [token, ← ByteArray.toList_eq, he]; rfl
    go_enter Tryd.func23, Tryd.ntmps23
    go_wp2_with fail
    go_ret
    exact ⟨ret_bool H.out.symm, rfl⟩
end Go.Proofs.YteifheoomodplaaDoor

/-
  What VaryNames of the document's answers computes of a list of fields that holds at most 2^20 letters and values.
-/
namespace Go.Proofs.YteifheoomodplaaDoor
open Go.RowKit

theorem vded_take (P : List Txt) (k : Nat) (h : k < P.length) : vded (P.take (k + 1)) = vstep (vded (P.take k)) P[k] := by rw [take_one P k h, vded_snoc]
set_option maxHeartbeats 4000000 in
set_option maxRecDepth 100000 in
theorem rvnames_at (v : Value) (ls : List Fld) (w : World) (hf : Fl w v ls) (hbk : bulkF ls ≤ 1048576) :
    Calls Tryd.prog 8 #[v] w fun e w' => ∃ v', e = .returned (.tuple #[v', .bool (vV ls).2.1, .int .i64 (vV ls).2.2]) ∧
      w'.ownsRow w.heap.size 9 1 v' (vV ls).1.length (strs (vV ls).1) ∧ Below w.heap.size w w' := by
  obtain ⟨i0, hi, hz0, hz1, hz2⟩ := info_parts info9
  obtain ⟨t, ht⟩ : ∃ t : ByteArray, t.data.toList = jn (vals ls nVary) := ⟨⟨(jn (vals ls nVary)).toArray⟩, rfl⟩
  have HJ : Hid (t.data.toList = jn (vals ls (⟨#[86, 97, 114, 121]⟩ : ByteArray).data.toList)) := ht
  have HV : Hid (vV ls = vN t.data.toList) := by show vV ls = _; unfold vV; rw [ht]
  have HF : Hid (Fl w v ls) := hf
  obtain ⟨P, c, hP⟩ : ∃ P c, splitS t.data.toList = (P, c) := ⟨_, _, rfl⟩
  have HP : Hid (splitS t.data.toList = (P, c)) := hP
  have hmost := split_most t.data.toList
  rw [hP] at hmost
  obtain ⟨hP20, hPl⟩ := hmost
  replace hP20 : P.length ≤ 20 := hP20
  have HPL : Hid (∀ p ∈ P, p.length ≤ 1000) := hPl
  clear ht hf hP hPl
  go_enter Tryd.func8, Tryd.ntmps8
  go_wp2_with fail
  refine (rget_at v ls _ t _ HJ.out rfl _ HF.out hbk (by decide)).mono ?_
  rintro e w1 ⟨rfl, hb1⟩
  have HB1 : Hid (Below w.heap.size w w1) := by first | exact hb1 | (rw [hb1]; exact Below.refl _ _)
  clear hb1
  go_wp2_with fail
  refine (rsplit_any t _).mono ?_
  rintro e w2 ⟨v2, rfl, hown, hb2⟩
  rw [HP.out] at hown ⊢
  replace hown : w2.ownsRow w1.heap.size 9 1 v2 P.length (strs P) := hown
  have hB1 := HB1.out
  have hw2 : Below w.heap.size w w2 := hB1.trans (hb2.mono hB1.size)
  have hsz := hw2.size
  have hsz1 := hb2.size
  obtain ⟨ad, cap, hv2, hcm, hnc, hcells⟩ := own_slice hown
  subst hv2
  unfold maxLen at hcm
  have HCL : Hid (0 < P.length → ∃ g, ad = some ⟨g, 0, none⟩ ∧ w1.heap.size ≤ g ∧ g < w2.heap.size ∧ ∀ j, j < P.length → w2.cell? ⟨g, j, none⟩ = (strs P)[j]?) := hcells
  have HW2 : Hid (Below w.heap.size w w2) := hw2
  clear hown hB1 hb2 hw2 hcells
  by_cases hc : c = 0
  · subst hc
    have HVN : Hid (vV ls = if P.all token = true then (nmsV P, starV P, 0) else ([], false, 3)) := by
      show _ = _
      rw [HV.out]
      unfold vN
      rw [HP.out]
      simp
    clear HV HJ HP
    go_wp2_with fail
    go_loopw [9, 10, 28] (fun st v i wr => ∃ k : Nat, k ≤ P.length ∧ i = .int .i64 k ∧ st = .bool (starV (P.take k)) ∧ (P.take k).all token = true ∧ wr.ownsRow w2.heap.size 9 1 v (vded (P.take k)).length (strs (vded (P.take k))) ∧ Below w2.heap.size w2 wr) (fun _ _ i _ => P.length - (intOf i).toNat)
    case atStart => exact ⟨0, by omega, rfl, rfl, rfl, World.ownsRow_nil _ _ _ _, Below.refl _ _⟩
    case round =>
      obtain ⟨k, hk, rfl, rfl, hall, hown, hw⟩ := hrel
      have hszr := hw.size
      have HALL : Hid ((P.take k).all token = true) := hall
      have hkl : (vded (P.take k)).length ≤ 20 := by
        have h1 := vded_len (P.take k)
        have h2 := List.length_take_le k P
        omega
      clear hall
      by_cases hlt : k < P.length
      · obtain ⟨g, rfl, hgB, hgs, hce⟩ := HCL.out (by omega)
        have hcell : wr.cell? ⟨g, k, none⟩ = some (.string ⟨(P[k]).toArray⟩) := by
          rw [hw.cell (p := ⟨g, k, none⟩) hgs, hce k hlt]
          exact strs_get P k hlt
        obtain ⟨u, hu⟩ : ∃ u : ByteArray, u = ⟨(P[k]).toArray⟩ := ⟨_, rfl⟩
        rw [← hu] at hcell
        have HU : Hid (u.data.toList = P[k]) := by show _ = _; rw [hu]
        have hus : u.size ≤ 1000 := by rw [← size_list, HU.out]; exact HPL.out _ (List.getElem_mem hlt)
        have HVD : Hid (vded (P.take (k + 1)) = vstep (vded (P.take k)) u.data.toList) := by show _ = _; rw [HU.out]; exact vded_take P k hlt
        have HST : Hid (starV (P.take (k + 1)) = (starV (P.take k) || (u.data.toList == [42]))) := by show _ = _; rw [HU.out]; exact (any_grow P k hlt).2
        have hki : (k : Int) < (P.length : Int) := by omega
        have hk0 : (0 : Int) ≤ (k : Int) := by omega
        have hgr : g < wr.heap.size := by omega
        clear hce hu
        cases htk : token u.data.toList
        · have HTK : Hid (token u.data.toList = false) := htk
          have HR : Hid (vV ls = ([], false, 3)) := by
            show _ = _
            rw [HVN.out, if_neg]
            intro h
            have := List.all_eq_true.1 h _ (List.getElem_mem hlt)
            rw [← HU.out, htk] at this
            cases this
          have HB3 : Hid (Below w.heap.size w wr) := HW2.out.trans (hw.mono hsz)
          clear htk
          go_wp2_with fail
          refine (rtoken_any u _ (by unfold maxLen; omega)).mono ?_
          rintro e w' ⟨rfl, rfl⟩
          rw [HTK.out]
          clear hown
          go_wp2_with fail
          go_ret3
          exact ⟨.slice none 0 0, by rw [HR.out]; rfl, by rw [HR.out]; exact World.ownsRow_nil _ _ _ _, HB3.out⟩
        · have HTK : Hid (token u.data.toList = true) := htk
          have HAN : Hid ((P.take (k + 1)).all token = true) := by
            show _ = _
            rw [take_one P k hlt, List.all_append, HALL.out, ← HU.out]
            simp [htk]
          clear htk
          obtain ⟨b, hb⟩ : ∃ b, starV (P.take k) = b := ⟨_, rfl⟩
          rw [hb]
          have HB : Hid (starV (P.take k) = b) := hb
          clear hb
          cases hse : (u.toList == [42])
          · have hne : (u.data.toList == [42]) = false := by rw [← ByteArray.toList_eq]; exact hse
            have HSN : Hid (starV (P.take (k + 1)) = b) := by show _ = _; rw [HST.out, hne, HB.out]; simp
            obtain ⟨u', hu'⟩ : ∃ u' : ByteArray, u'.data.toList = lower u.data.toList := ⟨⟨(lower u.data.toList).toArray⟩, rfl⟩
            have HU' : Hid (u'.data.toList = lower u.data.toList) := hu'
            have HVS : Hid (vded (P.take (k + 1)) = if (vded (P.take k)).contains u'.data.toList = true then vded (P.take k) else vded (P.take k) ++ [u'.data.toList]) := by
              show _ = _
              rw [HVD.out, hu']
              unfold vstep
              rw [hne]; rfl
            obtain ⟨S, hS⟩ : ∃ S, vded (P.take k) = S := ⟨_, rfl⟩
            rw [hS] at hown hkl
            have HS : Hid (vded (P.take k) = S) := hS
            clear hne hu' hS
            cases hhas : S.contains u'.data.toList
            · have HHAS : Hid (S.contains u'.data.toList = false) := hhas
              clear hhas
              cases b
              all_goals
                go_wp2_with fail
                refine (rtoken_any u _ (by unfold maxLen; omega)).mono ?_
                rintro e w' ⟨rfl, rfl⟩
                rw [HTK.out]
                go_wp2_with fail
                refine (rlower_at u u' HU'.out _ (by omega)).mono ?_
                rintro e w' ⟨rfl, rfl⟩
                go_wp2_with fail
                refine (rhasS_at _ S _ _ u' rfl _ hown).mono ?_
                rintro e w' ⟨rfl, rfl⟩
                rw [HHAS.out]
                go_wp2_with fail
                refine (rlower_at u u' HU'.out _ (by omega)).mono ?_
                rintro e w' ⟨rfl, rfl⟩
                clear hcell
                go_wp2_with (at_builtin; refine wpList_append_own _ rfl _ _ 23 rfl w2.heap.size 9 i0 (.string ⟨#[]⟩) 1 16 Tryd.underlying23 hi hz0 hz1 hz2 rfl (by decide) _ _ _ rfl (hown.alloc _) ⟨_, 0, none⟩ 1 1 [.string u'] rfl rfl ?c1 ?c2 ?c3 ?c4 ?c5 ?_)
                case c1 => exact one_cell _ _ _
                case c2 => intro x hx; simp at hx; subst hx; rfl
                case c3 => unfold maxLen; omega
                case c4 => omega
                case c5 => simp; omega
                · intro v' w5 hown' hgrow _
                  have hB : Below w2.heap.size w2 w5 := (hw.alloc (by omega) _).grown hgrow (by simp; omega) (fun b hb => ((hown.alloc (.cells #[.string u'] 9)).lt b hb).1)
                  have hown5 : w5.ownsRow w2.heap.size 9 1 v' (vded (P.take (k + 1))).length (strs (vded (P.take (k + 1)))) := by
                    rw [HVS.out, HS.out, HHAS.out, if_neg (by simp), ← strs_snoc, List.length_append]; exact hown'
                  clear hown' hgrow hown hw
                  go_wp2_with fail
                  go_roundw
                  case rel => exact ⟨k + 1, by omega, by go_num, by rw [HSN.out], HAN.out, hown5, hB⟩
                  case measure => simp [intOf]; omega
            · have HHAS : Hid (S.contains u'.data.toList = true) := hhas
              clear hhas
              cases b
              all_goals
                go_wp2_with fail
                refine (rtoken_any u _ (by unfold maxLen; omega)).mono ?_
                rintro e w' ⟨rfl, rfl⟩
                rw [HTK.out]
                go_wp2_with fail
                refine (rlower_at u u' HU'.out _ (by omega)).mono ?_
                rintro e w' ⟨rfl, rfl⟩
                go_wp2_with fail
                refine (rhasS_at _ S _ _ u' rfl _ hown).mono ?_
                rintro e w' ⟨rfl, rfl⟩
                rw [HHAS.out]
                clear hcell
                go_wp2_with fail
                go_roundw
                case rel => exact ⟨k + 1, by omega, by go_num, by rw [HSN.out], HAN.out, by rw [HVS.out, HS.out, HHAS.out, if_pos rfl]; exact hown, hw⟩
                case measure => simp [intOf]; omega
          · have heq : (u.data.toList == [42]) = true := by rw [← ByteArray.toList_eq]; exact hse
            have HSN : Hid (starV (P.take (k + 1)) = true) := by show _ = _; rw [HST.out, heq]; simp
            have HVS : Hid (vded (P.take (k + 1)) = vded (P.take k)) := by
              show _ = _
              rw [HVD.out]
              unfold vstep
              rw [heq]; rfl
            clear heq
            cases b
            all_goals
              go_wp2_with fail
              refine (rtoken_any u _ (by unfold maxLen; omega)).mono ?_
              rintro e w' ⟨rfl, rfl⟩
              rw [HTK.out]
              clear hcell
              go_wp2_with fail
              go_roundw
              case rel => exact ⟨k + 1, by omega, by go_num, by rw [HSN.out], HAN.out, by rw [HVS.out]; exact hown, hw⟩
              case measure => simp [intOf]; omega
      · obtain rfl : k = P.length := by omega
        rw [List.take_length] at hown hkl
        have HR : Hid (vV ls = (nmsV P, starV P, 0)) := by
          show _ = _
          have := HALL.out
          rw [List.take_length] at this
          rw [HVN.out, if_pos this]
        have HSV : Hid (sortV (vded P) = nmsV P) := sort_vded P
        go_wp2_with fail
        refine (rsorted_at _ (vded P) _ _ rfl (by omega) _ hown).mono ?_
        rintro e w3 ⟨v3, rfl, hown3, hb3⟩
        rw [HSV.out] at hown3
        have hw3 := hw.trans (hb3.mono hszr)
        have HO : Hid (w3.ownsRow wr.heap.size 9 1 v3 (nmsV P).length (strs (nmsV P))) := hown3
        have HB3 : Hid (Below w.heap.size w w3) := HW2.out.trans (hw3.mono hsz)
        have hwr : w.heap.size ≤ wr.heap.size := by omega
        clear hown hb3 hown3 hw3
        go_wp2_with fail
        go_ret3
        exact ⟨v3, by rw [HR.out]; rfl, by rw [HR.out]; exact ownsRow_le' HO.out hwr, HB3.out⟩
  · have hcb : (c == 0) = false := beq_eq_false_iff_ne.2 hc
    have HR : Hid (vV ls = ([], false, c)) := by
      show _ = _
      rw [HV.out]
      unfold vN
      rw [HP.out]
      simp [hc]
    go_wp2_with fail
    go_ret3
    exact ⟨.slice none 0 0, by rw [HR.out]; rfl, by rw [HR.out]; exact World.ownsRow_nil _ _ _ _, HW2.out⟩
end Go.Proofs.YteifheoomodplaaDoor

/-
  Entity tags in plain lists: what Print and Parse tell; no program is named here.
-/
namespace Go.Proofs.YteifheoomodplaaDoor
open Go.RowKit

abbrev Tg := Bool × List UInt8
def etB (c : UInt8) : Bool := c == 33 || (decide (35 ≤ c) && decide (c ≤ 126))
def prG (t : Tg) : List UInt8 := (if t.1 = true then [87, 47] else []) ++ (34 :: (t.2 ++ [34]))
def prE (t : Tg) : List UInt8 × Int := if 100 < t.2.length then ([], 2) else if t.2.all etB = true then (prG t, 0) else ([], 3)
def weakB (s : List UInt8) : Bool := Lib.hasPrefix s [87, 47]
def restE (s : List UInt8) : List UInt8 := if weakB s = true then s.drop 2 else s
def textE (r : List UInt8) : List UInt8 := if 1 < r.length then (r.drop 1).take (r.length - 2) else []
def candE (s : List UInt8) : Tg := (weakB s, textE (restE s))
def paE (s : List UInt8) : Tg × Int := if prE (candE s) = (s, 0) then (candE s, 0) else ((false, []), 3)
theorem prE_ok (t : Tg) (h : (prE t).2 = 0) : prE t = (prG t, 0) ∧ t.2.length ≤ 100 ∧ t.2.all etB = true := by
  unfold prE at h ⊢
  by_cases h1 : 100 < t.2.length
  · rw [if_pos h1] at h; cases h
  · rw [if_neg h1] at h ⊢
    cases h2 : t.2.all etB
    · rw [h2] at h; cases h
    · exact ⟨rfl, by omega, rfl⟩
theorem prE_bad (t : Tg) (h : (prE t).2 ≠ 0) : (prE t).1 = [] := by
  unfold prE at h ⊢
  by_cases h1 : 100 < t.2.length
  · rw [if_pos h1]
  · rw [if_neg h1] at h ⊢
    cases h2 : t.2.all etB
    · rfl
    · rw [h2] at h; exact absurd rfl h
theorem prG_len (t : Tg) : (prG t).length = t.2.length + 2 + if t.1 = true then 2 else 0 := by
  unfold prG
  cases t.1 <;> simp <;> omega
theorem weak_prG (t : Tg) : weakB (prG t) = t.1 := by
  obtain ⟨w, x⟩ := t
  cases w
  · show Lib.hasPrefix (34 :: _) [87, 47] = false; rfl
  · show Lib.hasPrefix (87 :: 47 :: _) [87, 47] = true; rfl
theorem cand_prG (t : Tg) : candE (prG t) = t := by
  have hw := weak_prG t
  have hr : restE (prG t) = 34 :: (t.2 ++ [34]) := by
    unfold restE
    rw [hw]
    obtain ⟨w, x⟩ := t
    cases w <;> rfl
  unfold candE
  rw [hw, hr]
  have : textE (34 :: (t.2 ++ [34])) = t.2 := by
    unfold textE
    simp
  rw [this]
/-- What was printed is read as it was. -/
theorem paE_back (t : Tg) (h : (prE t).2 = 0) : paE (prE t).1 = (t, 0) := by
  obtain ⟨h1, _, _⟩ := prE_ok t h
  rw [h1]
  show paE (prG t) = _
  unfold paE
  rw [cand_prG, if_pos h1]
/-- What was read is printed as it was. -/
theorem paE_print (s : List UInt8) (h : (paE s).2 = 0) : prE (paE s).1 = (s, 0) := by
  unfold paE at h ⊢
  by_cases h1 : prE (candE s) = (s, 0)
  · rw [if_pos h1]; exact h1
  · rw [if_neg h1] at h; cases h
theorem paE_cases (s : List UInt8) : (∃ t, paE s = (t, 0) ∧ s = prG t ∧ t.2.length ≤ 100 ∧ t.2.all etB = true) ∨ paE s = ((false, []), 3) := by
  by_cases h1 : prE (candE s) = (s, 0)
  · left
    obtain ⟨h2, h3, h4⟩ := prE_ok (candE s) (by rw [h1])
    refine ⟨candE s, by unfold paE; rw [if_pos h1], ?_, h3, h4⟩
    rw [h1] at h2; exact (Prod.mk.inj h2).1
  · right; unfold paE; rw [if_neg h1]
/-- The pieces between commas that are not within quotes. -/
structure QC where
  ps : List (List UInt8)
  cur : List UInt8
  q : Bool
def qstep (x : QC) (c : UInt8) : QC := if c = 44 ∧ x.q = false then ⟨x.ps ++ [x.cur], [], x.q⟩ else ⟨x.ps, x.cur ++ [c], if c = 34 then !x.q else x.q⟩
def qcut (l : List UInt8) : QC := l.foldl qstep ⟨[], [], false⟩
def qps (l : List UInt8) : List (List UInt8) := (qcut l).ps ++ [(qcut l).cur]
theorem qcut_snoc (l : List UInt8) (c : UInt8) : qcut (l ++ [c]) = qstep (qcut l) c := by simp [qcut]
theorem qcut_len (l : List UInt8) : (qcut l).ps.length + (qcut l).cur.length ≤ l.length ∧ ∀ p ∈ (qcut l).ps, p.length ≤ l.length := by
  have gen : ∀ (l : List UInt8) (x : QC) (n : Nat), x.ps.length + x.cur.length ≤ n → (∀ p ∈ x.ps, p.length ≤ n) → (l.foldl qstep x).ps.length + (l.foldl qstep x).cur.length ≤ n + l.length ∧ ∀ p ∈ (l.foldl qstep x).ps, p.length ≤ n + l.length := by
    intro l
    induction l with
    | nil => intro x n h h2; exact ⟨h, h2⟩
    | cons c l ih =>
      intro x n h h2
      rw [List.foldl_cons, List.length_cons]
      have hq : (qstep x c).ps.length + (qstep x c).cur.length ≤ n + 1 ∧ ∀ p ∈ (qstep x c).ps, p.length ≤ n + 1 := by
        unfold qstep
        split
        · refine ⟨by simp; omega, fun p hp => ?_⟩
          rcases List.mem_append.1 hp with hp | hp
          · have := h2 p hp; omega
          · rw [List.mem_singleton.1 hp]; omega
        · exact ⟨by simp; omega, fun p hp => by have := h2 p hp; omega⟩
      have := ih (qstep x c) (n + 1) hq.1 hq.2
      rw [show n + (l.length + 1) = n + 1 + l.length by omega]; exact this
  have := gen l ⟨[], [], false⟩ 0 (Nat.le_refl _) (fun p hp => by cases hp)
  rw [Nat.zero_add] at this; exact this
end Go.Proofs.YteifheoomodplaaDoor

/-
  Lists of entity tags in plain lists; no program is named here.
-/
namespace Go.Proofs.YteifheoomodplaaDoor
open Go.RowKit

def tstep (acc : Option (List Tg)) (p : List UInt8) : Option (List Tg) :=
  match acc with
  | none => none
  | some ts => if p.isEmpty = true then some ts else if (paE p).2 = 0 then some (ts ++ [(paE p).1]) else none
def tagsE (P : List (List UInt8)) : Option (List Tg) := P.foldl tstep (some [])
def liE (s : List UInt8) : (List Tg × Bool) × Int :=
  if 1000 < s.length then (([], false), 2) else if s = [42] then (([], true), 0) else match tagsE ((qps s).map trimL) with
    | none => (([], false), 3)
    | some ts => if ts.isEmpty = true then (([], false), 3) else if 20 < ts.length then (([], false), 2) else ((ts, false), 0)
def tgs (ts : List Tg) : List Value := ts.flatMap fun t => [Value.bool t.1, Value.string ⟨t.2.toArray⟩]
theorem tgs_snoc (ts : List Tg) (t : Tg) : tgs ts ++ [Value.bool t.1, Value.string ⟨t.2.toArray⟩] = tgs (ts ++ [t]) := by simp [tgs]
theorem tgs_length (ts : List Tg) : (tgs ts).length = ts.length * 2 := by
  induction ts with
  | nil => rfl
  | cons t ts ih =>
    have : tgs (t :: ts) = [Value.bool t.1, Value.string ⟨t.2.toArray⟩] ++ tgs ts := by simp [tgs]
    rw [this, List.length_append, ih, List.length_cons]; simp; omega
theorem tgs_get (ts : List Tg) : ∀ (k : Nat) (h : k < ts.length), (tgs ts)[k * 2]? = some (.bool (ts[k]).1) ∧ (tgs ts)[k * 2 + 1]? = some (.string ⟨(ts[k]).2.toArray⟩) := by
  induction ts with
  | nil => intro k h; simp at h
  | cons t ts ih =>
    intro k h
    have he : tgs (t :: ts) = Value.bool t.1 :: Value.string ⟨t.2.toArray⟩ :: tgs ts := by simp [tgs]
    cases k with
    | zero => rw [he]; exact ⟨rfl, rfl⟩
    | succ k =>
      have := ih k (by simpa using h)
      rw [he, show (k + 1) * 2 = k * 2 + 2 by omega]
      simpa using this
theorem tstep_dead (P : List (List UInt8)) : P.foldl tstep none = none := by
  induction P with
  | nil => rfl
  | cons a P ih => rw [List.foldl_cons]; exact ih
theorem tags_snoc (P : List (List UInt8)) (p : List UInt8) : tagsE (P ++ [p]) = tstep (tagsE P) p := by simp [tagsE]
theorem tags_take (P : List (List UInt8)) (k : Nat) (h : k < P.length) : tagsE (P.take (k + 1)) = tstep (tagsE (P.take k)) P[k] := by
  rw [List.take_succ_eq_append_getElem h, tags_snoc]
theorem tags_dead (P : List (List UInt8)) (k : Nat) (h : k < P.length) (hd : tstep (tagsE (P.take k)) P[k] = none) : tagsE P = none := by
  have e : P = P.take k ++ P[k] :: P.drop (k + 1) := by rw [← List.drop_eq_getElem_cons h, List.take_append_drop]
  rw [e]
  unfold tagsE at hd ⊢
  rw [List.foldl_append, List.foldl_cons, hd, tstep_dead]
theorem tags_len (P : List (List UInt8)) : ∀ ts, tagsE P = some ts → ts.length ≤ P.length := by
  have gen : ∀ (P : List (List UInt8)) (a : List Tg) ts, P.foldl tstep (some a) = some ts → ts.length ≤ a.length + P.length := by
    intro P
    induction P with
    | nil => intro a ts h; simp at h; subst h; simp
    | cons p P ih =>
      intro a ts h
      rw [List.foldl_cons] at h
      cases hu : tstep (some a) p with
      | none => rw [hu, tstep_dead] at h; cases h
      | some b =>
        rw [hu] at h
        have h1 := ih b ts h
        have h2 : b.length ≤ a.length + 1 := by
          unfold tstep at hu
          simp only at hu
          split at hu
          · simp at hu; subst hu; omega
          · split at hu
            · simp at hu; subst hu; simp
            · cases hu
        rw [List.length_cons]
        omega
  intro ts h
  have := gen P [] ts h
  simpa using this
end Go.Proofs.YteifheoomodplaaDoor
