/-
  What ControlParse of the document's answers says, whatever text comes in.
-/
import Derived.Test.YtigbjhkkbgdkcabGreatDoorMe
import Derived.Deep.RegionHeld3
import Derived.Test.YtigbjhkkbgdkcabGreatDoorShelf
import Derived.Test.YtigbjhkkbgdkcabGreatDoorRows
import Derived.Laws.Rows
import Derived.Lib.Buffer
import Derived.Laws.IdiomStrings
import Derived.Lib.ItoaLen
namespace Go.Proofs.YtigbjhkkbgdkcabGreatDoor
open Go.RowKit

theorem drew_new (w : World) (cs : Array Value) (t : TypeId) (j : Nat) : ((w.alloc (.cells cs t)).drew).cell? ⟨w.heap.size, j, none⟩ = cs[j]? := by
  show (w.alloc (.cells cs t)).cell? _ = _
  simp
theorem paD_no (t a b : List UInt8) (h : Lib.cut t [61] = (a, b, false)) : paD t = if token t = true then some (lower t, false, []) else none := by
  have ha : a = t := by
    unfold Lib.cut at h
    split at h
    · simp at h
    · simp only [Prod.mk.injEq] at h; exact h.1.symm
  unfold paD
  rw [h, ha]
  simp
theorem paD_yes (t a b : List UInt8) (h : Lib.cut t [61] = (a, b, true)) : paD t = if token a = true then (rv b).map (fun v => (lower a, true, v)) else none := by
  unfold paD
  rw [h]
  simp
set_option maxHeartbeats 8000000 in
set_option maxRecDepth 100000 in
theorem rkparse_any (s : ByteArray) (w : World) :
    Calls Tryz.prog 52 #[.string s] w fun e w' => ∃ v, e = .returned (.tuple #[v, .int .i64 (ctQ s.data.toList).2]) ∧
      w'.ownsRow w.heap.size 59 3 v (ctQ s.data.toList).1.length (drs (ctQ s.data.toList).1) ∧ Below w.heap.size w w' := by
  obtain ⟨i1, hi1, hy0, hy1, hy2⟩ := info_parts infoDr
  obtain ⟨P, hP⟩ : ∃ P, (splitS s.data.toList).1 = P := ⟨_, rfl⟩
  obtain ⟨c, hc⟩ : ∃ c, (splitS s.data.toList).2 = c := ⟨_, rfl⟩
  have hsp := rsplit_any s w
  rw [hP, hc] at hsp
  have HSP : Hid (Calls Tryz.prog 76 #[.string s] w fun e w' => ∃ v, e = .returned (.tuple #[v, .int .i64 c]) ∧ w'.ownsRow w.heap.size 9 1 v P.length (strs P) ∧ Below w.heap.size w w') := hsp
  have HQ : Hid (ctQ s.data.toList = if c = 0 then (match paDs P with | none => ([], 3) | some ds => (ds, 0)) else ([], c)) := by
    show _ = _
    unfold ctQ
    rw [hP, hc]
    by_cases h0 : c = 0
    · rw [if_pos h0, if_pos h0]; cases paDs P <;> rfl
    · rw [if_neg h0, if_neg h0]
  have hP20 : P.length ≤ 20 := by rw [← hP]; exact split_len _
  have HPL : Hid (∀ p ∈ P, p.length ≤ 1000) := fun p hp => split_mem s.data.toList p (by rw [hP]; exact hp)
  clear hsp hP hc
  by_cases hc0 : c = 0
  · subst hc0
    rw [if_pos rfl] at HQ
    go_enter Tryz.func52, Tryz.ntmps52
    go_wp2_with fail
    refine HSP.out.mono ?_
    rintro e w1 ⟨v, rfl, hown, hb1⟩
    obtain ⟨ad, cap, hv, hcm, hnc, hcl⟩ := own_form2 hown
    subst hv
    have HCL : Hid (0 < P.length → ∃ g, ad = some ⟨g, 0, none⟩ ∧ w.heap.size ≤ g ∧ g < w1.heap.size ∧ ∀ j, j < P.length * 1 → w1.cell? ⟨g, j, none⟩ = (strs P)[j]?) := hcl
    have HB1 : Hid (Below w.heap.size w w1) := hb1
    have hsz1 := hb1.size
    unfold maxLen at hcm
    clear hown hcl hb1
    go_wp2_with fail
    go_loopw [6, 21] (fun ov i wr => ∃ (k : Nat) (ds : List Dv), k ≤ P.length ∧ i = .int .i64 k ∧ Hid (paDs (P.take k) = some ds) ∧ wr.ownsRow w1.heap.size 59 3 ov ds.length (drs ds) ∧ Below w1.heap.size w1 wr) (fun _ i _ => P.length - (intOf i).toNat)
    case atStart => exact ⟨0, [], Nat.zero_le _, rfl, rfl, World.ownsRow_nil _ _ _ _, Below.refl _ _⟩
    case round =>
      obtain ⟨k, ds, hk, rfl, HDS, hown, hwr⟩ := hrel
      have hszr := hwr.size
      have hdl : ds.length ≤ 20 := by
        have h1 := (paDs_all _ _ HDS.out).1
        have h2 := List.length_take_le k P
        omega
      by_cases hlt : k < P.length
      · obtain ⟨g, rfl, hgB, hgs, hce⟩ := HCL.out (by omega)
        have hcell := (hwr.cell (p := ⟨g, k, none⟩) hgs).trans ((hce k (by omega)).trans (strs_get P k hlt))
        obtain ⟨t, ht⟩ : ∃ t : ByteArray, t = ⟨(P[k]).toArray⟩ := ⟨_, rfl⟩
        rw [← ht] at hcell
        have HT : Hid (t.data.toList = P[k]) := by show _ = _; rw [ht]
        have hts : t.size ≤ 1000 := by rw [← size_list, HT.out]; exact HPL.out _ (List.getElem_mem hlt)
        have hki : (k : Int) < (P.length : Int) := by omega
        have hk0 : (0 : Int) ≤ (k : Int) := by omega
        have hgr : g < wr.heap.size := Nat.lt_of_lt_of_le hgs hszr
        obtain ⟨oad, oc, hov, hom, honc, _⟩ := own_form2 hown
        subst hov
        unfold maxLen at hom
        have HNO : Hid (paD t.data.toList = none → ctQ s.data.toList = ([], 3)) := fun h => by rw [HQ.out, paDs_dead P k hlt (by rw [← HT.out]; exact h)]
        have HYES : Hid (∀ x, paD t.data.toList = some x → paDs (P.take (k + 1)) = some (ds ++ [x])) := fun x h => paDs_take P k hlt ds HDS.out _ (by rw [← HT.out]; exact h)
        have HOWN : Hid (wr.ownsRow w1.heap.size 59 3 (.slice oad ds.length oc) ds.length (drs ds)) := hown
        have HWR : Hid (Below w1.heap.size w1 wr) := hwr
        obtain ⟨L, hL⟩ : ∃ L : ByteArray, L = ⟨(lower t.data.toList).toArray⟩ := ⟨_, rfl⟩
        have HLL : Hid (L.data.toList = lower t.data.toList) := by show _ = _; rw [hL]
        have HLW : Hid (∀ W : World, Calls Tryz.prog 55 #[.string t] W fun e w' => e = .returned (.string L) ∧ w' = W) := fun W => by rw [hL]; exact rlower_any t W (by omega)
        have hLs : L.size ≤ 1000 := by rw [← size_list, HLL.out]; unfold lower; rw [List.length_map, size_list]; exact hts
        clear hce ht hL hown hwr
        rcases index_two t.data.toList with hix | ⟨j, hix⟩
        · have HI : Hid (Lib.indexByte t.data.toList 61 = -1) := hix
          have HPD : Hid (paD t.data.toList = if token L.data.toList = true then some (L.data.toList, false, (⟨#[]⟩ : ByteArray).data.toList) else none) := by
            show _ = _
            rw [paD_no _ _ _ (cut_one_no _ hix), HLL.out, lowtok]
          clear hix
          cases htk : token L.data.toList
          · have HT : Hid (token L.data.toList = false) := htk
            rw [htk] at HPD
            have HZ := HNO.out (by rw [HPD.out]; try simp)
            have HZZ : Hid (ctQ s.data.toList = ([], 3)) := HZ
            clear HZ htk
            go_wp2_with fail
            refine (HLW.out _).mono ?_
            rintro e w3 ⟨rfl, rfl⟩
            go_wp2_with fail
            refine (Tryz.strings_Index_one t 61 _).mono ?_
            rintro e w3 ⟨rfl, rfl⟩
            rw [HI.out]
            go_wp2_with fail
            refine (rtoken_any L _ (by unfold maxLen; omega)).mono ?_
            rintro e w4 ⟨rfl, hw4⟩
            rw [HT.out]
            have HBW : Below w3.heap.size w3 w4 := by rw [hw4]; exact (Below.refl _ _).alloc (Nat.le_refl _) _
            have hwb := HB1.out.trans ((HWR.out.trans (HBW.mono hszr)).mono hsz1)
            clear hw4
            go_wp2_with fail
            go_ret2
            exact ⟨.slice none 0 0, by rw [HZZ.out]; try rfl, by rw [HZZ.out]; exact World.ownsRow_nil _ _ _ _, hwb⟩
          · have HT : Hid (token L.data.toList = true) := htk
            have HN2 : Hid (paDs (P.take (k + 1)) = some (ds ++ [(L.data.toList, false, (⟨#[]⟩ : ByteArray).data.toList)])) := HYES.out _ (by rw [HPD.out, if_pos htk])
            clear htk HPD
            go_wp2_with fail
            refine (HLW.out _).mono ?_
            rintro e w3 ⟨rfl, rfl⟩
            go_wp2_with fail
            refine (Tryz.strings_Index_one t 61 _).mono ?_
            rintro e w3 ⟨rfl, rfl⟩
            rw [HI.out]
            go_wp2_with fail
            refine (rtoken_any L _ (by unfold maxLen; omega)).mono ?_
            rintro e w4 ⟨rfl, hw4⟩
            rw [HT.out]
            have HBW : Below w3.heap.size w3 w4 := by rw [hw4]; exact (Below.refl _ _).alloc (Nat.le_refl _) _
            have d0 : w4.cell? ⟨w3.heap.size, 0, none⟩ = some (.string L) := by rw [hw4]; simp
            have d1 : w4.cell? ⟨w3.heap.size, 1, none⟩ = some (.bool false) := by rw [hw4]; simp
            have d2 : w4.cell? ⟨w3.heap.size, 2, none⟩ = some (.string ⟨#[]⟩) := by rw [hw4]; simp
            have hlt4 : w3.heap.size < w4.heap.size := by rw [hw4]; simp
            clear hw4
            have hw4 := HWR.out.trans (HBW.mono hszr)
            have hown4 := own_below3 HOWN.out HBW
            have hsz4 := hw4.size
            clear HBW
            go_wp2_with (at_builtin; refine wpList_append_own _ rfl _ _ 41 rfl w1.heap.size 59 i1 (.agg #[.string ⟨#[]⟩, .bool false, .string ⟨#[]⟩]) 3 40 Tryz.underlying41 hi1 hy0 hy1 hy2 rfl (by decide) _ _ _ rfl (hown4.alloc _) ⟨w4.heap.size, 0, none⟩ 1 1 [.string L, .bool false, .string ⟨#[]⟩] rfl rfl ?c1 ?c2 ?c3 ?c4 ?c5 ?_)
            case c1 =>
              intro j z h
              match j, h with
              | 0, h => simp at h; subst h; simp [Addr.add]
              | 1, h => simp at h; subst h; simp [Addr.add]
              | 2, h => simp at h; subst h; simp [Addr.add]
            case c2 => intro z hx; simp at hx; rcases hx with rfl | rfl | rfl <;> rfl
            case c3 => unfold maxLen; omega
            case c4 => omega
            case c5 => simp; omega
            · intro v' w5 hown' hgrow _
              have hB : Below w1.heap.size w1 w5 := (hw4.alloc (by omega) _).grown hgrow (by simp; omega) (fun bb hb => ((hown4.alloc (.cells #[.string L, .bool false, .string ⟨#[]⟩] 59)).lt bb hb).1)
              have hown5 : w5.ownsRow w1.heap.size 59 3 v' (ds ++ [((L : ByteArray).data.toList, false, (⟨#[]⟩ : ByteArray).data.toList)]).length (drs (ds ++ [((L : ByteArray).data.toList, false, (⟨#[]⟩ : ByteArray).data.toList)])) := by
                rw [← drs_snoc, List.length_append]; exact hown'
              clear hown' hgrow hown4 hw4
              go_wp2_with fail
              go_roundw
              case rel => exact ⟨k + 1, _, by omega, by go_num, HN2, hown5, hB⟩
              case measure => simp [intOf]; omega
        · have hjl := index_lt _ _ hix
          rw [size_list] at hjl
          obtain ⟨a, ha, has, hsa⟩ := slice_to t j (by omega)
          obtain ⟨b, hb, hbs, hsb⟩ := slice_from t (j + 1) (by omega)
          have hcut : Lib.cut t.data.toList [61] = (a.data.toList, b.data.toList, true) := by rw [cut_one_yes _ j hix, ha, hb]
          obtain ⟨M, hM⟩ : ∃ M : ByteArray, M = ⟨(lower a.data.toList).toArray⟩ := ⟨_, rfl⟩
          have HML : Hid (M.data.toList = lower a.data.toList) := by show _ = _; rw [hM]
          have HMW : Hid (∀ W : World, Calls Tryz.prog 55 #[.string a] W fun e w' => e = .returned (.string M) ∧ w' = W) := fun W => by rw [hM]; exact rlower_any a W (by omega)
          have hMs : M.size ≤ 1000 := by rw [← size_list, HML.out]; unfold lower; rw [List.length_map, size_list]; omega
          have HPD : Hid (paD t.data.toList = if token M.data.toList = true then (rv b.data.toList).map (fun v => (M.data.toList, true, v)) else none) := by
            show _ = _
            rw [paD_yes _ _ _ hcut, HML.out, lowtok]
          have HI : Hid (Lib.indexByte t.data.toList 61 = j) := hix
          clear hix ha hb hcut hM
          have hsb' : ∀ w, (Instr.slice 9 (.string t) (some (.int .i64 ((j : Int) + 1))) none none).run Tryz.prog w = .ok (.string b) w := fun w => by have := hsb w; simpa using this
          have hwj : IntKind.i64.wrap ((j : Int) + 1) = (j : Int) + 1 := by rw [IntKind.wrap_i64]; omega
          have hj0 : (0 : Int) ≤ (j : Int) := by omega
          clear hsb
          obtain ⟨tb, htb⟩ : ∃ tb, token b.data.toList = tb := ⟨_, rfl⟩
          obtain ⟨tm, htm⟩ : ∃ tm, token M.data.toList = tm := ⟨_, rfl⟩
          have HTB : Hid (∀ W : World, Calls Tryz.prog 78 #[.string b] W fun e w' => e = .returned (.bool tb) ∧ w' = W) := fun W => (rtoken_any b W (by unfold maxLen; omega)).mono fun e w' h => ⟨by rw [h.1, htb], h.2⟩
          have HTM : Hid (∀ W : World, Calls Tryz.prog 78 #[.string M] W fun e w' => e = .returned (.bool tm) ∧ w' = W) := fun W => (rtoken_any M W (by unfold maxLen; omega)).mono fun e w' h => ⟨by rw [h.1, htm], h.2⟩
          rw [htm] at HPD
          cases tb
          · obtain ⟨q, d, hu⟩ : ∃ (q : ByteArray) (d : Int), unq b.data.toList = (q.data.toList, d) := ⟨⟨(unq b.data.toList).1.toArray⟩, (unq b.data.toList).2, rfl⟩
            have HU : Hid (unq b.data.toList = (q.data.toList, d)) := hu
            have hrv : rv b.data.toList = if d = 0 then some q.data.toList else none := by
              unfold rv
              rw [htb, hu]
              simp
            rw [hrv] at HPD
            clear htb htm hrv hu
            by_cases hd : d = 0
            · subst hd
              cases tm
              · have HZZ : Hid (ctQ s.data.toList = ([], 3)) := HNO.out (by rw [HPD.out]; try rfl)
                go_wp2_with fail
                refine (HLW.out _).mono ?_
                rintro e w3 ⟨rfl, rfl⟩
                go_wp2_with fail
                refine (Tryz.strings_Index_one t 61 _).mono ?_
                rintro e w3 ⟨rfl, rfl⟩
                rw [HI.out]
                go_wp2_with fail
                go_region_held3 (fun _ => True) (trivial) (first | (go_at_call 55; refine (HMW.out _).mono ?_; rintro e w3 ⟨rfl, rfl⟩))
                go_wp2_with fail
                refine (HTB.out _).mono ?_
                rintro e w4 ⟨rfl, hw4⟩
                have HBW : Below w3.heap.size w3 w4 := by rw [hw4]; exact ((Below.refl _ _).alloc (Nat.le_refl _) _).drew
                have d0 : w4.cell? ⟨w3.heap.size, 0, none⟩ = some (.string M) := by rw [hw4]; exact drew_new _ _ _ _
                have d1 : w4.cell? ⟨w3.heap.size, 1, none⟩ = some (.bool true) := by rw [hw4]; exact drew_new _ _ _ _
                have d2 : w4.cell? ⟨w3.heap.size, 2, none⟩ = some (.string b) := by rw [hw4]; exact drew_new _ _ _ _
                have dz : w4.frozen? ⟨w3.heap.size, 2, none⟩ = false := by rw [hw4]; exact new_free _ _ _ _
                have hlt4 : w3.heap.size < w4.heap.size := by rw [hw4]; show _ < (w3.alloc _).heap.size; simp
                clear hw4
                go_wp2_with fail
                refine (runquote_at b q 0 HU.out _ (by omega)).mono ?_
                rintro e w5 ⟨rfl, rfl⟩
                have hwb := HB1.out.trans ((HWR.out.trans ((HBW.setCell (p := ⟨w3.heap.size, 2, none⟩) (Nat.le_refl _) (.string q)).mono hszr)).mono hsz1)
                have e0 : (w5.setCell ⟨w3.heap.size, 2, none⟩ (.string q)).cell? ⟨w3.heap.size, 0, none⟩ = some (.string M) := (World.cell?_setCell_other _ _ _ _ (by simp)).trans d0
                go_wp2_with fail
                refine (HTM.out _).mono ?_
                rintro e w6 ⟨rfl, rfl⟩
                go_wp2_with fail
                go_ret2
                exact ⟨.slice none 0 0, by rw [HZZ.out]; try rfl, by rw [HZZ.out]; exact World.ownsRow_nil _ _ _ _, hwb⟩
              · have HN2 : Hid (paDs (P.take (k + 1)) = some (ds ++ [(M.data.toList, true, q.data.toList)])) := HYES.out _ (by rw [HPD.out]; try rfl)
                go_wp2_with fail
                refine (HLW.out _).mono ?_
                rintro e w3 ⟨rfl, rfl⟩
                go_wp2_with fail
                refine (Tryz.strings_Index_one t 61 _).mono ?_
                rintro e w3 ⟨rfl, rfl⟩
                rw [HI.out]
                go_wp2_with fail
                go_region_held3 (fun _ => True) (trivial) (first | (go_at_call 55; refine (HMW.out _).mono ?_; rintro e w3 ⟨rfl, rfl⟩))
                go_wp2_with fail
                refine (HTB.out _).mono ?_
                rintro e w4 ⟨rfl, hw4⟩
                have HBW : Below w3.heap.size w3 w4 := by rw [hw4]; exact ((Below.refl _ _).alloc (Nat.le_refl _) _).drew
                have d0 : w4.cell? ⟨w3.heap.size, 0, none⟩ = some (.string M) := by rw [hw4]; exact drew_new _ _ _ _
                have d1 : w4.cell? ⟨w3.heap.size, 1, none⟩ = some (.bool true) := by rw [hw4]; exact drew_new _ _ _ _
                have d2 : w4.cell? ⟨w3.heap.size, 2, none⟩ = some (.string b) := by rw [hw4]; exact drew_new _ _ _ _
                have dz : w4.frozen? ⟨w3.heap.size, 2, none⟩ = false := by rw [hw4]; exact new_free _ _ _ _
                have hlt4 : w3.heap.size < w4.heap.size := by rw [hw4]; show _ < (w3.alloc _).heap.size; simp
                clear hw4
                go_wp2_with fail
                refine (runquote_at b q 0 HU.out _ (by omega)).mono ?_
                rintro e w5 ⟨rfl, rfl⟩
                have e0 : (w5.setCell ⟨w3.heap.size, 2, none⟩ (.string q)).cell? ⟨w3.heap.size, 0, none⟩ = some (.string M) := (World.cell?_setCell_other _ _ _ _ (by simp)).trans d0
                have e1 : (w5.setCell ⟨w3.heap.size, 2, none⟩ (.string q)).cell? ⟨w3.heap.size, 1, none⟩ = some (.bool true) := (World.cell?_setCell_other _ _ _ _ (by simp)).trans d1
                have e2 : (w5.setCell ⟨w3.heap.size, 2, none⟩ (.string q)).cell? ⟨w3.heap.size, 2, none⟩ = some (.string q) := World.cell?_setCell_same' _ _ _ (by rw [d2]; rfl)
                have hBS := HBW.setCell (p := ⟨w3.heap.size, 2, none⟩) (Nat.le_refl _) (.string q)
                go_wp2_with fail
                refine (HTM.out _).mono ?_
                rintro e w6 ⟨rfl, hw6⟩
                rw [← hw6] at e0 e1 e2 hBS
                have hlt6 : w3.heap.size < w6.heap.size := by rw [hw6]; show _ < (w5.setCell _ _).heap.size; simp; exact hlt4
                clear hw6 d0 d1 d2 dz HBW
                have hw7 := HWR.out.trans (hBS.mono hszr)
                have hown7 := own_below3 HOWN.out hBS
                have hsz7 := hw7.size
                clear hBS
                go_wp2_with (at_builtin; refine wpList_append_own _ rfl _ _ 41 rfl w1.heap.size 59 i1 (.agg #[.string ⟨#[]⟩, .bool false, .string ⟨#[]⟩]) 3 40 Tryz.underlying41 hi1 hy0 hy1 hy2 rfl (by decide) _ _ _ rfl (hown7.alloc _) ⟨w6.heap.size, 0, none⟩ 1 1 [.string M, .bool true, .string q] rfl rfl ?c1 ?c2 ?c3 ?c4 ?c5 ?_)
                case c1 =>
                  intro j z h
                  match j, h with
                  | 0, h => simp at h; subst h; simp [Addr.add]
                  | 1, h => simp at h; subst h; simp [Addr.add]
                  | 2, h => simp at h; subst h; simp [Addr.add]
                case c2 => intro z hx; simp at hx; rcases hx with rfl | rfl | rfl <;> rfl
                case c3 => unfold maxLen; omega
                case c4 => omega
                case c5 => simp; omega
                · intro v' w5 hown' hgrow _
                  have hB : Below w1.heap.size w1 w5 := (hw7.alloc (by omega) _).grown hgrow (by simp; omega) (fun bb hb => ((hown7.alloc (.cells #[.string M, .bool true, .string q] 59)).lt bb hb).1)
                  have hown5 : w5.ownsRow w1.heap.size 59 3 v' (ds ++ [((M : ByteArray).data.toList, true, (q : ByteArray).data.toList)]).length (drs (ds ++ [((M : ByteArray).data.toList, true, (q : ByteArray).data.toList)])) := by
                    rw [← drs_snoc, List.length_append]; exact hown'
                  clear hown' hgrow hown7 hw7
                  go_wp2_with fail
                  go_roundw
                  case rel => exact ⟨k + 1, _, by omega, by go_num, HN2, hown5, hB⟩
                  case measure => simp [intOf]; omega
            · have hdb : (d != 0) = true := by simpa using hd
              have HZZ : Hid (ctQ s.data.toList = ([], 3)) := HNO.out (by rw [HPD.out, if_neg hd]; cases tm <;> rfl)
              clear hd
              go_wp2_with fail
              refine (HLW.out _).mono ?_
              rintro e w3 ⟨rfl, rfl⟩
              go_wp2_with fail
              refine (Tryz.strings_Index_one t 61 _).mono ?_
              rintro e w3 ⟨rfl, rfl⟩
              rw [HI.out]
              go_wp2_with fail
              go_region_held3 (fun _ => True) (trivial) (first | (go_at_call 55; refine (HMW.out _).mono ?_; rintro e w3 ⟨rfl, rfl⟩))
              go_wp2_with fail
              refine (HTB.out _).mono ?_
              rintro e w4 ⟨rfl, hw4⟩
              have HBW : Below w3.heap.size w3 w4 := by rw [hw4]; exact ((Below.refl _ _).alloc (Nat.le_refl _) _).drew
              have d0 : w4.cell? ⟨w3.heap.size, 0, none⟩ = some (.string M) := by rw [hw4]; exact drew_new _ _ _ _
              have d1 : w4.cell? ⟨w3.heap.size, 1, none⟩ = some (.bool true) := by rw [hw4]; exact drew_new _ _ _ _
              have d2 : w4.cell? ⟨w3.heap.size, 2, none⟩ = some (.string b) := by rw [hw4]; exact drew_new _ _ _ _
              have dz : w4.frozen? ⟨w3.heap.size, 2, none⟩ = false := by rw [hw4]; exact new_free _ _ _ _
              have hlt4 : w3.heap.size < w4.heap.size := by rw [hw4]; show _ < (w3.alloc _).heap.size; simp
              clear hw4
              go_wp2_with fail
              refine (runquote_at b q d HU.out _ (by omega)).mono ?_
              rintro e w5 ⟨rfl, rfl⟩
              have hwb := HB1.out.trans ((HWR.out.trans ((HBW.setCell (p := ⟨w3.heap.size, 2, none⟩) (Nat.le_refl _) (.string q)).mono hszr)).mono hsz1)
              go_wp2_with fail
              go_ret2
              exact ⟨.slice none 0 0, by rw [HZZ.out]; try rfl, by rw [HZZ.out]; exact World.ownsRow_nil _ _ _ _, hwb⟩
          · have hrv : rv b.data.toList = some b.data.toList := rv_token _ htb
            rw [hrv] at HPD
            clear htb htm hrv
            cases tm
            · have HZZ : Hid (ctQ s.data.toList = ([], 3)) := HNO.out (by rw [HPD.out]; try rfl)
              go_wp2_with fail
              refine (HLW.out _).mono ?_
              rintro e w3 ⟨rfl, rfl⟩
              go_wp2_with fail
              refine (Tryz.strings_Index_one t 61 _).mono ?_
              rintro e w3 ⟨rfl, rfl⟩
              rw [HI.out]
              go_wp2_with fail
              go_region_held3 (fun _ => True) (trivial) (first | (go_at_call 55; refine (HMW.out _).mono ?_; rintro e w3 ⟨rfl, rfl⟩))
              go_wp2_with fail
              refine (HTB.out _).mono ?_
              rintro e w4 ⟨rfl, hw4⟩
              have HBW : Below w3.heap.size w3 w4 := by rw [hw4]; exact ((Below.refl _ _).alloc (Nat.le_refl _) _).drew
              have d0 : w4.cell? ⟨w3.heap.size, 0, none⟩ = some (.string M) := by rw [hw4]; exact drew_new _ _ _ _
              have d1 : w4.cell? ⟨w3.heap.size, 1, none⟩ = some (.bool true) := by rw [hw4]; exact drew_new _ _ _ _
              have d2 : w4.cell? ⟨w3.heap.size, 2, none⟩ = some (.string b) := by rw [hw4]; exact drew_new _ _ _ _
              have dz : w4.frozen? ⟨w3.heap.size, 2, none⟩ = false := by rw [hw4]; exact new_free _ _ _ _
              have hlt4 : w3.heap.size < w4.heap.size := by rw [hw4]; show _ < (w3.alloc _).heap.size; simp
              clear hw4
              have hwb := HB1.out.trans ((HWR.out.trans (HBW.mono hszr)).mono hsz1)
              go_wp2_with fail
              refine (HTM.out _).mono ?_
              rintro e w5 ⟨rfl, rfl⟩
              go_wp2_with fail
              go_ret2
              exact ⟨.slice none 0 0, by rw [HZZ.out]; try rfl, by rw [HZZ.out]; exact World.ownsRow_nil _ _ _ _, hwb⟩
            · have HN2 : Hid (paDs (P.take (k + 1)) = some (ds ++ [(M.data.toList, true, b.data.toList)])) := HYES.out _ (by rw [HPD.out]; try rfl)
              go_wp2_with fail
              refine (HLW.out _).mono ?_
              rintro e w3 ⟨rfl, rfl⟩
              go_wp2_with fail
              refine (Tryz.strings_Index_one t 61 _).mono ?_
              rintro e w3 ⟨rfl, rfl⟩
              rw [HI.out]
              go_wp2_with fail
              go_region_held3 (fun _ => True) (trivial) (first | (go_at_call 55; refine (HMW.out _).mono ?_; rintro e w3 ⟨rfl, rfl⟩))
              go_wp2_with fail
              refine (HTB.out _).mono ?_
              rintro e w4 ⟨rfl, hw4⟩
              have HBW : Below w3.heap.size w3 w4 := by rw [hw4]; exact ((Below.refl _ _).alloc (Nat.le_refl _) _).drew
              have d0 : w4.cell? ⟨w3.heap.size, 0, none⟩ = some (.string M) := by rw [hw4]; exact drew_new _ _ _ _
              have d1 : w4.cell? ⟨w3.heap.size, 1, none⟩ = some (.bool true) := by rw [hw4]; exact drew_new _ _ _ _
              have d2 : w4.cell? ⟨w3.heap.size, 2, none⟩ = some (.string b) := by rw [hw4]; exact drew_new _ _ _ _
              have dz : w4.frozen? ⟨w3.heap.size, 2, none⟩ = false := by rw [hw4]; exact new_free _ _ _ _
              have hlt4 : w3.heap.size < w4.heap.size := by rw [hw4]; show _ < (w3.alloc _).heap.size; simp
              clear hw4
              go_wp2_with fail
              refine (HTM.out _).mono ?_
              rintro e w5 ⟨rfl, rfl⟩
              have hw7 := HWR.out.trans (HBW.mono hszr)
              have hown7 := own_below3 HOWN.out HBW
              have hsz7 := hw7.size
              clear HBW
              go_wp2_with (at_builtin; refine wpList_append_own _ rfl _ _ 41 rfl w1.heap.size 59 i1 (.agg #[.string ⟨#[]⟩, .bool false, .string ⟨#[]⟩]) 3 40 Tryz.underlying41 hi1 hy0 hy1 hy2 rfl (by decide) _ _ _ rfl (hown7.alloc _) ⟨w5.heap.size, 0, none⟩ 1 1 [.string M, .bool true, .string b] rfl rfl ?c1 ?c2 ?c3 ?c4 ?c5 ?_)
              case c1 =>
                intro j z h
                match j, h with
                | 0, h => simp at h; subst h; simp [Addr.add]
                | 1, h => simp at h; subst h; simp [Addr.add]
                | 2, h => simp at h; subst h; simp [Addr.add]
              case c2 => intro z hx; simp at hx; rcases hx with rfl | rfl | rfl <;> rfl
              case c3 => unfold maxLen; omega
              case c4 => omega
              case c5 => simp; omega
              · intro v' w5 hown' hgrow _
                have hB : Below w1.heap.size w1 w5 := (hw7.alloc (by omega) _).grown hgrow (by simp; omega) (fun bb hb => ((hown7.alloc (.cells #[.string M, .bool true, .string b] 59)).lt bb hb).1)
                have hown5 : w5.ownsRow w1.heap.size 59 3 v' (ds ++ [((M : ByteArray).data.toList, true, (b : ByteArray).data.toList)]).length (drs (ds ++ [((M : ByteArray).data.toList, true, (b : ByteArray).data.toList)])) := by
                  rw [← drs_snoc, List.length_append]; exact hown'
                clear hown' hgrow hown7 hw7
                go_wp2_with fail
                go_roundw
                case rel => exact ⟨k + 1, _, by omega, by go_num, HN2, hown5, hB⟩
                case measure => simp [intOf]; omega
      · have HD : Hid (ctQ s.data.toList = (ds, 0)) := by
          have h := HDS.out
          rw [List.take_of_length_le (by omega)] at h
          show _ = _
          rw [HQ.out, h]
        have HO : Hid (wr.ownsRow w1.heap.size 59 3 _ ds.length (drs ds)) := hown
        have hwb := HB1.out.trans (hwr.mono hsz1)
        clear hown hwr
        go_wp2_with fail
        go_ret2
        exact ⟨_, by rw [HD.out]; try rfl, by rw [HD.out]; exact own_le HO.out hsz1, hwb⟩
  · have hcb : (c != 0) = true := by simpa using hc0
    rw [if_neg hc0] at HQ
    clear hc0
    go_enter Tryz.func52, Tryz.ntmps52
    go_wp2_with fail
    refine HSP.out.mono ?_
    rintro e w1 ⟨v, rfl, hown, hb1⟩
    obtain ⟨ad, cap, hv, hcm, hnc, hcl⟩ := own_form2 hown
    subst hv
    clear hown hcl
    go_wp2_with fail
    go_ret2
    exact ⟨.slice none 0 0, by rw [HQ.out]; try rfl, by rw [HQ.out]; exact World.ownsRow_nil _ _ _ _, hb1⟩
end Go.Proofs.YtigbjhkkbgdkcabGreatDoor

/-
  What ControlSeconds of the document's answers says; lists and texts are no longer than Go allows.
-/
namespace Go.Proofs.YtigbjhkkbgdkcabGreatDoor
open Go.RowKit

/-- What directive of the document's answers says. -/
def DirIs (ts : List (List UInt8 × Bool × List UInt8)) (s : List UInt8) (e : Ending) : Prop :=
  ∃ (n a : ByteArray) (f r : Bool), e = .returned (.tuple #[.agg #[.string n, .bool f, .string a], .bool r]) ∧ secK ts s = (numK a.data.toList, r) ∧ a.size ≤ maxLen ∧ ts.find? (isNm s) = if r = true then some (n.data.toList, f, a.data.toList) else none
theorem numK_nil : numK [] = 0 := rfl
set_option maxHeartbeats 2000000 in
set_option maxRecDepth 100000 in
theorem rdir_at (v : Value) (s : ByteArray) (ts : List (List UInt8 × Bool × List UInt8)) (w : World) (hf : Dl w v ts) (hm : MostD maxLen ts) :
    Calls Tryz.prog 40 #[v, .string s] w fun e w' => DirIs ts s.data.toList e ∧ Below w.heap.size w w' := by
  obtain ⟨ad, cap, hv, hcap, hcm, hc⟩ := hf
  subst hv
  have HC : Hid (0 < ts.length → ∃ g off, ad = some ⟨g, off, none⟩ ∧ g < w.heap.size ∧
    ∀ (k : Nat) (h : k < ts.length), w.cell? ⟨g, off + k * 3, none⟩ = some (.string ⟨(ts[k]).1.toArray⟩) ∧ w.cell? ⟨g, off + k * 3 + 1, none⟩ = some (.bool (ts[k]).2.1) ∧ w.cell? ⟨g, off + k * 3 + 2, none⟩ = some (.string ⟨(ts[k]).2.2.toArray⟩)) := hc
  have HM : Hid (MostD maxLen ts) := hm
  have HNEW : Hid (∀ W : World, Below (w.alloc (.cells #[.string ⟨#[]⟩, .bool false, .string ⟨#[]⟩] 59)).heap.size (w.alloc (.cells #[.string ⟨#[]⟩, .bool false, .string ⟨#[]⟩] 59)) W →
    W.cell? ⟨w.heap.size, 0, none⟩ = some (.string ⟨#[]⟩) ∧ W.cell? ⟨w.heap.size, 1, none⟩ = some (.bool false) ∧ W.cell? ⟨w.heap.size, 2, none⟩ = some (.string ⟨#[]⟩) ∧ (∀ o, W.frozen? ⟨w.heap.size, o, none⟩ = false) ∧ w.heap.size < W.heap.size ∧ Below w.heap.size w W) := fun W h => three_cells h
  unfold maxLen at hcm
  clear hc hm
  go_enter Tryz.func40, Tryz.ntmps40
  go_wp2_with fail
  go_loopw [10] (fun i wr => ∃ k : Nat, k ≤ ts.length ∧ i = .int .i64 k ∧ Hid ((ts.take k).any (isNm s.data.toList) = false) ∧ Below (w.alloc (.cells #[.string ⟨#[]⟩, .bool false, .string ⟨#[]⟩] 59)).heap.size (w.alloc (.cells #[.string ⟨#[]⟩, .bool false, .string ⟨#[]⟩] 59)) wr) (fun i _ => ts.length - (intOf i).toNat)
  case atStart => exact ⟨0, Nat.zero_le _, rfl, rfl, Below.refl _ _⟩
  case round =>
    obtain ⟨k, hk, rfl, HNO, hw⟩ := hrel
    obtain ⟨hf0, hf1, hf2, hfz, hgs0, hbel⟩ := HNEW.out wr hw
    have hz0 := hfz 0
    have hz1 := hfz 1
    have hz2 := hfz 2
    have hszw := hw.size
    clear hfz
    by_cases hlt : k < ts.length
    · obtain ⟨g, off, rfl, hgs, hce⟩ := HC.out (by omega)
      obtain ⟨c1, c2, c3⟩ := hce k hlt
      obtain ⟨n, hn⟩ : ∃ n : ByteArray, n = ⟨(ts[k]).1.toArray⟩ := ⟨_, rfl⟩
      obtain ⟨b, hb⟩ : ∃ b : Bool, b = (ts[k]).2.1 := ⟨_, rfl⟩
      obtain ⟨u, hu⟩ : ∃ u : ByteArray, u = ⟨(ts[k]).2.2.toArray⟩ := ⟨_, rfl⟩
      have HE : Hid ((n.data.toList, b, u.data.toList) = ts[k]) := by show _ = _; rw [hn, hb, hu]
      have hus : u.size ≤ maxLen := by rw [← size_list, hu]; exact (HM.out _ (List.getElem_mem hlt)).2
      have HUS : Hid (u.size ≤ maxLen) := hus
      rw [← hn] at c1; rw [← hb] at c2; rw [← hu] at c3
      have d1 : wr.cell? ⟨g, off + k * 3, none⟩ = some (.string n) := (hbel.cell (p := ⟨g, off + k * 3, none⟩) hgs).trans c1
      have d2 : wr.cell? ⟨g, off + k * 3 + 1, none⟩ = some (.bool b) := (hbel.cell (p := ⟨g, off + k * 3 + 1, none⟩) hgs).trans c2
      have d3 : wr.cell? ⟨g, off + k * 3 + 2, none⟩ = some (.string u) := (hbel.cell (p := ⟨g, off + k * 3 + 2, none⟩) hgs).trans c3
      have hgr : g < wr.heap.size := by omega
      clear hce c1 c2 c3 hn hb hu hus
      have hki : (k : Int) < (ts.length : Int) := by omega
      have hk0 : (0 : Int) ≤ (k : Int) := by omega
      have hq : (n.toList == s.toList) = isNm s.data.toList ts[k] := by rw [← HE.out]; unfold isNm; rw [ByteArray.toList_eq, ByteArray.toList_eq]
      have HW : Hid (Below (w.alloc (.cells #[.string ⟨#[]⟩, .bool false, .string ⟨#[]⟩] 59)).heap.size (w.alloc (.cells #[.string ⟨#[]⟩, .bool false, .string ⟨#[]⟩] 59)) wr) := hw
      clear hw
      cases hp : isNm s.data.toList ts[k]
      · rw [hp] at hq
        have HNX : Hid ((ts.take (k + 1)).any (isNm s.data.toList) = false) := any_snoc ts _ k hlt HNO.out hp
        clear hp
        go_wp2_with fail
        go_roundw
        case rel => exact ⟨k + 1, by omega, by go_num, HNX, HW.out.alloc HW.out.size _⟩
        case measure => simp [intOf]; omega
      · rw [hp] at hq
        have HS : Hid (secK ts s.data.toList = (numK u.data.toList, true)) := by show _ = _; rw [secK_at _ _ k hlt HNO.out hp, ← HE.out]
        have HFD : Hid (ts.find? (isNm s.data.toList) = if true = true then some (n.data.toList, b, u.data.toList) else none) := by show _ = _; rw [find_first ts _ k hlt HNO.out hp, HE.out]; rfl
        clear hp
        go_wp2_with fail
        obtain ⟨c0, c1, c2⟩ := three_set (.string n) (.bool b) (.string u) hf0 hf1 hf2
        obtain ⟨w4, hw4⟩ : ∃ w4, w4 = ((wr.setCell ⟨w.heap.size, 0, none⟩ (.string n)).setCell ⟨w.heap.size, 1, none⟩ (.bool b)).setCell ⟨w.heap.size, 2, none⟩ (.string u) := ⟨_, rfl⟩
        have hb4 : Below w.heap.size w w4 := by rw [hw4]; exact ((hbel.setCell (p := ⟨w.heap.size, 0, none⟩) (Nat.le_refl _) _).setCell (p := ⟨w.heap.size, 1, none⟩) (Nat.le_refl _) _).setCell (p := ⟨w.heap.size, 2, none⟩) (Nat.le_refl _) _
        rw [← hw4] at c0 c1 c2 ⊢
        clear hw4
        have e0 := (World.cell?_alloc_lt w4 (.cells #[.string n, .bool b, .string u] 59) _ (cell_in c0)).trans c0
        have e1 := (World.cell?_alloc_lt w4 (.cells #[.string n, .bool b, .string u] 59) _ (cell_in c1)).trans c1
        have e2 := (World.cell?_alloc_lt w4 (.cells #[.string n, .bool b, .string u] 59) _ (cell_in c2)).trans c2
        refine bodyPost_ret (by simp [results, Tryz.results40, go_sem, e0, e1, e2]; try rfl) rfl ?_
        refine ⟨?_, hb4.alloc hb4.size _⟩
        exact ⟨n, u, b, true, rfl, HS.out, HUS.out, HFD.out⟩
    · have HS : Hid (secK ts s.data.toList = (numK (⟨#[]⟩ : ByteArray).data.toList, false)) := by
        have h := HNO.out
        rw [List.take_of_length_le (by omega)] at h
        show _ = _
        rw [secK_no _ _ h]; rfl
      have HFD : Hid (ts.find? (isNm s.data.toList) = if false = true then some ((⟨#[]⟩ : ByteArray).data.toList, false, (⟨#[]⟩ : ByteArray).data.toList) else none) := by
        have h := HNO.out
        rw [List.take_of_length_le (by omega)] at h
        show _ = _
        rw [find_none _ _ h]; rfl
      go_wp2_with fail
      obtain ⟨c0, c1, c2⟩ := three_set (.string ⟨#[]⟩) (.bool false) (.string ⟨#[]⟩) hf0 hf1 hf2
      obtain ⟨w4, hw4⟩ : ∃ w4, w4 = ((wr.setCell ⟨w.heap.size, 0, none⟩ (.string ⟨#[]⟩)).setCell ⟨w.heap.size, 1, none⟩ (.bool false)).setCell ⟨w.heap.size, 2, none⟩ (.string ⟨#[]⟩) := ⟨_, rfl⟩
      have hb4 : Below w.heap.size w w4 := by rw [hw4]; exact ((hbel.setCell (p := ⟨w.heap.size, 0, none⟩) (Nat.le_refl _) _).setCell (p := ⟨w.heap.size, 1, none⟩) (Nat.le_refl _) _).setCell (p := ⟨w.heap.size, 2, none⟩) (Nat.le_refl _) _
      rw [← hw4] at c0 c1 c2 ⊢
      clear hw4
      refine bodyPost_ret (by simp [results, Tryz.results40, go_sem, c0, c1, c2]; try rfl) rfl ?_
      refine ⟨?_, hb4⟩
      exact ⟨⟨#[]⟩, ⟨#[]⟩, false, false, rfl, HS.out, Nat.zero_le _, HFD.out⟩
set_option maxHeartbeats 2000000 in
set_option maxRecDepth 100000 in
theorem rsecs_at (s : ByteArray) (w : World) (hs : s.size ≤ maxLen) :
    Calls Tryz.prog 38 #[.string s] w fun e w' => e = .returned (.int .i64 (numK s.data.toList)) ∧ w' = w := by
  have HS : Hid (s.size ≤ maxLen) := hs
  unfold maxLen at hs
  have HAL : Hid (allIn (⟨#[48, 49, 50, 51, 52, 53, 54, 55, 56, 57]⟩ : ByteArray).data.toList s.data.toList = s.data.toList.all isDig) := tens_all _
  cases hall : s.data.toList.all isDig
  · have HNK : Hid (numK s.data.toList = 0) := numK_no _ hall
    rw [hall] at HAL
    clear hall
    go_enter Tryz.func38, Tryz.ntmps38
    go_wp2_with fail
    refine (allOf_any s _ _ HS.out).mono ?_
    rintro e w1 ⟨rfl, rfl⟩
    rw [HAL.out]
    go_wp2_with fail
    go_ret
    exact ⟨by rw [HNK.out]; rfl, rfl⟩
  · have HNK : Hid (numK s.data.toList = runK s.data.toList) := numK_yes _ hall
    have HALL : Hid (s.data.toList.all isDig = true) := hall
    rw [hall] at HAL
    clear hall
    go_enter Tryz.func38, Tryz.ntmps38
    go_wp2_with fail
    refine (allOf_any s _ _ HS.out).mono ?_
    rintro e w1 ⟨rfl, rfl⟩
    rw [HAL.out]
    go_wp2_with fail
    go_loopw [3, 10] (fun nv i wr => ∃ (k : Nat) (n : Int), k ≤ s.size ∧ i = .int .i64 k ∧ nv = .int .i64 n ∧ Hid (n = runK (s.data.toList.take k)) ∧ wr = w1) (fun _ i _ => s.size - (intOf i).toNat)
    case atStart => exact ⟨0, 0, Nat.zero_le _, rfl, rfl, rfl, rfl⟩
    case round =>
      obtain ⟨k, n, hk, rfl, rfl, HN, rfl⟩ := hrel
      have hnb := runK_in (s.data.toList.take k) (by
        rw [List.all_eq_true]
        intro x hx
        exact List.all_eq_true.1 HALL.out x (List.mem_of_mem_take hx))
      rw [← HN.out] at hnb
      obtain ⟨hn0, hn1⟩ := hnb
      by_cases hlt : k < s.size
      · have hki : (k : Int) < (s.size : Int) := by omega
        have hk0 : (0 : Int) ≤ (k : Int) := by omega
        have htk : s.data.toList.take (k + 1) = s.data.toList.take k ++ [s[k]] := take_snoc s k hlt
        have hcl := s[k].toNat_lt
        obtain ⟨c, hc⟩ : ∃ c, s[k] = c := ⟨_, rfl⟩
        have hget : ∀ h, s[k]'h = c := fun _ => hc
        have hdg : isDig c = true := by
          rw [← hc]
          exact List.all_eq_true.1 HALL.out _ (List.getElem_mem (l := s.data.toList) (by rw [size_list]; exact hlt))
        have hd := (dig_iff c).1 hdg
        have HT : Hid (runK (s.data.toList.take (k + 1)) = min (n * 10 + ((c.toNat : Int) - 48)) 2147483648) := by
          show _ = _
          rw [htk, hc, runK_snoc, ← HN.out]; rfl
        have h1 : (48 : Int) ≤ (c.toNat : Int) := by omega
        have h2 : (c.toNat : Int) ≤ 57 := by omega
        clear htk hdg hd
        rw [hc] at hcl
        by_cases hbig : (2147483648 : Int) < 10 * n + ((c.toNat : Int) - 48)
        · have HT2 : Hid ((2147483648 : Int) = runK (s.data.toList.take (k + 1))) := by show _ = _; rw [HT.out]; omega
          go_wp2_with fail
          go_roundw
          case rel => exact ⟨k + 1, _, by omega, by go_num, rfl, HT2, trivial⟩
          case measure => simp [intOf]; omega
        · have HT2 : Hid (10 * n + ((c.toNat : Int) - 48) = runK (s.data.toList.take (k + 1))) := by show _ = _; rw [HT.out]; omega
          go_wp2_with fail
          go_roundw
          case rel => exact ⟨k + 1, _, by omega, by go_num, rfl, HT2, trivial⟩
          case measure => simp [intOf]; omega
      · have HK : Hid (numK s.data.toList = n) := by
          have h1 := HN.out
          rw [List.take_of_length_le (by rw [size_list]; omega)] at h1
          show _ = _
          rw [HNK.out, h1]
        go_wp2_with fail
        go_ret
        exact ⟨by rw [HK.out]; try rfl, rfl⟩
set_option maxHeartbeats 1000000 in
set_option maxRecDepth 100000 in
theorem rksec_at (v : Value) (s : ByteArray) (ts : List (List UInt8 × Bool × List UInt8)) (n : Int) (b : Bool) (h : secK ts s.data.toList = (n, b)) (w : World) (hf : Dl w v ts) (hm : MostD maxLen ts) :
    Calls Tryz.prog 28 #[v, .string s] w fun e w' => e = .returned (.tuple #[.int .i64 n, .bool b]) ∧ Below w.heap.size w w' := by
  have HF : Hid (Dl w v ts) := hf
  have HR : Hid (secK ts s.data.toList = (n, b)) := h
  have HM : Hid (MostD maxLen ts) := hm
  clear hf h hm
  go_enter Tryz.func28, Tryz.ntmps28
  go_wp2_with fail
  refine (rdir_at v s ts _ HF.out HM.out).mono ?_
  rintro e w2 ⟨hx, hb2⟩
  obtain ⟨x, a, f, r, rfl, hs, has, _⟩ := hx
  rw [HR.out] at hs
  obtain ⟨rfl, rfl⟩ := Prod.mk.inj hs
  have HAS : Hid (a.size ≤ maxLen) := has
  clear hs has
  go_wp2_with fail
  refine (rsecs_at a _ HAS.out).mono ?_
  rintro e w3 ⟨rfl, rfl⟩
  go_wp2_with fail
  go_ret2
  exact ⟨rfl, hb2.alloc hb2.size _⟩
end Go.Proofs.YtigbjhkkbgdkcabGreatDoor

/-
  What Get of the document's answers computes; lists and texts are no longer than Go allows, and the values, with what stands between them, fit in 2^47 bytes.
-/
namespace Go.Proofs.YtigbjhkkbgdkcabGreatDoor
open Go.RowKit

theorem rlower_at (s t : ByteArray) (h : t.data.toList = lower s.data.toList) (w : World) (hs : s.size ≤ 140737488351232) :
    Calls Tryz.prog 55 #[.string s] w fun e w' => e = .returned (.string t) ∧ w' = w := by
  refine (rlower_any s w hs).mono ?_
  rintro e w' ⟨rfl, hb⟩
  refine ⟨ret_str ?_, hb⟩
  apply ByteArray.ext; apply Array.ext'; exact h.symm
theorem nm_is (n s t1 t2 : ByteArray) (u : List UInt8) (h1 : t1.data.toList = lower n.data.toList) (h2 : t2.data.toList = lower s.data.toList) : nm s.data.toList (n.data.toList, u) = (t1.toList == t2.toList) := by
  rw [ByteArray.toList_eq, ByteArray.toList_eq, h1, h2]; rfl
theorem ret_sb' {a b : ByteArray} {c d : Bool} (h : a = b) (h' : c = d) : Ending.returned (.tuple #[.string a, .bool c]) = .returned (.tuple #[.string b, .bool d]) := by rw [h, h']
theorem ba_two (a b : ByteArray) (l : List UInt8) (h : a.data.toList ++ b.data.toList = l) : a ++ b = ⟨l.toArray⟩ := by
  apply ByteArray.ext; apply Array.ext'
  rw [ByteArray.data_append, Array.toList_append, h]

set_option maxHeartbeats 4000000 in
set_option maxRecDepth 100000 in
theorem rget_at (v : Value) (ls : List Fld) (s t : ByteArray) (b : Bool) (ht : t.data.toList = jn (vals ls s.data.toList)) (hb : b = !(vals ls s.data.toList).isEmpty) (w : World) (hf : Fl w v ls) (hbk : bulkF ls ≤ 1048576) (hs : s.size ≤ 140737488351232) :
    Calls Tryz.prog 37 #[v, .string s] w fun e w' => e = .returned (.tuple #[.string t, .bool b]) ∧ Below w.heap.size w w' := by
  obtain ⟨ad, cap, hv, hcap, hcm, hc⟩ := hf
  subst hv
  have HC : Hid (0 < ls.length → ∃ g off, ad = some ⟨g, off, none⟩ ∧ g < w.heap.size ∧
    ∀ (k : Nat) (h : k < ls.length), w.cell? ⟨g, off + k * 2, none⟩ = some (.string ⟨(ls[k]).1.toArray⟩) ∧ w.cell? ⟨g, off + k * 2 + 1, none⟩ = some (.string ⟨(ls[k]).2.toArray⟩)) := hc
  have HT : Hid (t.data.toList = jn (vals ls s.data.toList)) := ht
  have HB : Hid (b = !(vals ls s.data.toList).isEmpty) := hb
  have HBK : Hid (bulkF ls ≤ 1048576) := hbk
  have hbl := bulk_len ls
  obtain ⟨t2, ht2⟩ : ∃ t2 : ByteArray, t2.data.toList = lower s.data.toList := ⟨⟨(lower s.data.toList).toArray⟩, rfl⟩
  have HT2 : Hid (t2.data.toList = lower s.data.toList) := ht2
  clear hc ht hb hbk ht2
  unfold maxLen at hcm
  go_enter Tryz.func37, Tryz.ntmps37
  go_wp2_with fail
  go_loopw [6, 7, 12] (fun o q i wr => ∃ (k : Nat) (r : ByteArray) (c : Bool), k ≤ ls.length ∧ i = .int .i64 k ∧ o = .string r ∧ q = .bool c ∧ r.data.toList = jn (vals (ls.take k) s.data.toList) ∧ c = !(vals (ls.take k) s.data.toList).isEmpty ∧ Below w.heap.size w wr) (fun _ _ i _ => ls.length - (intOf i).toNat)
  case atStart => exact ⟨0, ⟨#[]⟩, false, Nat.zero_le _, rfl, rfl, rfl, rfl, rfl, Below.refl _ _⟩
  case round =>
    obtain ⟨k, r, c, hk, rfl, rfl, rfl, hr, hcc, hw⟩ := hrel
    have hsz := hw.size
    have hrs : r.size ≤ 1048576 := by
      rw [← size_list, hr]
      have h1 := jn_bulk (ls.take k) s.data.toList
      have h2 : bulkF (ls.take k) ≤ bulkF ls := by
        have : bulkF ls = bulkF (ls.take k ++ ls.drop k) := by rw [List.take_append_drop]
        rw [this, bulkF_app]; omega
      have := HBK.out
      omega
    have HR : Hid (r.data.toList = jn (vals (ls.take k) s.data.toList)) := hr
    have HCC : Hid (c = !(vals (ls.take k) s.data.toList).isEmpty) := hcc
    clear hr hcc
    by_cases hlt : k < ls.length
    · obtain ⟨g, off, rfl, hgs, hce⟩ := HC.out (by omega)
      obtain ⟨c1, c2⟩ := hce k hlt
      have hmo := bulk_most ls ls[k] (List.getElem_mem hlt)
      have hbk := HBK.out
      obtain ⟨n, hn⟩ : ∃ n : ByteArray, n = ⟨(ls[k]).1.toArray⟩ := ⟨_, rfl⟩
      obtain ⟨u, hu⟩ : ∃ u : ByteArray, u = ⟨(ls[k]).2.toArray⟩ := ⟨_, rfl⟩
      have hns : n.size ≤ 1048576 := by rw [← size_list, hn]; exact Nat.le_trans hmo.1 hbk
      have hus : u.size ≤ 1048576 := by rw [← size_list, hu]; exact Nat.le_trans hmo.2 hbk
      have HE : Hid ((n.data.toList, u.data.toList) = ls[k]) := by show _ = _; rw [hn, hu]
      have HV := vals_take ls s.data.toList k hlt
      rw [← HE.out] at HV
      obtain ⟨t1, ht1⟩ : ∃ t1 : ByteArray, t1.data.toList = lower n.data.toList := ⟨⟨(lower n.data.toList).toArray⟩, rfl⟩
      have HT1 : Hid (t1.data.toList = lower n.data.toList) := ht1
      have HNM := nm_is n s t1 t2 u.data.toList ht1 HT2.out
      have d1 : wr.cell? ⟨g, off + k * 2, none⟩ = some (.string n) := by rw [hw.cell (p := ⟨g, off + k * 2, none⟩) hgs, hn]; exact c1
      have d2 : wr.cell? ⟨g, off + k * 2 + 1, none⟩ = some (.string u) := by rw [hw.cell (p := ⟨g, off + k * 2 + 1, none⟩) hgs, hu]; exact c2
      have hgr : g < wr.heap.size := by omega
      clear hce c1 c2 hmo hn hu ht1 hbk
      have hki : (k : Int) < (ls.length : Int) := by omega
      have hk0 : (0 : Int) ≤ (k : Int) := by omega
      cases hq : (t1.toList == t2.toList)
      · rw [HNM, hq] at HV
        have HV2 : Hid (vals (ls.take (k + 1)) s.data.toList = vals (ls.take k) s.data.toList) := by show _ = _; rw [HV]; simp
        clear HV HNM
        go_wp2_with fail
        refine (rlower_at n t1 HT1.out _ (by omega)).mono ?_
        rintro e w1 ⟨rfl, rfl⟩
        go_wp2_with fail
        refine (rlower_at s t2 HT2.out _ hs).mono ?_
        rintro e w2 ⟨rfl, rfl⟩
        go_wp2_with fail
        go_roundw
        case rel => exact ⟨k + 1, r, c, by omega, by go_num, rfl, rfl, by rw [HV2.out]; exact HR.out, by rw [HV2.out]; exact HCC.out, hw.alloc hsz _⟩
        case measure => simp [intOf]; omega
      · rw [HNM, hq] at HV
        have HV2 : Hid (vals (ls.take (k + 1)) s.data.toList = vals (ls.take k) s.data.toList ++ [u.data.toList]) := by show _ = _; rw [HV]; simp
        clear HV HNM
        cases c
        · have HX : Hid (vals (ls.take k) s.data.toList = []) := by
            have := HCC.out
            show _ = _
            simpa using this
          have HRE : Hid (r = ⟨#[]⟩) := by
            show _ = _
            apply ByteArray.ext; apply Array.ext'
            rw [HR.out, HX.out]; rfl
          have HN : Hid ((r ++ u).data.toList = jn (vals (ls.take (k + 1)) s.data.toList)) := by
            show _ = _
            rw [HV2.out, jn_snoc, if_pos HX.out, HRE.out, ByteArray.data_append, Array.toList_append]; rfl
          have HN2 : Hid (true = !(vals (ls.take (k + 1)) s.data.toList).isEmpty) := by show _ = _; rw [HV2.out]; simp
          go_wp2_with fail
          refine (rlower_at n t1 HT1.out _ (by omega)).mono ?_
          rintro e w1 ⟨rfl, rfl⟩
          go_wp2_with fail
          refine (rlower_at s t2 HT2.out _ hs).mono ?_
          rintro e w2 ⟨rfl, rfl⟩
          go_wp2_with fail
          go_roundw
          case rel => exact ⟨k + 1, r ++ u, true, by omega, by go_num, rfl, rfl, HN.out, HN2.out, hw.alloc hsz _⟩
          case measure => simp [intOf]; omega
        · have HX : Hid (vals (ls.take k) s.data.toList ≠ []) := by
            have := HCC.out
            show _ ≠ _
            intro e
            rw [e] at this
            simp at this
          have HN : Hid ((r ++ ⟨#[44, 32]⟩ ++ u).data.toList = jn (vals (ls.take (k + 1)) s.data.toList)) := by
            show _ = _
            rw [HV2.out, jn_snoc, if_neg HX.out, ByteArray.data_append, Array.toList_append, ByteArray.data_append, Array.toList_append, HR.out]
          have HN2 : Hid (true = !(vals (ls.take (k + 1)) s.data.toList).isEmpty) := by show _ = _; rw [HV2.out]; simp
          go_wp2_with fail
          refine (rlower_at n t1 HT1.out _ (by omega)).mono ?_
          rintro e w1 ⟨rfl, rfl⟩
          go_wp2_with fail
          refine (rlower_at s t2 HT2.out _ hs).mono ?_
          rintro e w2 ⟨rfl, rfl⟩
          go_wp2_with fail
          go_roundw
          case rel => exact ⟨k + 1, r ++ ⟨#[44, 32]⟩ ++ u, true, by omega, by go_num, rfl, rfl, HN.out, HN2.out, hw.alloc hsz _⟩
          case measure => simp [intOf]; omega
    · have HEnd : Hid (ls.take k = ls) := List.take_of_length_le (by omega)
      go_wp2_with fail
      go_ret2
      refine ⟨ret_sb' ?_ (by rw [HB.out, HCC.out, HEnd.out]), hw⟩
      apply ByteArray.ext; apply Array.ext'
      rw [HT.out, HR.out, HEnd.out]
end Go.Proofs.YtigbjhkkbgdkcabGreatDoor

/-
  What count of the document's answers computes, a contract over the program's text; no condition but that a string is no longer than Go allows.
-/
namespace Go.Proofs.YtigbjhkkbgdkcabGreatDoor
open Go.RowKit

theorem ret_in {a b : Int} (h : a = b) : Ending.returned (.int .i64 a) = .returned (.int .i64 b) := by rw [h]
theorem head_at (s : ByteArray) (h : 0 < s.size) : s.data.toList.head? = some s[0] := by
  have h' : 0 < s.data.toList.length := by rw [size_list]; exact h
  rw [List.head?_eq_getElem?, List.getElem?_eq_getElem h']
  rfl
theorem numb_18 (l : List UInt8) (h : l.all isDig = true) (hl : l.length ≤ 18) : 0 ≤ numb l ∧ numb l < 1000000000000000000 := by
  obtain ⟨a, b⟩ := numb_dig l h
  refine ⟨a, Int.lt_of_lt_of_le b ?_⟩
  have : (10 : Nat) ^ l.length ≤ 10 ^ 18 := Nat.pow_le_pow_right (by decide) hl
  have e : ((10 : Nat) ^ l.length : Int) = (10 : Int) ^ l.length := rfl
  omega

theorem cnt_no (l : List UInt8) (most : Int) (h : l.length = 0 ∨ 18 < l.length ∨ (1 < l.length ∧ l.head? = some 48) ∨ l.all isDig = false) : cnt l most = -1 := if_pos h
theorem cnt_big (l : List UInt8) (most : Int) (h : most < numb l) : cnt l most = -1 := by
  unfold cnt; split <;> first | rfl | exact if_pos h
theorem cnt_yes (l : List UInt8) (most : Int) (h : ¬ (l.length = 0 ∨ 18 < l.length ∨ (1 < l.length ∧ l.head? = some 48) ∨ l.all isDig = false)) (h' : ¬ most < numb l) : cnt l most = numb l := by
  unfold cnt; rw [if_neg h, if_neg h']

set_option maxHeartbeats 1000000 in
set_option maxRecDepth 100000 in
theorem count_go (s : ByteArray) (most : Int) (w : World) (h0 : s.size ≠ 0) (h18 : s.size ≤ 18) (hh : ¬ (1 < s.size ∧ s.data.toList.head? = some 48)) :
    Calls Tryz.prog 80 #[.string s, .int .i64 most] w fun e w' => e = .returned (.int .i64 (cnt s.data.toList most)) ∧ w' = w := by
  have hp : 0 < s.size := by omega
  have hl : s.data.toList.length = s.size := size_list s
  have HN : Hid (s.data.toList.all isDig = true → ¬ (s.data.toList.length = 0 ∨ 18 < s.data.toList.length ∨ (1 < s.data.toList.length ∧ s.data.toList.head? = some 48) ∨ s.data.toList.all isDig = false)) := by
    intro ha
    rintro (g | g | g | g)
    · omega
    · omega
    · exact hh (by rw [hl] at g; exact g)
    · rw [ha] at g; cases g
  have HF : Hid (s.data.toList.all isDig = false → cnt s.data.toList most = -1) := fun h => cnt_no _ _ (.inr (.inr (.inr h)))
  have he : s.toList.isEmpty = false := by rw [ByteArray.toList_eq, isEmpty_size]; simpa using h0
  have hd : decide (18 < (s.size : Int)) = false := decide_eq_false (by omega)
  have HE : Hid (s.size = 1 ∨ 1 < s.size ∧ s[0] ≠ 48) := by
    by_cases h1 : s.size = 1
    · exact .inl h1
    · exact .inr ⟨by omega, fun h => hh ⟨by omega, by rw [head_at s hp, h]⟩⟩
  clear hl hh
  have two : ∀ b : Bool, decide (1 < (s.size : Int)) = b → (b = true → ((s[0].toNat : Int) == 48) = false) → 
    Calls Tryz.prog 80 #[.string s, .int .i64 most] w fun e w' => e = .returned (.int .i64 (cnt s.data.toList most)) ∧ w' = w := by
    intro b hb hz
    cases b
    all_goals
      first | replace hz := hz rfl | clear hz
      go_enter Tryz.func80, Tryz.ntmps80
      go_wp2_with fail
      go_loop [5, 26] (fun n i => ∃ k : Nat, k ≤ s.size ∧ i = .int .i64 k ∧ n = .int .i64 (numb (s.data.toList.take k)) ∧ (s.data.toList.take k).all isDig = true) (fun _ i => s.size - (intOf i).toNat)
      case atStart => exact ⟨0, Nat.zero_le _, rfl, rfl, rfl⟩
      case round =>
        obtain ⟨k, hk, rfl, rfl, ha⟩ := hrel
        have HA : Hid ((s.data.toList.take k).all isDig = true) := ha
        have hbd := numb_18 _ ha (by rw [List.length_take, size_list]; omega)
        clear ha
        by_cases hlt : k < s.size
        · have HS : Hid (numb (s.data.toList.take (k + 1)) = numb (s.data.toList.take k) * 10 + (s[k].toNat : Int) - 48) := by
            show numb _ = _
            rw [take_snoc s k hlt, numb_snoc]
          have hc := s[k].toNat_lt
          by_cases c1 : (s[k].toNat : Int) < 48
          · have HX : Hid (s.data.toList.all isDig = false) := all_false s isDig k hlt (by
              cases h : isDig s[k]
              · rfl
              · have := (dig_iff _).1 h; omega)
            go_wp2_with fail
            go_ret
            exact ⟨ret_in (HF.out HX.out).symm, rfl⟩
          · by_cases c2 : 57 < (s[k].toNat : Int)
            · have HX : Hid (s.data.toList.all isDig = false) := all_false s isDig k hlt (by
                cases h : isDig s[k]
                · rfl
                · have := (dig_iff _).1 h; omega)
              go_wp2_with fail
              go_ret
              exact ⟨ret_in (HF.out HX.out).symm, rfl⟩
            · have hb2 := numb_18 (s.data.toList.take (k + 1)) (by
                rw [take_snoc s k hlt, List.all_append, HA.out, List.all_cons, (dig_iff _).2 (by omega)]; rfl) (by rw [List.length_take, size_list]; omega)
              rw [HS.out] at hb2
              have c3 : 48 ≤ (s[k].toNat : Int) := by omega
              have c4 : (s[k].toNat : Int) ≤ 57 := by omega
              clear c1 c2
              go_wp2_with fail
              go_round
              case rel => exact ⟨k + 1, by omega, by go_num, by rw [HS.out]; go_num, by rw [take_snoc s k hlt, List.all_append, HA.out, List.all_cons, (dig_iff _).2 (by omega)]; rfl⟩
              case measure => simp [intOf]; omega
        · obtain rfl : k = s.size := by omega
          have HA' : Hid (s.data.toList.all isDig = true) := by have := HA.out; rw [take_all] at this; exact this
          by_cases hm : most < numb (s.data.toList.take s.size)
          · have HM : Hid (most < numb s.data.toList) := by rw [take_all] at hm; exact hm
            go_wp2_with fail
            go_ret
            exact ⟨ret_in (cnt_big _ _ HM.out).symm, rfl⟩
          · have HM : Hid (numb s.data.toList ≤ most) := by rw [take_all] at hm; exact Int.not_lt.1 hm
            go_wp2_with fail
            go_ret
            exact ⟨ret_in (by rw [cnt_yes _ _ (HN.out HA'.out) (Int.not_lt.2 HM.out), take_all]), rfl⟩
  rcases HE.out with h1 | ⟨h1, h2⟩
  · exact two false (decide_eq_false (by omega)) (fun h => by cases h)
  · refine two true (decide_eq_true (by omega)) (fun _ => ?_)
    rw [beq_eq_false_iff_ne]
    intro h
    apply h2
    apply UInt8.toNat_inj.1
    show s[0].toNat = 48
    omega

set_option maxHeartbeats 1000000 in
theorem count_any (s : ByteArray) (most : Int) (w : World) (hs : s.size ≤ maxLen) :
    Calls Tryz.prog 80 #[.string s, .int .i64 most] w fun e w' => e = .returned (.int .i64 (cnt s.data.toList most)) ∧ w' = w := by
  unfold maxLen at hs
  have hl : s.data.toList.length = s.size := size_list s
  by_cases h0 : s.size = 0
  · have HC : Hid (cnt s.data.toList most = -1) := cnt_no _ _ (.inl (by omega))
    have he : s.toList.isEmpty = true := by rw [ByteArray.toList_eq, isEmpty_size]; simpa using h0
    clear hl
    go_enter Tryz.func80, Tryz.ntmps80
    go_wp2_with fail
    go_ret
    exact ⟨ret_in HC.out.symm, rfl⟩
  by_cases h18 : 18 < s.size
  · have HC : Hid (cnt s.data.toList most = -1) := cnt_no _ _ (.inr (.inl (by omega)))
    have he : s.toList.isEmpty = false := by rw [ByteArray.toList_eq, isEmpty_size]; simpa using h0
    have hd : decide (18 < (s.size : Int)) = true := decide_eq_true (by omega)
    clear hl
    go_enter Tryz.func80, Tryz.ntmps80
    go_wp2_with fail
    go_ret
    exact ⟨ret_in HC.out.symm, rfl⟩
  by_cases hh : 1 < s.size ∧ s.data.toList.head? = some 48
  · have HC : Hid (cnt s.data.toList most = -1) := cnt_no _ _ (.inr (.inr (.inl (by rw [hl]; exact hh))))
    have he : s.toList.isEmpty = false := by rw [ByteArray.toList_eq, isEmpty_size]; simpa using h0
    have hd : decide (18 < (s.size : Int)) = false := decide_eq_false (by omega)
    have h1 := hh.1
    have hp : 0 < s.size := by omega
    have hd1 : decide (1 < (s.size : Int)) = true := decide_eq_true (by omega)
    have hz : s[0] = 48 := by have := hh.2; rw [head_at s hp] at this; exact Option.some.inj this
    have hq : ((s[0].toNat : Int) == 48) = true := by rw [hz]; rfl
    clear hl hh hz
    go_enter Tryz.func80, Tryz.ntmps80
    go_wp2_with fail
    go_ret
    exact ⟨ret_in HC.out.symm, rfl⟩
  exact count_go s most w h0 (by omega) hh
end Go.Proofs.YtigbjhkkbgdkcabGreatDoor

/-
  What chr of the document's answers computes, a contract over the program's text.
-/
namespace Go.Proofs.YtigbjhkkbgdkcabGreatDoor
open Go.RowKit

theorem mk_data (s : ByteArray) (l : List UInt8) (h : s.data.toList = l) : s = ⟨l.toArray⟩ := by
  apply ByteArray.ext
  rw [← h, Array.toArray_toList]
theorem app_list (a b : ByteArray) : (a ++ b).data.toList = a.data.toList ++ b.data.toList := by
  rw [ByteArray.data_append, Array.toList_append]

set_option maxHeartbeats 1000000 in
set_option maxRecDepth 100000 in
theorem rchr_any (u : Nat) (h : u < 256) (w : World) :
    Calls Tryz.prog 146 #[.int .i64 (u : Int)] w fun e w' => e = .returned (.string ⟨#[UInt8.ofNat u]⟩) ∧ Below w.heap.size w w' := by
  have h1 : (u : Int) < 256 := by omega
  have h0 : (0 : Int) ≤ (u : Int) := by omega
  have hcv := run_convert_bytes_back (P := Tryz.prog) (w.alloc (.cells #[.int .u8 (u : Int)] 5)) 86 9 5 ⟨w.heap.size, 0, none⟩ 1 [UInt8.ofNat u] Tryz.underlying86 Tryz.underlying5 Tryz.underlying9 (fun j hj => by
    have hj' : j < 1 := hj
    obtain rfl : j = 0 := by omega
    rw [show (⟨w.heap.size, 0, none⟩ : Addr).add 0 = ⟨w.heap.size, 0, none⟩ from rfl, World.cell?_alloc_at _ _ _ _ (by simp)]
    simp [Nat.mod_eq_of_lt h])
  rw [show ([UInt8.ofNat u] : List UInt8).length = 1 from rfl] at hcv
  go_enter Tryz.func146, Tryz.ntmps146
  go_wp2_with fail
  go_ret
  exact ⟨rfl, (Below.refl _ w).alloc (Nat.le_refl _) _⟩
end Go.Proofs.YtigbjhkkbgdkcabGreatDoor

/-
  What chr and Digits of the document's answers compute, each a contract over the program's text.
-/
namespace Go.Proofs.YtigbjhkkbgdkcabGreatDoor
open Go.RowKit

theorem dec_len (u : Nat) (h : u ≤ 9223372036854775807) : (Lib.decDigits u).length ≤ 21 := by
  have := Lib.itoa_length_le (u : Int) (by omega) (by omega)
  rw [Lib.itoa, if_neg (by omega)] at this
  simpa using this

set_option maxHeartbeats 1000000 in
set_option maxRecDepth 100000 in
theorem rdigits_any (N : Nat) : ∀ (u : Nat) (_ : u ≤ N) (_ : u ≤ 9223372036854775807) (w : World),
    Calls Tryz.prog 132 #[.int .i64 (u : Int)] w fun e w' => e = .returned (.string ⟨(Lib.decDigits u).toArray⟩) ∧ Below w.heap.size w w' := by
  induction N with
  | zero =>
    intro u h1 h2 w
    obtain rfl : u = 0 := by omega
    have c := rchr_any 48 (by omega) w
    go_enter Tryz.func132, Tryz.ntmps132
    go_wp2_with fail
    refine c.mono ?_
    rintro e w1 ⟨rfl, hb⟩
    go_wp2_with fail
    go_ret
    exact ⟨ret_str (by rw [Lib.decDigits_one (by omega)]; rfl), hb⟩
  | succ N ih =>
    intro u h1 h2 w
    by_cases h10 : u < 10
    · have c := rchr_any (48 + u) (by omega) w
      have hi : (u : Int) < 10 := by omega
      have HL : Hid (Lib.decDigits u = [UInt8.ofNat (48 + u)]) := Lib.decDigits_one h10
      rw [Int.natCast_add] at c
      clear ih
      go_enter Tryz.func132, Tryz.ntmps132
      go_wp2_with fail
      refine c.mono ?_
      rintro e w1 ⟨rfl, hb⟩
      go_wp2_with fail
      go_ret
      exact ⟨ret_str (by rw [HL.out, UInt8.ofNat_add]; rfl), hb⟩
    · have c1 := ih (u / 10) (by omega) (by omega) w
      have c2 := rchr_any (48 + u % 10) (by omega)
      have hlen := dec_len (u / 10) (by omega)
      obtain ⟨t, ht⟩ : ∃ t : ByteArray, t = ⟨(Lib.decDigits (u / 10)).toArray⟩ := ⟨_, rfl⟩
      rw [← ht] at c1
      have hts : t.size ≤ 21 := by rw [← size_list, ht]; exact hlen
      have HL : Hid (Lib.decDigits u = t.data.toList ++ [UInt8.ofNat (48 + u % 10)]) := by
        show Lib.decDigits u = _
        rw [Lib.decDigits, dif_neg h10, ht]
      have hi : ¬ (u : Int) < 10 := by omega
      have hmx : (u : Int) ≤ 9223372036854775807 := by omega
      rw [Int.natCast_ediv] at c1
      clear ih ht hlen
      go_enter Tryz.func132, Tryz.ntmps132
      go_wp2_with fail
      refine c1.mono ?_
      rintro e w1 ⟨rfl, hb1⟩
      have c3 := c2 w1
      rw [Int.natCast_add, Int.natCast_emod] at c3
      clear c2
      go_wp2_with fail
      refine c3.mono ?_
      rintro e w2 ⟨rfl, hb2⟩
      have HB : Hid (Below w.heap.size w w2) := hb1.trans (hb2.mono hb1.size)
      clear hb1 hb2 c3
      go_wp2_with fail
      go_ret
      exact ⟨ret_str (mk_data _ _ (by rw [app_list, HL.out, UInt8.ofNat_add]; rfl)), HB.out⟩
end Go.Proofs.YtigbjhkkbgdkcabGreatDoor

/-
  What the calendar of the document's answers computes: leap, monthDays, yearDays, outside, Days and Civil, each a contract over the program's text.
-/
namespace Go.Proofs.YtigbjhkkbgdkcabGreatDoor
open Go.RowKit

set_option maxHeartbeats 400000 in
theorem rleap_any (y : Int) (w : World) (h1 : 1970 ≤ y) (h2 : y ≤ 10000) :
    Calls Tryz.prog 131 #[.int .i64 y] w fun e w' => e = .returned (.bool (lpB y)) ∧ w' = w := by
  have h0 : 0 ≤ y := by omega
  by_cases c : y % 400 = 0
  · have HL : Hid (lpB y = true) := lpB_yes (by omega) (.inr c)
    go_enter Tryz.func131, Tryz.ntmps131
    go_wp2
    go_ret
    exact ⟨ret_bool (by rw [HL.out]), rfl⟩
  · have c' : (y % 400 == 0) = false := by rw [beq_eq_false_iff_ne]; exact c
    by_cases b : y % 100 = 0
    · have HL : Hid (lpB y = false) := lpB_no (by omega)
      go_enter Tryz.func131, Tryz.ntmps131
      go_wp2
      go_ret
      exact ⟨ret_bool (by rw [HL.out]), rfl⟩
    · have b' : (y % 100 == 0) = false := by rw [beq_eq_false_iff_ne]; exact b
      by_cases a : y % 4 = 0
      · have HL : Hid (lpB y = true) := lpB_yes a (.inl b)
        go_enter Tryz.func131, Tryz.ntmps131
        go_wp2
        go_ret
        exact ⟨ret_bool (by rw [HL.out]; simpa using b), rfl⟩
      · have HL : Hid (lpB y = false) := lpB_no (by omega)
        have a' : (y % 4 == 0) = false := by rw [beq_eq_false_iff_ne]; exact a
        go_enter Tryz.func131, Tryz.ntmps131
        go_wp2
        go_ret
        exact ⟨ret_bool (by rw [HL.out]), rfl⟩

theorem outside_no (n a b : Int) (w : World) (h1 : a ≤ n) (h2 : n ≤ b) :
    Calls Tryz.prog 107 #[.int .i64 n, .int .i64 a, .int .i64 b] w fun e w' => e = .returned (.bool false) ∧ w' = w := by
  go_enter Tryz.func107, Tryz.ntmps107
  go_wp2
  go_ret
  exact ⟨ret_bool (by simp; omega), rfl⟩
theorem outside_yes (n a b : Int) (w : World) (h : n < a ∨ b < n) :
    Calls Tryz.prog 107 #[.int .i64 n, .int .i64 a, .int .i64 b] w fun e w' => e = .returned (.bool true) ∧ w' = w := by
  by_cases h1 : n < a
  · clear h
    go_enter Tryz.func107, Tryz.ntmps107
    go_wp2
    go_ret
    exact ⟨rfl, rfl⟩
  · have h2 : b < n := by omega
    clear h
    go_enter Tryz.func107, Tryz.ntmps107
    go_wp2
    go_ret
    exact ⟨rfl, rfl⟩

def mcells (f : Int) : Array Value := #[.int .i64 31, .int .i64 f, .int .i64 31, .int .i64 30, .int .i64 31, .int .i64 30, .int .i64 31, .int .i64 31, .int .i64 30, .int .i64 31, .int .i64 30, .int .i64 31]
def MDays (y : Int) (b : Nat) (w : World) : Prop := ∀ i : Nat, i < 12 → w.cell? ⟨b, i, none⟩ = some (.int .i64 (dim y (i + 1)))

theorem mdays_of {y : Int} {b : Nat} {w : World} (h : w.heap[b]? = some (.cells (mcells (28 + lp y)) 3 (0, 0))) : MDays y b w := by
  intro i hi
  rw [Lib.cell_of_heap h]
  rcases (show i = 0 ∨ i = 1 ∨ i = 2 ∨ i = 3 ∨ i = 4 ∨ i = 5 ∨ i = 6 ∨ i = 7 ∨ i = 8 ∨ i = 9 ∨ i = 10 ∨ i = 11 by omega) with rfl | rfl | rfl | rfl | rfl | rfl | rfl | rfl | rfl | rfl | rfl | rfl <;> simp [mcells, dim]

set_option maxHeartbeats 1000000 in
theorem rmonth_any (y : Int) (w : World) (h1 : 1970 ≤ y) (h2 : y ≤ 10000) :
    Calls Tryz.prog 108 #[.int .i64 y] w fun e w' => e = .returned (.slice (some ⟨w.heap.size, 0, none⟩) 12 12) ∧ MDays y w.heap.size w' ∧ w'.heap.size = w.heap.size + 1 ∧ Below w.heap.size w w' := by
  cases hl : lpB y
  · have HL : Hid (lpB y = false) := hl
    have h0 : (w.alloc (.cells (mcells 28) 3)).heap[w.heap.size]? = some (.cells (mcells 28) 3 (0, 0)) := heap_alloc_new _ _
    have HM : Hid (MDays y w.heap.size (w.alloc (.cells (mcells 28) 3))) := mdays_of (by rw [lp_of_false hl]; exact h0)
    clear hl h0
    go_enter Tryz.func108, Tryz.ntmps108
    go_wp2_with fail
    refine (rleap_any _ _ h1 h2).mono ?_
    rintro e w' ⟨rfl, rfl⟩
    rw [HL.out]
    go_wp2_with fail
    go_ret
    exact ⟨rfl, HM.out, by simp, (Below.refl _ w).alloc (Nat.le_refl _) _⟩
  · have HL : Hid (lpB y = true) := hl
    have h9 : (w.alloc (.cells (mcells 29) 3)).heap[w.heap.size]? = some (.cells (mcells 29) 3 (0, 0)) := heap_alloc_new _ _
    have HM : Hid (MDays y w.heap.size (w.alloc (.cells (mcells 29) 3))) := mdays_of (by rw [lp_of_true hl]; exact h9)
    clear hl h9
    go_enter Tryz.func108, Tryz.ntmps108
    go_wp2_with fail
    refine (rleap_any _ _ h1 h2).mono ?_
    rintro e w' ⟨rfl, rfl⟩
    rw [HL.out]
    go_wp2_with fail
    go_ret
    exact ⟨rfl, HM.out, by simp, (Below.refl _ w).alloc (Nat.le_refl _) _⟩

set_option maxHeartbeats 1000000 in
theorem ryear_any (y : Int) (w : World) (h1 : 1970 ≤ y) (h2 : y ≤ 10000) :
    Calls Tryz.prog 109 #[.int .i64 y] w fun e w' => e = .returned (.int .i64 (dby y)) ∧ w' = w := by
  go_enter Tryz.func109, Tryz.ntmps109
  go_wp2_with fail
  go_loop [3, 4] (fun n i => ∃ k : Int, 1970 ≤ k ∧ k ≤ y ∧ i = .int .i64 k ∧ n = .int .i64 (dby k)) (fun _ i => (10000 - intOf i).toNat)
  case atStart => exact ⟨1970, by omega, by omega, rfl, rfl⟩
  case round =>
    obtain ⟨k, hk1, hk2, rfl, rfl⟩ := hrel
    have hb := dby_bd k hk1 (by omega)
    have HS : Hid (dby (k + 1) = dby k + 365 + lp k) := dby_succ k
    by_cases hlt : k < y
    · cases hl : lpB k
      · have HL : Hid (lpB k = false) := hl
        have HP : Hid (lp k = 0) := lp_of_false hl
        clear hl
        go_wp2_with fail
        refine (rleap_any _ _ hk1 (by omega)).mono ?_
        rintro e w' ⟨rfl, rfl⟩
        rw [HL.out]
        go_wp2_with fail
        go_round
        case rel => exact ⟨k + 1, by omega, by omega, rfl, by rw [HS.out, HP.out, Int.add_zero]⟩
        case measure => simp [intOf]; omega
      · have HL : Hid (lpB k = true) := hl
        have HP : Hid (lp k = 1) := lp_of_true hl
        clear hl
        go_wp2_with fail
        refine (rleap_any _ _ hk1 (by omega)).mono ?_
        rintro e w' ⟨rfl, rfl⟩
        rw [HL.out]
        go_wp2_with fail
        go_round
        case rel => exact ⟨k + 1, by omega, by omega, rfl, by rw [HS.out, HP.out]⟩
        case measure => simp [intOf]; omega
    · obtain rfl : k = y := by omega
      go_wp2_with fail
      go_ret
      exact ⟨rfl, rfl⟩
end Go.Proofs.YtigbjhkkbgdkcabGreatDoor

/-
  What pad of the document's answers computes, a contract over the program's text.
-/
namespace Go.Proofs.YtigbjhkkbgdkcabGreatDoor
open Go.RowKit

def szOf : Value → Nat | .string s => s.size | _ => 0

set_option maxHeartbeats 1000000 in
set_option maxRecDepth 100000 in
theorem pad2_any (x : Int) (h0 : 0 ≤ x) (h1 : x < 100) (w : World) :
    Calls Tryz.prog 111 #[.int .i64 x, .int .i64 2] w fun e w' => e = .returned (.string ⟨(dig2 x.toNat).toArray⟩) ∧ Below w.heap.size w w' := by
  obtain ⟨u, rfl⟩ := Int.eq_ofNat_of_zero_le h0
  have c := rdigits_any u u (Nat.le_refl _) (by omega) w
  obtain ⟨t, ht⟩ : ∃ t : ByteArray, t = ⟨(Lib.decDigits u).toArray⟩ := ⟨_, rfl⟩
  rw [← ht] at c
  have HL : Hid (t.data.toList = Lib.decDigits u) := by show t.data.toList = _; rw [ht]
  clear ht
  by_cases hu : u < 10
  · have hz : t.size = 1 := by rw [← size_list, HL.out, Lib.decDigits_one hu]; rfl
    go_enter Tryz.func111, Tryz.ntmps111
    go_wp2_with fail
    refine c.mono ?_
    rintro e w1 ⟨rfl, hb⟩
    have HB : Hid (Below w.heap.size w w1) := hb
    have HE : Hid ((⟨#[48]⟩ : ByteArray) ++ t = ⟨(dig2 u).toArray⟩) := mk_data _ _ (by rw [app_list, HL.out, ← dec_1 u hu])
    clear hb c
    go_wp2_with fail
    go_loop [5] (fun s => s = .string t ∨ s = .string ((⟨#[48]⟩ : ByteArray) ++ t)) (fun s => 2 - szOf s)
    case atStart => exact .inl rfl
    case round =>
      rcases hrel with rfl | rfl
      · go_wp2_with fail
        go_round
        case rel => exact .inr rfl
        case measure => simp [szOf, hz]; rfl
      · go_wp2_with fail
        go_ret
        exact ⟨ret_str HE.out, HB.out⟩
  · have hz : t.size = 2 := by rw [← size_list, HL.out, dec_2 u hu (by omega)]; rfl
    go_enter Tryz.func111, Tryz.ntmps111
    go_wp2_with fail
    refine c.mono ?_
    rintro e w1 ⟨rfl, hb⟩
    have HB : Hid (Below w.heap.size w w1) := hb
    have HE : Hid (t = ⟨(dig2 u).toArray⟩) := mk_data _ _ (by rw [HL.out, ← dec_2 u hu (by omega)])
    clear hb c
    go_wp2_with fail
    go_loop [5] (fun s => s = .string t) (fun _ => 0)
    case atStart => rfl
    case round =>
      obtain rfl := hrel
      go_wp2_with fail
      go_ret
      exact ⟨ret_str HE.out, HB.out⟩

set_option maxHeartbeats 1000000 in
set_option maxRecDepth 100000 in
theorem pad4_any (x : Int) (h0 : 1000 ≤ x) (h1 : x ≤ 9999) (w : World) :
    Calls Tryz.prog 111 #[.int .i64 x, .int .i64 4] w fun e w' => e = .returned (.string ⟨(dig4 x.toNat).toArray⟩) ∧ Below w.heap.size w w' := by
  obtain ⟨u, rfl⟩ := Int.eq_ofNat_of_zero_le (show 0 ≤ x by omega)
  have c := rdigits_any u u (Nat.le_refl _) (by omega) w
  obtain ⟨t, ht⟩ : ∃ t : ByteArray, t = ⟨(Lib.decDigits u).toArray⟩ := ⟨_, rfl⟩
  rw [← ht] at c
  have HE : Hid (t = ⟨(dig4 u).toArray⟩) := by show t = _; rw [ht, dec_4 u (by omega) (by omega)]
  have hz : t.size = 4 := by rw [← size_list, HE.out]; rfl
  clear ht
  go_enter Tryz.func111, Tryz.ntmps111
  go_wp2_with fail
  refine c.mono ?_
  rintro e w1 ⟨rfl, hb⟩
  have HB : Hid (Below w.heap.size w w1) := hb
  clear hb c
  go_wp2_with fail
  go_loop [5] (fun s => s = .string t) (fun _ => 0)
  case atStart => rfl
  case round =>
    obtain rfl := hrel
    go_wp2_with fail
    go_ret
    exact ⟨ret_str HE.out, HB.out⟩
end Go.Proofs.YtigbjhkkbgdkcabGreatDoor

/-
  What Days and Civil of the document's answers compute, each a contract over the program's text.
-/
namespace Go.Proofs.YtigbjhkkbgdkcabGreatDoor
open Go.RowKit

set_option maxHeartbeats 1000000 in
theorem rdays_no (y m d : Int) (w : World) (h : vldB y m d = false) :
    Calls Tryz.prog 82 #[.int .i64 y, .int .i64 m, .int .i64 d] w fun e w' => e = .returned (.tuple #[.int .i64 0, .int .i64 1]) ∧ Below w.heap.size w w' := by
  have hn : ¬ (1970 ≤ y ∧ y ≤ 9999 ∧ 1 ≤ m ∧ m ≤ 12 ∧ 1 ≤ d ∧ d ≤ dim y m) := fun g => by rw [vld_mk g] at h; cases h
  clear h
  by_cases b1 : y < 1970 ∨ 9999 < y
  · clear hn
    go_enter Tryz.func82, Tryz.ntmps82
    go_wp2_with fail
    refine (outside_yes _ _ _ _ b1).mono ?_
    rintro e w' ⟨rfl, rfl⟩
    go_wp2_with fail
    go_ret2
    exact ⟨rfl, Below.refl _ _⟩
  by_cases b2 : m < 1 ∨ 12 < m
  · clear hn
    go_enter Tryz.func82, Tryz.ntmps82
    go_wp2_with fail
    refine (outside_no _ _ _ _ (by omega) (by omega)).mono ?_
    rintro e w' ⟨rfl, rfl⟩
    go_wp2_with fail
    refine (outside_yes _ _ _ _ b2).mono ?_
    rintro e w' ⟨rfl, rfl⟩
    go_wp2_with fail
    go_ret2
    exact ⟨rfl, Below.refl _ _⟩
  have b3 : d < 1 ∨ dim y m < d := by omega
  have y1 : 1970 ≤ y := by omega
  have y2 : y ≤ 9999 := by omega
  obtain ⟨k, rfl⟩ : ∃ k : Nat, m = (k : Int) + 1 := ⟨(m - 1).toNat, by omega⟩
  have hk : k < 12 := by omega
  have B3 : Hid (d < 1 ∨ dim y (k + 1) < d) := b3
  clear hn b1 b2 b3
  go_enter Tryz.func82, Tryz.ntmps82
  go_wp2_with fail
  refine (outside_no _ _ _ _ y1 y2).mono ?_
  rintro e w' ⟨rfl, rfl⟩
  go_wp2_with fail
  refine (outside_no _ _ _ _ (by omega) (by omega)).mono ?_
  rintro e w' ⟨rfl, rfl⟩
  go_wp2_with fail
  refine (rmonth_any _ _ y1 (by omega)).mono ?_
  rintro e w2 ⟨rfl, hm, hz, hb⟩
  have hc := hm k hk
  clear hm
  go_wp2_with fail
  refine (outside_yes _ _ _ _ B3.out).mono ?_
  rintro e w' ⟨rfl, rfl⟩
  go_wp2_with fail
  go_ret2
  exact ⟨rfl, hb⟩

set_option maxHeartbeats 2000000 in
theorem rdays_yes (y m d : Int) (w : World) (h : vldB y m d = true) :
    Calls Tryz.prog 82 #[.int .i64 y, .int .i64 m, .int .i64 d] w fun e w' => e = .returned (.tuple #[.int .i64 (num y m d), .int .i64 0]) ∧ Below w.heap.size w w' := by
  obtain ⟨a1, a2, a3, a4, a5, a6⟩ := vld_iff.1 h
  have hdl := dim_lo y m
  have hbd := dby_bd y a1 (by omega)
  have HN : Hid (num y m d = dby y + cum y m + d - 1) := rfl
  clear h
  obtain ⟨k, rfl⟩ : ∃ k : Nat, m = (k : Int) + 1 := ⟨(m - 1).toNat, by omega⟩
  have hk : k < 12 := by omega
  have hd31 : d ≤ 31 := by omega
  have A6 : Hid (d ≤ dim y (k + 1)) := a6
  clear a6 hdl
  go_enter Tryz.func82, Tryz.ntmps82
  go_wp2_with fail
  refine (outside_no _ _ _ _ a1 a2).mono ?_
  rintro e w ⟨rfl, rfl⟩
  go_wp2_with fail
  refine (outside_no _ _ _ _ (by omega) (by omega)).mono ?_
  rintro e w ⟨rfl, rfl⟩
  go_wp2_with fail
  refine (rmonth_any _ _ a1 (by omega)).mono ?_
  rintro e w2 ⟨rfl, hm, hz, hb⟩
  have hc := hm k hk
  clear hm
  go_wp2_with fail
  refine (outside_no _ _ _ _ a5 A6.out).mono ?_
  rintro e w2 ⟨rfl, rfl⟩
  go_wp2_with fail
  refine (ryear_any _ _ a1 (by omega)).mono ?_
  rintro e w2 ⟨rfl, rfl⟩
  clear hc
  go_wp2_with fail
  refine (rmonth_any _ _ a1 (by omega)).mono ?_
  rintro e w3 ⟨rfl, hm3, hz3, hb3⟩
  have HM : Hid (MDays y (w.heap.size + 1) w3) := by rw [hz] at hm3; exact hm3
  have HB : Hid (Below w.heap.size w w3) := hb.trans (hb3.mono (by omega))
  clear hm3 hb3 hb
  go_wp2_with fail
  go_loop [8, 38] (fun n i => ∃ j : Nat, j ≤ k ∧ i = .int .i64 j ∧ n = .int .i64 (dby y + d - 1 + cum y (j + 1))) (fun _ i => k - (intOf i).toNat)
  case atStart => exact ⟨0, Nat.zero_le _, rfl, by rw [show ((0 : Nat) : Int) + 1 = 1 from rfl, cum_one, Int.add_zero]⟩
  case round =>
    obtain ⟨j, hj, rfl, rfl⟩ := hrel
    have cb := cum_bd y (j + 1)
    have db := dim_lo y (j + 1)
    have CS : Hid (cum y ((j : Int) + 1 + 1) = cum y (j + 1) + dim y (j + 1)) := cum_succ y (j + 1) (by omega) (by omega)
    by_cases hlt : j < k
    · have hc := HM.out j (by omega)
      go_wp2_with fail
      go_round
      case rel => exact ⟨j + 1, by omega, by go_num, by rw [show ((j + 1 : Nat) : Int) + 1 = (j : Int) + 1 + 1 from rfl, CS.out]; go_num⟩
      case measure => simp [intOf]; omega
    · obtain rfl : j = k := by omega
      go_wp2_with fail
      go_ret2
      exact ⟨ret_ie (by rw [HN.out]; omega) rfl, HB.out⟩

theorem rcivil_no (n : Int) (w : World) (h : n < 0 ∨ 2932896 < n) :
    Calls Tryz.prog 110 #[.int .i64 n] w fun e w' => e = .returned (.tuple #[.int .i64 0, .int .i64 0, .int .i64 0, .int .i64 1]) ∧ w' = w := by
  have H : Hid (n < 0 ∨ 2932896 < n) := h
  clear h
  go_enter Tryz.func110, Tryz.ntmps110
  go_wp2_with fail
  refine (outside_yes _ _ _ _ H.out).mono ?_
  rintro e w ⟨rfl, rfl⟩
  go_wp2_with fail
  exact bodyPost_ret (v := .tuple #[.int .i64 0, .int .i64 0, .int .i64 0, .int .i64 1]) (by simp [results, Tryz.results110, go_sem]) rfl ⟨rfl, rfl⟩

set_option maxHeartbeats 4000000 in
theorem rcivil_yes (n : Int) (w : World) (h1 : 0 ≤ n) (h2 : n ≤ 2932896) :
    Calls Tryz.prog 110 #[.int .i64 n] w fun e w' => ∃ y m d : Int, e = .returned (.tuple #[.int .i64 y, .int .i64 m, .int .i64 d, .int .i64 0]) ∧ vldB y m d = true ∧ num y m d = n ∧ Below w.heap.size w w' := by
  go_enter Tryz.func110, Tryz.ntmps110
  go_wp2_with fail
  refine (outside_no _ _ _ _ h1 h2).mono ?_
  rintro e w ⟨rfl, rfl⟩
  go_wp2_with fail
  go_loop [0, 6] (fun r t => ∃ y : Int, 1970 ≤ y ∧ y ≤ 9999 ∧ dby y ≤ n ∧ t = .int .i64 y ∧ r = .int .i64 (n - dby y)) (fun _ t => (9999 - intOf t).toNat)
  case atStart => exact ⟨1970, by omega, by omega, by rw [dby_0]; exact h1, rfl, by rw [dby_0, Int.sub_zero]⟩
  case round =>
    obtain ⟨y, hy1, hy2, hy3, rfl, rfl⟩ := hrel
    have hb := dby_bd y hy1 (by omega)
    have hl := lp_01 y
    have HS : Hid (dby (y + 1) = dby y + 365 + lp y) := dby_succ y
    have HMax : Hid (y = 9999 → dby (y + 1) = 2932897) := fun h => by rw [h]; exact dby_max
    by_cases hc : n - dby y < 365 + lp y
    · have HC : Hid (n < dby y + 365 + lp y) := by show n < dby y + 365 + lp y; omega
      cases hl : lpB y
      all_goals
        have HL : Hid (lpB y = _) := hl
        have hlt : if lpB y = true then n - dby y < 366 else n - dby y < 365 := by
          rw [hl]
          first
          | (have := lp_of_true hl; simp; omega)
          | (have := lp_of_false hl; simp; omega)
        rw [hl] at hlt
        simp only [if_true, if_false, Bool.false_eq_true] at hlt
        clear hl hc
        go_wp2_with fail
        refine (rleap_any _ _ hy1 (by omega)).mono ?_
        rintro e w ⟨rfl, rfl⟩
        rw [HL.out]
        go_wp2_with fail
        clear hlt HL
        go_loopw [0, 8] (fun r k wr => ∃ j : Nat, j < 12 ∧ k = .int .i64 j ∧ 0 ≤ n - dby y - cum y (j + 1) ∧ r = .int .i64 (n - dby y - cum y (j + 1)) ∧ Below w.heap.size w wr) (fun _ k _ => 12 - (intOf k).toNat)
        case atStart => exact ⟨0, by omega, rfl, by rw [show ((0 : Nat) : Int) + 1 = 1 from rfl, cum_one]; omega, by rw [show ((0 : Nat) : Int) + 1 = 1 from rfl, cum_one, Int.sub_zero], Below.refl _ _⟩
        case round =>
          obtain ⟨j, hj, rfl, hr, rfl, hw⟩ := hrel
          have hsz := hw.size
          have cb := cum_bd y (j + 1)
          have db := dim_lo y (j + 1)
          have CS : Hid (cum y ((j : Int) + 1 + 1) = cum y (j + 1) + dim y (j + 1)) := cum_succ y (j + 1) (by omega) (by omega)
          by_cases hc : dim y (j + 1) ≤ n - dby y - cum y (j + 1)
          · have hm : j < 11 := by
              by_cases hm : j < 11
              · exact hm
              · obtain rfl : j = 11 := by omega
                have e := CS.out
                have e' : cum y (((11 : Nat) : Int) + 1 + 1) = 365 + lp y := cum_13 y
                have := HC.out
                omega
            go_wp2_with fail
            refine (rmonth_any _ _ hy1 (by omega)).mono ?_
            rintro e w1 ⟨rfl, hm1, hz1, hb1⟩
            have hc1 := hm1 j hj
            clear hm1
            go_wp2_with fail
            refine (rmonth_any _ _ hy1 (by omega)).mono ?_
            rintro e w2 ⟨rfl, hm2, hz2, hb2⟩
            rw [hz1] at hm2
            have hc2 := hm2 j hj
            clear hm2 hc1
            have HW : Hid (Below w.heap.size w w2) := hw.trans ((hb1.mono hsz).trans (hb2.mono (by omega)))
            clear hb1 hb2
            go_wp2_with fail
            go_roundw
            case rel => exact ⟨j + 1, by omega, by go_num, by rw [show ((j + 1 : Nat) : Int) + 1 = (j : Int) + 1 + 1 from rfl, CS.out]; omega, by rw [show ((j + 1 : Nat) : Int) + 1 = (j : Int) + 1 + 1 from rfl, CS.out]; go_num, HW.out⟩
            case measure => simp [intOf]; omega
          · go_wp2_with fail
            refine (rmonth_any _ _ hy1 (by omega)).mono ?_
            rintro e w1 ⟨rfl, hm1, hz1, hb1⟩
            have hc1 := hm1 j hj
            clear hm1
            have HW : Hid (Below w.heap.size w w1) := hw.trans (hb1.mono hsz)
            clear hb1
            go_wp2_with fail
            exact bodyPost_ret (v := .tuple #[.int .i64 y, .int .i64 (j + 1), .int .i64 (n - dby y - cum y (j + 1) + 1), .int .i64 0]) (by simp [results, Tryz.results110, go_sem]) rfl ⟨y, _, _, rfl, vld_of n y (j + 1) hy1 hy2 (by omega) (by omega) hr (by omega), num_of n y (j + 1), HW.out⟩
    · have hlt : y < 9999 := by
        by_cases hlt : y < 9999
        · exact hlt
        · have e := HMax.out (by omega)
          have e' := HS.out
          omega
      cases hl : lpB y
      · have HL : Hid (lpB y = false) := hl
        have HP : Hid (lp y = 0) := lp_of_false hl
        have hge : ¬ n - dby y < 365 := by have := HP.out; omega
        clear hl hc
        go_wp2_with fail
        refine (rleap_any _ _ hy1 (by omega)).mono ?_
        rintro e w ⟨rfl, rfl⟩
        rw [HL.out]
        go_wp2_with fail
        go_round
        case rel => exact ⟨y + 1, by omega, by omega, by rw [HS.out, HP.out]; omega, rfl, by rw [HS.out, HP.out]; go_num⟩
        case measure => simp [intOf]; omega
      · have HL : Hid (lpB y = true) := hl
        have HP : Hid (lp y = 1) := lp_of_true hl
        have hge : ¬ n - dby y < 366 := by have := HP.out; omega
        clear hl hc
        go_wp2_with fail
        refine (rleap_any _ _ hy1 (by omega)).mono ?_
        rintro e w ⟨rfl, rfl⟩
        rw [HL.out]
        go_wp2_with fail
        go_round
        case rel => exact ⟨y + 1, by omega, by omega, by rw [HS.out, HP.out]; omega, rfl, by rw [HS.out, HP.out]; go_num⟩
        case measure => simp [intOf]; omega
end Go.Proofs.YtigbjhkkbgdkcabGreatDoor

/-
  What DatePrint of the document's answers computes, a contract over the program's text.
-/
namespace Go.Proofs.YtigbjhkkbgdkcabGreatDoor
open Go.RowKit

theorem ret_sr {a b : ByteArray} {c d : Int} (h : a = b) (h' : c = d) : Ending.returned (.tuple #[.string a, .int .i64 c]) = .returned (.tuple #[.string b, .int .i64 d]) := by rw [h, h']
theorem weekV (k : Nat) (h : k < 7) : ∀ hh, ([Value.string ⟨#[84, 104, 117]⟩, Value.string ⟨#[70, 114, 105]⟩, Value.string ⟨#[83, 97, 116]⟩, Value.string ⟨#[83, 117, 110]⟩, Value.string ⟨#[77, 111, 110]⟩, Value.string ⟨#[84, 117, 101]⟩, Value.string ⟨#[87, 101, 100]⟩] : List Value)[k]'hh = .string ⟨(weekS k).toArray⟩ := by
  intro hh
  rcases (show k = 0 ∨ k = 1 ∨ k = 2 ∨ k = 3 ∨ k = 4 ∨ k = 5 ∨ k = 6 by omega) with rfl | rfl | rfl | rfl | rfl | rfl | rfl <;> rfl
theorem monthV (k : Nat) (h : k < 12) : ∀ hh, ([Value.string ⟨#[74, 97, 110]⟩, Value.string ⟨#[70, 101, 98]⟩, Value.string ⟨#[77, 97, 114]⟩, Value.string ⟨#[65, 112, 114]⟩, Value.string ⟨#[77, 97, 121]⟩, Value.string ⟨#[74, 117, 110]⟩, Value.string ⟨#[74, 117, 108]⟩, Value.string ⟨#[65, 117, 103]⟩, Value.string ⟨#[83, 101, 112]⟩, Value.string ⟨#[79, 99, 116]⟩, Value.string ⟨#[78, 111, 118]⟩, Value.string ⟨#[68, 101, 99]⟩] : List Value)[k]'hh = .string ⟨(monthS k).toArray⟩ := by
  intro hh
  rcases (show k = 0 ∨ k = 1 ∨ k = 2 ∨ k = 3 ∨ k = 4 ∨ k = 5 ∨ k = 6 ∨ k = 7 ∨ k = 8 ∨ k = 9 ∨ k = 10 ∨ k = 11 by omega) with rfl | rfl | rfl | rfl | rfl | rfl | rfl | rfl | rfl | rfl | rfl | rfl <;> rfl

theorem rdprint_no (n : Int) (w : World) (h : n < 0 ∨ 253402300799 < n) :
    Calls Tryz.prog 83 #[.int .i64 n] w fun e w' => e = .returned (.tuple #[.string ⟨#[]⟩, .int .i64 1]) ∧ w' = w := by
  have H : Hid (n < 0 ∨ 253402300799 < n) := h
  clear h
  go_enter Tryz.func83, Tryz.ntmps83
  go_wp2_with fail
  refine (outside_yes _ _ _ _ H.out).mono ?_
  rintro e w ⟨rfl, rfl⟩
  go_wp2_with fail
  go_ret2
  exact ⟨rfl, rfl⟩

set_option maxHeartbeats 4000000 in
set_option maxRecDepth 100000 in
theorem rdprint_yes (n : Int) (w : World) (h1 : 0 ≤ n) (h2 : n ≤ 253402300799) :
    Calls Tryz.prog 83 #[.int .i64 n] w fun e w' => ∃ y m d : Int, e = .returned (.tuple #[.string ⟨(dtext n y m d).toArray⟩, .int .i64 0]) ∧ vldB y m d = true ∧ num y m d = n / 86400 ∧ Below w.heap.size w w' := by
  go_enter Tryz.func83, Tryz.ntmps83
  go_wp2_with fail
  refine (outside_no _ _ _ _ h1 h2).mono ?_
  rintro e w ⟨rfl, rfl⟩
  go_wp2_with fail
  refine (rcivil_yes _ _ (by omega) (by omega)).mono ?_
  rintro e w1 ⟨y, m, d, rfl, hv, hn, hb⟩
  have HV : Hid (vldB y m d = true) := hv
  have HN : Hid (num y m d = n / 86400) := hn
  have HB1 : Hid (Below w.heap.size w w1) := hb
  obtain ⟨a1, a2, a3, a4, a5, a6⟩ := vld_iff.1 hv
  have hdl := dim_lo y m
  have hd31 : d ≤ 31 := by omega
  clear hv hn a6 hdl hb
  obtain ⟨k, hk⟩ : ∃ k : Nat, n / 86400 % 7 = (k : Int) := ⟨(n / 86400 % 7).toNat, by omega⟩
  have hk7 : k < 7 := by omega
  obtain ⟨j, hj⟩ : ∃ j : Nat, m - 1 = (j : Int) := ⟨(m - 1).toNat, by omega⟩
  have hj12 : j < 12 := by omega
  have ew := weekV k hk7
  have em := monthV j hj12
  have hX : dtext n y m d = weekS k ++ [44, 32] ++ dig2 d.toNat ++ [32] ++ monthS j ++ [32] ++ dig4 y.toNat ++ [32]
    ++ dig2 (n / 3600 % 24).toNat ++ [58] ++ dig2 (n / 60 % 60).toNat ++ [58] ++ dig2 (n % 60).toNat ++ [32, 71, 77, 84] := by
    unfold dtext; rw [hk, hj, show n % 86400 / 3600 = n / 3600 % 24 by omega, show n % 3600 / 60 = n / 60 % 60 by omega]; rfl
  obtain ⟨a, ha⟩ : ∃ a : ByteArray, a = ⟨(weekS k).toArray⟩ := ⟨_, rfl⟩
  obtain ⟨b, hb⟩ : ∃ b : ByteArray, b = ⟨(monthS j).toArray⟩ := ⟨_, rfl⟩
  rw [← ha] at ew
  rw [← hb] at em
  have hza : a.size = 3 := by rw [← size_list, ha]; exact week_len k hk7
  have hzb : b.size = 3 := by rw [← size_list, hb]; exact month_len j hj12
  have LA : Hid (weekS k = a.data.toList) := by show weekS k = _; rw [ha]
  have LB : Hid (monthS j = b.data.toList) := by show monthS j = _; rw [hb]
  have HX : Hid (dtext n y m d = _) := hX
  clear ha hb hX
  go_wp2_with fail
  refine (pad2_any _ (by omega) (by omega) _).mono ?_
  rintro e w2 ⟨rfl, hb⟩
  have HB2 : Hid (Below w.heap.size w w2) := (((HB1.out.alloc HB1.out.size _).alloc (by simp; have := HB1.out.size; omega) _).trans (hb.mono (by simp; have := HB1.out.size; omega)))
  clear hb HB1
  obtain ⟨c1, hc⟩ : ∃ c : ByteArray, c = ⟨(dig2 d.toNat).toArray⟩ := ⟨_, rfl⟩
  rw [← hc]
  have hz1 : c1.size = 2 := by rw [hc]; rfl
  have L1 : Hid (dig2 d.toNat = c1.data.toList) := by show dig2 d.toNat = _; rw [hc]
  clear hc
  go_wp2_with fail
  refine (pad4_any _ (by omega) (by omega) _).mono ?_
  rintro e w3 ⟨rfl, hb⟩
  have HB3 : Hid (Below w.heap.size w w3) := HB2.out.trans (hb.mono HB2.out.size)
  clear hb HB2
  obtain ⟨c2, hc⟩ : ∃ c : ByteArray, c = ⟨(dig4 y.toNat).toArray⟩ := ⟨_, rfl⟩
  rw [← hc]
  have hz2 : c2.size = 4 := by rw [hc]; rfl
  have L2 : Hid (dig4 y.toNat = c2.data.toList) := by show dig4 y.toNat = _; rw [hc]
  clear hc
  go_wp2_with fail
  refine (pad2_any _ (by omega) (by omega) _).mono ?_
  rintro e w4 ⟨rfl, hb⟩
  have HB4 : Hid (Below w.heap.size w w4) := HB3.out.trans (hb.mono HB3.out.size)
  clear hb HB3
  obtain ⟨c3, hc⟩ : ∃ c : ByteArray, c = ⟨(dig2 (n / 3600 % 24).toNat).toArray⟩ := ⟨_, rfl⟩
  rw [← hc]
  have hz3 : c3.size = 2 := by rw [hc]; rfl
  have L3 : Hid (dig2 (n / 3600 % 24).toNat = c3.data.toList) := by show dig2 (n / 3600 % 24).toNat = _; rw [hc]
  clear hc
  go_wp2_with fail
  refine (pad2_any _ (by omega) (by omega) _).mono ?_
  rintro e w5 ⟨rfl, hb⟩
  have HB5 : Hid (Below w.heap.size w w5) := HB4.out.trans (hb.mono HB4.out.size)
  clear hb HB4
  obtain ⟨c4, hc⟩ : ∃ c : ByteArray, c = ⟨(dig2 (n / 60 % 60).toNat).toArray⟩ := ⟨_, rfl⟩
  rw [← hc]
  have hz4 : c4.size = 2 := by rw [hc]; rfl
  have L4 : Hid (dig2 (n / 60 % 60).toNat = c4.data.toList) := by show dig2 (n / 60 % 60).toNat = _; rw [hc]
  clear hc
  go_wp2_with fail
  refine (pad2_any _ (by omega) (by omega) _).mono ?_
  rintro e w6 ⟨rfl, hb⟩
  have HB6 : Hid (Below w.heap.size w w6) := HB5.out.trans (hb.mono HB5.out.size)
  clear hb HB5
  obtain ⟨c5, hc⟩ : ∃ c : ByteArray, c = ⟨(dig2 (n % 60).toNat).toArray⟩ := ⟨_, rfl⟩
  rw [← hc]
  have hz5 : c5.size = 2 := by rw [hc]; rfl
  have L5 : Hid (dig2 (n % 60).toNat = c5.data.toList) := by show dig2 (n % 60).toNat = _; rw [hc]
  clear hc
  go_wp2_with fail
  go_ret2
  refine ⟨y, m, d, ret_sr (mk_data _ _ ?_) rfl, HV.out, HN.out, HB6.out⟩
  rw [HX.out, LA.out, LB.out, L1.out, L2.out, L3.out, L4.out, L5.out]
  simp only [app_list]
end Go.Proofs.YtigbjhkkbgdkcabGreatDoor
