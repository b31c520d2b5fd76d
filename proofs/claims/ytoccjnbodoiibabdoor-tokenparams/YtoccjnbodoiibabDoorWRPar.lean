/-
  What Params of the document's answers computes; the text is no longer than Go allows.
-/
import Derived.Test.YtoccjnbodoiibabDoorWPar
import Derived.Test.YtoccjnbodoiibabDoorWRUnq
import Derived.Test.YtoccjnbodoiibabDoorWRParts
import Derived.Test.YtoccjnbodoiibabDoorWTok
import Derived.Test.YtoccjnbodoiibabDoorWRTok
import Derived.Test.YtoccjnbodoiibabDoorWRLow
namespace Go.Proofs.YtoccjnbodoiibabDoor
open Go.RowKit

theorem take_ext (s : ByteArray) (k : Nat) : (s.extract 0 k).data.toList = s.data.toList.take k := by
  rw [Lib.extract_data]; simp
theorem drop_ext (s : ByteArray) (k : Nat) : (s.extract k s.size).data.toList = s.data.toList.drop k := by
  rw [Lib.extract_data, List.take_of_length_le (by rw [List.length_drop, size_list]; omega)]
theorem rps_step (P : List (List UInt8)) (k : Nat) (h : k < P.length) : rps (P.take (k + 1)) = rpstep (rps (P.take k)) P[k] := by
  rw [List.take_succ_eq_append_getElem h, rps_snoc]

theorem elemS : Tryd.prog.elem 30 = 9 := by kernel_rfl
theorem slice_one (g n cap off cp : Nat) (h : (cap = 1 → off = 0 ∧ cp = 0) ∧ (cap ≠ 1 → off = 1 ∧ cp = cap - 1)) (u : World) :
    (Instr.slice 30 (.slice (some ⟨g, 0, none⟩) (n + 1) cap) (some (.int .i64 1)) none none).run Tryd.prog u = .ok (.slice (some ⟨g, off, none⟩) n cp) u := by
  rw [run_slice_l u 30 (some ⟨g, 0, none⟩) (n + 1) cap (by rw [elemS]; exact Tryd.underlying30) .i64 1 (by omega) (by omega), elemS, Tryd.sizeOf9]
  by_cases hc : cap = 1
  · obtain ⟨rfl, rfl⟩ := h.1 hc
    subst hc
    simp [Result.andThen, sliced]
  · obtain ⟨rfl, rfl⟩ := h.2 hc
    simp [Result.andThen, sliced, Addr.add, hc]

set_option maxHeartbeats 8000000 in
set_option maxRecDepth 100000 in
theorem rparams_any (s : ByteArray) (w : World) :
    Calls Tryd.prog 6 #[.string s] w fun e w' => ∃ v, e = .returned (.tuple #[.string ⟨(paramsS s.data.toList).1.toArray⟩, v, .int .i64 (paramsS s.data.toList).2.2]) ∧
      w'.ownsRow w.heap.size 28 2 v (paramsS s.data.toList).2.1.length (pars (paramsS s.data.toList).2.1) ∧ Below w.heap.size w w' := by
  obtain ⟨i0, hi, hz0, hz1, hz2⟩ := info_parts infoP
  by_cases h1 : 1000 < (s.size : Int)
  · have HS : Hid (paramsS s.data.toList = ([], [], 2)) := ps_long _ (by rw [size_list]; omega)
    go_enter Tryd.func6, Tryd.ntmps6
    go_wp2_with fail
    go_ret3
    exact ⟨.slice none 0 0, by rw [HS.out]; rfl, by rw [HS.out]; exact World.ownsRow_nil _ _ _ _, Below.refl _ _⟩
  · have hs : s.size ≤ 1000 := by omega
    have HL : Hid (¬ 1000 < s.data.toList.length) := by show ¬ _; rw [size_list]; omega
    clear h1
    cases he : ends 59 s.data.toList
    · have HE : Hid (ends 59 s.data.toList = false) := he
      have HS : Hid (paramsS s.data.toList = ([], [], 3)) := ps_open _ HL.out he
      clear he
      go_enter Tryd.func6, Tryd.ntmps6
      go_wp2_with fail
      refine (rparts_any s 59 _ hs).mono ?_
      rintro e w1 ⟨v, rfl, hown, hb⟩
      rw [HE.out]
      go_wp2_with fail
      go_ret3
      exact ⟨.slice none 0 0, by rw [HS.out]; rfl, by rw [HS.out]; exact World.ownsRow_nil _ _ _ _, hb⟩
    · have HE : Hid (ends 59 s.data.toList = true) := he
      clear he
      obtain ⟨p, P0, hP⟩ := pieces_cons s.data.toList
      obtain ⟨P, hPP⟩ : ∃ P, P = P0.map trimL := ⟨_, rfl⟩
      have hPm : (pieces 59 s.data.toList).map trimL = trimL p :: P := by rw [hP, hPP]; rfl
      have HPM : Hid ((pieces 59 s.data.toList).map trimL = trimL p :: P) := hPm
      have HPL : Hid ((pieces 59 s.data.toList).length = P.length + 1) := by show _ = _; rw [hP, hPP]; simp
      have hlen := pieces_len 59 s.data.toList
      rw [hP, size_list] at hlen
      have hPl : P.length ≤ 1000 := by
        have h1 : (pieces 59 s.data.toList).length ≤ s.size + 1 := by
          unfold pieces
          have := cutS_len 59 s.data.toList
          rw [size_list] at this
          simp; omega
        rw [HPL.out] at h1
        omega
      obtain ⟨u, hu⟩ : ∃ u : ByteArray, u = ⟨(trimL p).toArray⟩ := ⟨_, rfl⟩
      have HU : Hid (u = ⟨(trimL p).toArray⟩) := hu
      have HLN : Hid (∀ q ∈ P, q.length ≤ 1000) := by
        intro q hq
        rw [hPP] at hq
        obtain ⟨q0, hq0, rfl⟩ := List.mem_map.1 hq
        have h1 := trimL_len q0
        have h2 := hlen q0 (by simp [hq0])
        omega
      have HHD : Hid (trimL ((pieces 59 s.data.toList).headD []) = u.data.toList) := by show _ = _; rw [hP, hu]; rfl
      have HTL : Hid ((pieces 59 s.data.toList).tail.map trimL = P) := by show _ = _; rw [hP, hPP]; rfl
      clear hP hlen hu hPP hPm
      cases hem : u.toList.isEmpty
      · have HEM : Hid ((trimL ((pieces 59 s.data.toList).headD [])).isEmpty = false) := by show _ = _; rw [HHD.out, ← ByteArray.toList_eq]; exact hem
        go_enter Tryd.func6, Tryd.ntmps6
        go_wp2_with fail
        refine (rparts_any s 59 _ hs).mono ?_
        rintro e w1 ⟨v, rfl, hown, hb⟩
        rw [HE.out]
        rw [HPM.out, HPL.out] at hown
        obtain ⟨ad, cap, hv, hcm, hnc, hcells⟩ := own_slice hown
        obtain ⟨g, had, hgB, hgs, hce⟩ := hcells (by omega)
        subst hv had
        unfold maxLen at hcm
        have hc0 : w1.cell? ⟨g, 0, none⟩ = some (.string u) := by rw [hce 0 (by omega), HU.out]; rfl
        have HCE : Hid (∀ j, j < P.length → w1.cell? ⟨g, 1 + j, none⟩ = (strs P)[j]?) := by
          intro j hj
          rw [hce (1 + j) (by omega), Nat.add_comm]
          simp [strs]
        have hbs := hb.size
        clear hown hce
        obtain ⟨off, cp, hof⟩ : ∃ off cp : Nat, (cap = 1 → off = 0 ∧ cp = 0) ∧ (cap ≠ 1 → off = 1 ∧ cp = cap - 1) := by
          by_cases h : cap = 1
          · exact ⟨0, 0, fun _ => ⟨rfl, rfl⟩, fun h' => absurd h h'⟩
          · exact ⟨1, cap - 1, fun h' => absurd h' h, fun _ => ⟨rfl, rfl⟩⟩
        have HOF : Hid (0 < P.length → off = 1) := fun h => (hof.2 (by omega)).1
        have HSL : Hid (∀ u : World, (Instr.slice 30 (.slice (some ⟨g, 0, none⟩) (P.length + 1) cap) (some (.int .i64 1)) none none).run Tryd.prog u = .ok (.slice (some ⟨g, off, none⟩) P.length cp) u) := by
          exact slice_one g P.length cap off cp hof
        have hsl := HSL.out
        clear hof
        go_wp2_with fail
        clear hsl
        go_loopw [7, 33] (fun v i wr => ∃ (k : Nat) (ps : List Par), k ≤ P.length ∧ i = .int .i64 k ∧ rps (P.take k) = some ps ∧ wr.ownsRow w1.heap.size 28 2 v ps.length (pars ps) ∧ Below w1.heap.size w1 wr) (fun _ i _ => P.length - (intOf i).toNat)
        case atStart => exact ⟨0, [], by omega, rfl, rfl, World.ownsRow_nil _ _ _ _, Below.refl _ _⟩
        case round =>
          obtain ⟨k, ps, hk, rfl, hrp, hown, hw⟩ := hrel
          have hsz := hw.size
          have hpl : ps.length ≤ 1001 := by
            have h1 := rps_len _ _ hrp
            have h2 := List.length_take_le k P
            omega
          have HRP : Hid (rps (P.take k) = some ps) := hrp
          have hc0r : wr.cell? ⟨g, 0, none⟩ = some (.string u) := by rw [hw.cell (p := ⟨g, 0, none⟩) hgs]; exact hc0
          clear hrp hc0
          by_cases hlt : k < P.length
          · obtain rfl := HOF.out (by omega)
            have hcell : wr.cell? ⟨g, 1 + k, none⟩ = some (.string ⟨(P[k]).toArray⟩) := by
              rw [hw.cell (p := ⟨g, 1 + k, none⟩) hgs, HCE.out k hlt]
              exact strs_get P k hlt
            obtain ⟨t, ht⟩ : ∃ t : ByteArray, t = ⟨(P[k]).toArray⟩ := ⟨_, rfl⟩
            rw [← ht] at hcell
            have HT : Hid (t.data.toList = P[k]) := by show _ = _; rw [ht]
            have hts : t.size ≤ 1000 := by
              rw [← size_list, HT.out]
              exact HLN.out P[k] (List.getElem_mem hlt)
            have HST : Hid (rps (P.take (k + 1)) = rpstep (some ps) t.data.toList) := by
              show _ = _; rw [rps_step P k hlt, HRP.out, HT.out]
            have HDD : Hid (rpstep (some ps) t.data.toList = none → rps ((pieces 59 s.data.toList).tail.map trimL) = none) := by
              intro h
              rw [HTL.out]
              refine rps_dead P k hlt _ HRP.out ?_
              rw [← HT.out]; exact h
            clear ht hc0r
            cases hemt : t.toList.isEmpty
            · have HEMT : Hid (t.data.toList.isEmpty = false) := by show _ = _; rw [ByteArray.toList_eq] at hemt; exact hemt
              rcases index_two t.data.toList with hix | ⟨j, hix⟩
              · have HIX : Hid (Lib.indexByte t.data.toList 61 = -1) := hix
                have HS : Hid (paramsS s.data.toList = ([], [], 3)) := ps_bad _ HL.out HE.out HEM.out (HDD.out (rpstep_bad _ _ HEMT.out (rp_nocut _ _ _ (cut_one_no _ hix))))
                clear hix
                go_wp2_with fail
                refine (Tryd.strings_Index_one _ 61 _).mono ?_
                rintro e w2 ⟨rfl, rfl⟩
                rw [HIX.out]
                go_wp2_with fail
                go_ret3
                exact ⟨.slice none 0 0, by rw [HS.out]; rfl, by rw [HS.out]; exact World.ownsRow_nil _ _ _ _, hb.trans (hw.mono hbs)⟩
              · have HIX : Hid (Lib.indexByte t.data.toList 61 = (j : Int)) := hix
                have hjl := index_lt _ _ hix
                rw [size_list] at hjl
                have HCUT : Hid (Lib.cut t.data.toList [61] = ((t.extract 0 j).data.toList, (t.extract (j + 1) t.size).data.toList, true)) := by
                  show _ = _; rw [cut_one_yes _ _ hix, take_ext, drop_ext]
                obtain ⟨a, ha⟩ : ∃ a : ByteArray, a = t.extract 0 j := ⟨_, rfl⟩
                obtain ⟨b, hbb⟩ : ∃ b : ByteArray, b = t.extract (j + 1) t.size := ⟨_, rfl⟩
                have HA : Hid (t.extract 0 j = a) := ha.symm
                have HB : Hid (t.extract (j + 1) t.size = b) := hbb.symm
                have has : a.size ≤ 1000 := by rw [ha, ByteArray.size_extract]; omega
                have hbs' : b.size ≤ 1000 := by rw [hbb, ByteArray.size_extract]; omega
                have HAM : Hid (a.size ≤ maxLen) := by show a.size ≤ maxLen; unfold maxLen; omega
                have HBM : Hid (b.size ≤ maxLen) := by show b.size ≤ maxLen; unfold maxLen; omega
                have HCU : Hid (Lib.cut t.data.toList [61] = (a.data.toList, b.data.toList, true)) := by show _ = _; rw [HCUT.out, ← ha, ← hbb]
                clear hix ha hbb HCUT
                cases hta : token a.data.toList
                · have HTA : Hid (token a.data.toList = false) := hta
                  have HS : Hid (paramsS s.data.toList = ([], [], 3)) := ps_bad _ HL.out HE.out HEM.out (HDD.out (rpstep_bad _ _ HEMT.out (rp_notok _ _ _ HCU.out hta)))
                  clear hta
                  go_wp2_with fail
                  refine (Tryd.strings_Index_one _ 61 _).mono ?_
                  rintro e w2 ⟨rfl, rfl⟩
                  rw [HIX.out]
                  go_wp2_with fail
                  rw [HA.out]
                  refine (rtoken_any _ _ HAM.out).mono ?_
                  rintro e w2 ⟨rfl, rfl⟩
                  rw [HTA.out]
                  go_wp2_with fail
                  go_ret3
                  exact ⟨.slice none 0 0, by rw [HS.out]; rfl, by rw [HS.out]; exact World.ownsRow_nil _ _ _ _, hb.trans (hw.mono hbs)⟩
                · have HTA : Hid (token a.data.toList = true) := hta
                  clear hta
                  obtain ⟨x1, hx1⟩ : ∃ x1 : ByteArray, x1 = ⟨(lower a.data.toList).toArray⟩ := ⟨_, rfl⟩
                  have HX1 : Hid ((⟨(lower a.data.toList).toArray⟩ : ByteArray) = x1) := hx1.symm
                  clear hx1
                  cases htb : token b.data.toList
                  · have HTB : Hid (token b.data.toList = false) := htb
                    clear htb
                    obtain ⟨c, n, hun⟩ : ∃ (c : ByteArray) (n : Int), unq b.data.toList = (c.data.toList, n) := ⟨⟨(unq b.data.toList).1.toArray⟩, (unq b.data.toList).2, rfl⟩
                    have HUN : Hid (unq b.data.toList = (c.data.toList, n)) := hun
                    by_cases hn : n = 0
                    · subst hn
                      have HK : Hid (rps (P.take (k + 1)) = some (ps ++ [(x1.data.toList, c.data.toList)])) := by
                        show _ = _
                        rw [HST.out]
                        refine rpstep_ok _ _ _ HEMT.out ?_
                        rw [rp_val _ _ _ HCU.out HTA.out, rv_ok _ HTB.out (by rw [hun]), hun, ← HX1.out]; rfl
                      clear hun
                      go_wp2_with fail
                      refine (Tryd.strings_Index_one _ 61 _).mono ?_
                      rintro e w2 ⟨rfl, rfl⟩
                      rw [HIX.out]
                      go_wp2_with fail
                      rw [HA.out]
                      refine (rtoken_any _ _ HAM.out).mono ?_
                      rintro e w2 ⟨rfl, rfl⟩
                      rw [HTA.out]
                      go_wp2_with fail
                      rw [HB.out]
                      refine (rtoken_any _ _ HBM.out).mono ?_
                      rintro e w2 ⟨rfl, rfl⟩
                      rw [HTB.out]
                      go_wp2_with fail
                      refine (runquote_at _ c 0 HUN.out _ (by omega)).mono ?_
                      rintro e w2 ⟨rfl, rfl⟩
                      go_wp2_with fail
                      rw [HA.out]
                      refine (rlower_any _ _ (by omega)).mono ?_
                      rintro e w2 ⟨rfl, rfl⟩
                      rw [HX1.out]
                      go_wp2_with (at_builtin; refine wpList_append_own _ rfl _ _ 22 rfl w1.heap.size 28 i0 (.agg #[.string ⟨#[]⟩, .string ⟨#[]⟩]) 2 32 Tryd.underlying22 hi hz0 hz1 hz2 rfl (by decide) _ _ _ rfl (hown.alloc _) ⟨w2.heap.size, 0, none⟩ 1 1 [.string x1, .string c] rfl rfl ?c1c ?c2c ?c3c ?c4c ?c5c ?_)
                      case c1c => exact two_cell _ _ _ _
                      case c2c => intro x hx; simp at hx; rcases hx with rfl | rfl <;> rfl
                      case c3c => unfold maxLen; omega
                      case c4c => omega
                      case c5c => simp; omega
                      · intro v' w4 hown' hgrow _
                        have hB : Below w1.heap.size w1 w4 := (hw.alloc (by omega) _).grown hgrow (by simp; omega) (fun b' hb' => ((hown.alloc (.cells #[.string x1, .string c] 28)).lt b' hb').1)
                        have hown4 : w4.ownsRow w1.heap.size 28 2 v' (ps ++ [(x1.data.toList, c.data.toList)]).length (pars (ps ++ [(x1.data.toList, c.data.toList)])) := by
                          rw [← pars_snoc, List.length_append]; exact hown'
                        clear hown' hgrow hown hw
                        go_wp2_with fail
                        go_roundw
                        case rel => exact ⟨k + 1, _, by omega, by go_num, HK.out, hown4, hB⟩
                        case measure => simp [intOf]; omega
                    · have hne : (n != 0) = true := by simp [hn]
                      have HS : Hid (paramsS s.data.toList = ([], [], 3)) := by
                        refine ps_bad _ HL.out HE.out HEM.out (HDD.out (rpstep_bad _ _ HEMT.out ?_))
                        rw [rp_val _ _ _ HCU.out HTA.out, rv_bad _ HTB.out (by rw [hun]; exact hn)]; rfl
                      clear hun hn
                      go_wp2_with fail
                      refine (Tryd.strings_Index_one _ 61 _).mono ?_
                      rintro e w2 ⟨rfl, rfl⟩
                      rw [HIX.out]
                      go_wp2_with fail
                      rw [HA.out]
                      refine (rtoken_any _ _ HAM.out).mono ?_
                      rintro e w2 ⟨rfl, rfl⟩
                      rw [HTA.out]
                      go_wp2_with fail
                      rw [HB.out]
                      refine (rtoken_any _ _ HBM.out).mono ?_
                      rintro e w2 ⟨rfl, rfl⟩
                      rw [HTB.out]
                      go_wp2_with fail
                      refine (runquote_at _ c n HUN.out _ (by omega)).mono ?_
                      rintro e w2 ⟨rfl, rfl⟩
                      go_wp2_with fail
                      go_ret3
                      exact ⟨.slice none 0 0, by rw [HS.out]; rfl, by rw [HS.out]; exact World.ownsRow_nil _ _ _ _, hb.trans (hw.mono hbs)⟩
                  · have HTB : Hid (token b.data.toList = true) := htb
                    clear htb
                    have HK : Hid (rps (P.take (k + 1)) = some (ps ++ [(x1.data.toList, b.data.toList)])) := by
                      show _ = _
                      rw [HST.out]
                      refine rpstep_ok _ _ _ HEMT.out ?_
                      rw [rp_val _ _ _ HCU.out HTA.out, rv_token _ HTB.out, ← HX1.out]; rfl
                    go_wp2_with fail
                    refine (Tryd.strings_Index_one _ 61 _).mono ?_
                    rintro e w2 ⟨rfl, rfl⟩
                    rw [HIX.out]
                    go_wp2_with fail
                    rw [HA.out]
                    refine (rtoken_any _ _ HAM.out).mono ?_
                    rintro e w2 ⟨rfl, rfl⟩
                    rw [HTA.out]
                    go_wp2_with fail
                    rw [HB.out]
                    refine (rtoken_any _ _ HBM.out).mono ?_
                    rintro e w2 ⟨rfl, rfl⟩
                    rw [HTB.out]
                    go_wp2_with fail
                    rw [HA.out]
                    refine (rlower_any _ _ (by omega)).mono ?_
                    rintro e w2 ⟨rfl, rfl⟩
                    rw [HX1.out]
                    go_wp2_with (at_builtin; refine wpList_append_own _ rfl _ _ 22 rfl w1.heap.size 28 i0 (.agg #[.string ⟨#[]⟩, .string ⟨#[]⟩]) 2 32 Tryd.underlying22 hi hz0 hz1 hz2 rfl (by decide) _ _ _ rfl (hown.alloc _) ⟨w2.heap.size, 0, none⟩ 1 1 [.string x1, .string b] rfl rfl ?c1b ?c2b ?c3b ?c4b ?c5b ?_)
                    case c1b => exact two_cell _ _ _ _
                    case c2b => intro x hx; simp at hx; rcases hx with rfl | rfl <;> rfl
                    case c3b => unfold maxLen; omega
                    case c4b => omega
                    case c5b => simp; omega
                    · intro v' w4 hown' hgrow _
                      have hB : Below w1.heap.size w1 w4 := (hw.alloc (by omega) _).grown hgrow (by simp; omega) (fun b' hb' => ((hown.alloc (.cells #[.string x1, .string b] 28)).lt b' hb').1)
                      have hown4 : w4.ownsRow w1.heap.size 28 2 v' (ps ++ [(x1.data.toList, b.data.toList)]).length (pars (ps ++ [(x1.data.toList, b.data.toList)])) := by
                        rw [← pars_snoc, List.length_append]; exact hown'
                      clear hown' hgrow hown hw
                      go_wp2_with fail
                      go_roundw
                      case rel => exact ⟨k + 1, _, by omega, by go_num, HK.out, hown4, hB⟩
                      case measure => simp [intOf]; omega
            · have HEMT : Hid (t.data.toList.isEmpty = true) := by show _ = _; rw [ByteArray.toList_eq] at hemt; exact hemt
              go_wp2_with fail
              refine (Tryd.strings_Index_one _ 61 _).mono ?_
              rintro e w2 ⟨rfl, rfl⟩
              go_wp2_with fail
              go_roundw
              case rel => exact ⟨k + 1, ps, by omega, by go_num, by rw [HST.out]; exact rpstep_skip _ _ HEMT.out, hown, hw⟩
              case measure => simp [intOf]; omega
          · obtain ⟨ad3, cap3, hv3, hcm3, hnc3, _⟩ := own_form2 hown
            subst hv3
            unfold maxLen at hcm3
            have HRR : Hid (rps ((pieces 59 s.data.toList).tail.map trimL) = some ps) := by
              show _ = _
              rw [HTL.out, ← HRP.out, List.take_of_length_le (by omega)]
            by_cases h20 : 20 < (ps.length : Int)
            · have HS : Hid (paramsS s.data.toList = ([], [], 2)) := ps_many _ ps HL.out HE.out HEM.out HRR.out (by omega)
              go_wp2_with fail
              go_ret3
              exact ⟨.slice none 0 0, by rw [HS.out]; rfl, by rw [HS.out]; exact World.ownsRow_nil _ _ _ _, hb.trans (hw.mono hbs)⟩
            · have HS : Hid (paramsS s.data.toList = (u.data.toList, ps, 0)) := by show _ = _; rw [ps_ok _ ps HL.out HE.out HEM.out HRR.out (by omega), HHD.out]
              go_wp2_with fail
              go_ret3
              exact ⟨.slice ad3 ps.length cap3, by rw [HS.out]; rfl, by rw [HS.out]; exact own_le hown hbs, hb.trans (hw.mono hbs)⟩
      · have HEM : Hid ((trimL ((pieces 59 s.data.toList).headD [])).isEmpty = true) := by show _ = _; rw [HHD.out, ← ByteArray.toList_eq]; exact hem
        have HS : Hid (paramsS s.data.toList = ([], [], 3)) := ps_empty _ HL.out HE.out HEM.out
        go_enter Tryd.func6, Tryd.ntmps6
        go_wp2_with fail
        refine (rparts_any s 59 _ hs).mono ?_
        rintro e w1 ⟨v, rfl, hown, hb⟩
        rw [HE.out]
        rw [HPM.out, HPL.out] at hown
        obtain ⟨ad, cap, hv, hcm, hnc, hcells⟩ := own_slice hown
        obtain ⟨g, had, hgB, hgs, hce⟩ := hcells (by omega)
        subst hv had
        unfold maxLen at hcm
        have hc0 : w1.cell? ⟨g, 0, none⟩ = some (.string u) := by rw [hce 0 (by omega), HU.out]; rfl
        clear hown hce
        go_wp2_with fail
        go_ret3
        exact ⟨.slice none 0 0, by rw [HS.out]; rfl, by rw [HS.out]; exact World.ownsRow_nil _ _ _ _, hb⟩
end Go.Proofs.YtoccjnbodoiibabDoor
