/-
  What Params of package token computes; the text is no longer than Go allows, and the package variable that the library reads holds some number.
-/
import Derived.Test.YtoccjnbodoiibabDoorWParams
import Derived.Test.YtoccjnbodoiibabDoorWCut
namespace Go.Proofs.YtoccjnbodoiibabDoor
open Go.RowKit

def paramsS (l : List UInt8) : List UInt8 × List Par × Int :=
  if 1000 < l.length then ([], [], 2) else if ends 59 l = false then ([], [], 3) else if (trimL ((pieces 59 l).headD [])).isEmpty = true then ([], [], 3) else
    match rps ((pieces 59 l).tail.map trimL) with
    | none => ([], [], 3)
    | some ps => if 20 < ps.length then ([], [], 2) else (trimL ((pieces 59 l).headD []), ps, 0)
theorem ps_long (l : List UInt8) (h : 1000 < l.length) : paramsS l = ([], [], 2) := by unfold paramsS; rw [if_pos h]
theorem ps_open (l : List UInt8) (h : ¬ 1000 < l.length) (he : ends 59 l = false) : paramsS l = ([], [], 3) := by unfold paramsS; rw [if_neg h, if_pos he]
theorem ps_empty (l : List UInt8) (h : ¬ 1000 < l.length) (he : ends 59 l = true) (hv : (trimL ((pieces 59 l).headD [])).isEmpty = true) : paramsS l = ([], [], 3) := by unfold paramsS; rw [if_neg h, if_neg (by rw [he]; simp), if_pos hv]
theorem ps_bad (l : List UInt8) (h : ¬ 1000 < l.length) (he : ends 59 l = true) (hv : (trimL ((pieces 59 l).headD [])).isEmpty = false) (hr : rps ((pieces 59 l).tail.map trimL) = none) : paramsS l = ([], [], 3) := by unfold paramsS; rw [if_neg h, if_neg (by rw [he]; simp), if_neg (by rw [hv]; simp), hr]
theorem ps_many (l : List UInt8) (ps : List Par) (h : ¬ 1000 < l.length) (he : ends 59 l = true) (hv : (trimL ((pieces 59 l).headD [])).isEmpty = false) (hr : rps ((pieces 59 l).tail.map trimL) = some ps) (hp : 20 < ps.length) : paramsS l = ([], [], 2) := by unfold paramsS; rw [if_neg h, if_neg (by rw [he]; simp), if_neg (by rw [hv]; simp), hr]; exact if_pos hp
theorem ps_ok (l : List UInt8) (ps : List Par) (h : ¬ 1000 < l.length) (he : ends 59 l = true) (hv : (trimL ((pieces 59 l).headD [])).isEmpty = false) (hr : rps ((pieces 59 l).tail.map trimL) = some ps) (hp : ¬ 20 < ps.length) : paramsS l = (trimL ((pieces 59 l).headD []), ps, 0) := by unfold paramsS; rw [if_neg h, if_neg (by rw [he]; simp), if_neg (by rw [hv]; simp), hr]; exact if_neg hp
theorem pieces_cons (l : List UInt8) : ∃ p P, pieces 59 l = p :: P := by
  unfold pieces
  cases (cutS 59 l).ps with
  | nil => exact ⟨_, _, rfl⟩
  | cons a b => exact ⟨_, _, rfl⟩

theorem own_form2 {w : World} {B : Nat} {e : TypeId} {size : Nat} {v : Value} {n : Nat} {xs : List Value} (h : w.ownsRow B e size v n xs) : ∃ ad cap, v = .slice ad n cap ∧ cap ≤ maxLen ∧ n ≤ cap ∧ (0 < n → ∃ g, ad = some ⟨g, 0, none⟩ ∧ B ≤ g ∧ g < w.heap.size ∧ ∀ j, j < n * size → w.cell? ⟨g, j, none⟩ = xs[j]?) := by
  rcases h.2 with ⟨rfl, rfl⟩ | ⟨g, cap, cur, hv, hb, hg, hnc, hcm, _, _⟩
  · exact ⟨none, 0, rfl, by unfold maxLen; omega, Nat.le_refl _, fun h => absurd h (by omega)⟩
  · refine ⟨some ⟨g, 0, none⟩, cap, hv, hcm, hnc, fun _ => ⟨g, rfl, hb, (Array.getElem?_eq_some_iff.1 hg).1, fun j hj => ?_⟩⟩
    subst hv
    exact h.cellAt j hj
theorem own_le {w : World} {B B' : Nat} {e : TypeId} {size : Nat} {v : Value} {n : Nat} {xs : List Value} (h : w.ownsRow B e size v n xs) (hb : B' ≤ B) : w.ownsRow B' e size v n xs := by
  refine ⟨h.1, ?_⟩
  rcases h.2 with h0 | ⟨g, cap, cur, hv, hB, h3⟩
  · exact .inl h0
  · exact .inr ⟨g, cap, cur, hv, Nat.le_trans hb hB, h3⟩

set_option maxHeartbeats 2000000 in
set_option maxRecDepth 100000 in
theorem params_any (s : ByteArray) (m : Int) (w : World) (hm : w.cell? ⟨0, 0, none⟩ = some (.int .i64 m)) :
    Calls Tryd.prog 5 #[.string s] w fun e w' => ∃ v, e = .returned (.tuple #[.string ⟨(paramsS s.data.toList).1.toArray⟩, v, .int .i64 (paramsS s.data.toList).2.2]) ∧
      w'.ownsRow w.heap.size 28 2 v (paramsS s.data.toList).2.1.length (pars (paramsS s.data.toList).2.1) ∧ Below w.heap.size w w' := by
  have HM : Hid (w.cell? ⟨0, 0, none⟩ = some (.int .i64 m)) := hm
  clear hm
  by_cases h1 : 1000 < (s.size : Int)
  · have HS : Hid (paramsS s.data.toList = ([], [], 2)) := ps_long _ (by rw [size_list]; omega)
    go_enter Tryd.func5, Tryd.ntmps5
    go_wp2_with fail
    go_ret3
    exact ⟨.slice none 0 0, by rw [HS.out]; rfl, by rw [HS.out]; exact World.ownsRow_nil _ _ _ _, Below.refl _ _⟩
  · have hs : s.size ≤ 1000 := by omega
    have HL : Hid (¬ 1000 < s.data.toList.length) := by show ¬ _; rw [size_list]; omega
    clear h1
    cases he : ends 59 s.data.toList
    · have HE : Hid (ends 59 s.data.toList = false) := he
      have HS : Hid (paramsS s.data.toList = ([], [], 3)) := ps_open _ HL.out he
      clear he
      go_enter Tryd.func5, Tryd.ntmps5
      go_wp2_with fail
      refine (cut_any s 59 _ hs (by decide)).mono ?_
      rintro e w1 ⟨v, rfl, hown, hb⟩
      rw [HE.out]
      go_wp2_with fail
      go_ret3
      exact ⟨.slice none 0 0, by rw [HS.out]; rfl, by rw [HS.out]; exact World.ownsRow_nil _ _ _ _, hb⟩
    · have HE : Hid (ends 59 s.data.toList = true) := he
      clear he
      obtain ⟨p, P, hP⟩ := pieces_cons s.data.toList
      have HP : Hid (pieces 59 s.data.toList = p :: P) := hP
      have hlen := pieces_len 59 s.data.toList
      rw [hP, size_list] at hlen
      have hPl : P.length ≤ 1000 := by
        have h1 : (pieces 59 s.data.toList).length ≤ s.size + 1 := by
          unfold pieces
          have := cutS_len 59 s.data.toList
          rw [size_list] at this
          simp; omega
        rw [hP, List.length_cons] at h1
        omega
      obtain ⟨u, hu⟩ : ∃ u : ByteArray, u = ⟨p.toArray⟩ := ⟨_, rfl⟩
      have HU : Hid (u = ⟨p.toArray⟩) := hu
      have hus : u.size ≤ 1000 := by
        rw [hu, ← size_list]
        have := hlen p (by simp)
        show p.length ≤ 1000
        omega
      obtain ⟨u', hu'⟩ : ∃ u' : ByteArray, u' = ⟨(trimL p).toArray⟩ := ⟨_, rfl⟩
      have HU' : Hid (u'.data.toList = trimL p) := by show _ = _; rw [hu']
      have HT : Hid (u'.data.toList = trimL u.data.toList) := by show _ = _; rw [hu', hu]
      have hus' : u'.size ≤ 1000 := by
        rw [← size_list, HT.out]
        have := trimL_len u.data.toList
        rw [size_list] at this
        omega
      have HLN : Hid (∀ q ∈ P, q.length ≤ 1000) := fun q hq => Nat.le_trans (hlen q (by simp [hq])) hs
      have HHD : Hid (trimL ((pieces 59 s.data.toList).headD []) = u'.data.toList) := by show _ = _; rw [hP, hu']; rfl
      have HTL : Hid ((pieces 59 s.data.toList).tail.map trimL = P.map trimL) := by show _ = _; rw [hP]; rfl
      clear hP hlen hu hu'
      cases hem : u'.toList.isEmpty
      · have HEM : Hid ((trimL ((pieces 59 s.data.toList).headD [])).isEmpty = false) := by show _ = _; rw [HHD.out, ← ByteArray.toList_eq]; exact hem
        go_enter Tryd.func5, Tryd.ntmps5
        go_wp2_with fail
        refine (cut_any s 59 _ hs (by decide)).mono ?_
        rintro e w1 ⟨v, rfl, hown, hb⟩
        rw [HE.out]
        rw [HP.out, List.length_cons] at hown
        obtain ⟨ad, cap, hv, hcm, hnc, hcells⟩ := own_slice hown
        obtain ⟨g, had, hgB, hgs, hce⟩ := hcells (by omega)
        subst hv had
        unfold maxLen at hcm
        have hc0 : w1.cell? ⟨g, 0, none⟩ = some (.string u) := by rw [hce 0 (by omega), HU.out]; rfl
        have HCE : Hid (∀ j, j < P.length + 1 → w1.cell? ⟨g, j, none⟩ = (strs (p :: P))[j]?) := hce
        have HM1 : Hid (w1.cell? ⟨0, 0, none⟩ = some (.int .i64 m)) := cell_keep hb HM.out
        have hbs := hb.size
        clear hown hce
        go_wp2_with fail
        refine (trim_at _ u' HT.out _ (by omega)).mono ?_
        rintro e w2 ⟨rfl, hb2⟩
        have HM2 : Hid (w2.cell? ⟨0, 0, none⟩ = some (.int .i64 m)) := cell_keep hb2 HM1.out
        have hgs2 : g < w2.heap.size := Nat.lt_of_lt_of_le hgs hb2.size
        have HRD : Hid (∀ j, j < P.length → w2.cell? ⟨g, 1 + j, none⟩ = (strs P)[j]?) := by
          intro j hj
          rw [hb2.cell (p := ⟨g, 1 + j, none⟩) hgs, HCE.out (1 + j) (by omega), Nat.add_comm]
          simp [strs]
        have hbw2 := hb.trans (hb2.mono hbs)
        clear hc0 hb hb2
        have hb2s := hbw2.size
        have HR1 : Hid (Reads w2 (some ⟨g, 1, none⟩) P) := fun _ => ⟨g, 1, rfl, hgs2, HRD.out⟩
        have HLN1 : Hid (P.length ≤ 1001) := by show _ ≤ _; omega
        by_cases hcap1 : cap = 1
        · subst hcap1
          have hp0 : P = [] := List.eq_nil_of_length_eq_zero (by omega)
          subst hp0
          have HR0 : Hid (Reads w2 (some ⟨g, 0, none⟩) []) := fun h => absurd h (by simp)
          simp only [List.length_nil] at hnc hPl ⊢
          go_wp2_with fail
          refine (readParams_any (some ⟨g, 0, none⟩) 0 [] m _ HM2.out HR0.out HLN1.out HLN.out).mono ?_
          rintro e w3 (⟨v3, ps, rfl, hrp, hown3, hb3⟩ | ⟨rfl, hrp, hb3⟩)
          · have HRP : Hid (rps ((pieces 59 s.data.toList).tail.map trimL) = some ps) := by show _ = _; rw [HTL.out]; exact hrp
            have hpl : ps.length ≤ 1001 := by have h8 := rps_len _ _ hrp; rw [List.length_map] at h8; have h9 := HLN1.out; omega
            have hbw3 := hbw2.trans (hb3.mono hb2s)
            have hb3s := hbw3.size
            obtain ⟨ad3, cap3, hv3, hcm3, hnc3, _⟩ := own_form2 hown3
            subst hv3
            unfold maxLen at hcm3
            clear hrp hb3
            by_cases h20 : 20 < (ps.length : Int)
            · have HS : Hid (paramsS s.data.toList = ([], [], 2)) := ps_many _ ps HL.out HE.out HEM.out HRP.out (by omega)
              go_wp2_with fail
              go_ret3
              exact ⟨.slice none 0 0, by rw [HS.out]; rfl, by rw [HS.out]; exact World.ownsRow_nil _ _ _ _, hbw3⟩
            · have HS : Hid (paramsS s.data.toList = (u'.data.toList, ps, 0)) := by show _ = _; rw [ps_ok _ ps HL.out HE.out HEM.out HRP.out (by omega), HHD.out]
              go_wp2_with fail
              refine (clone_at _ _ (by omega)).mono ?_
              rintro e w4 ⟨rfl, hb4⟩
              have hown4 := own_below3 hown3 hb4
              go_wp2_with fail
              go_ret3
              exact ⟨.slice ad3 ps.length cap3, by rw [HS.out]; rfl, by rw [HS.out]; exact own_le hown4 hb2s, hbw3.trans (hb4.mono hb3s)⟩
          · have HRP : Hid (rps ((pieces 59 s.data.toList).tail.map trimL) = none) := by show _ = _; rw [HTL.out]; exact hrp
            have HS : Hid (paramsS s.data.toList = ([], [], 3)) := ps_bad _ HL.out HE.out HEM.out HRP.out
            have hbw3 := hbw2.trans (hb3.mono hb2s)
            clear hrp hb3
            go_wp2_with fail
            go_ret3
            exact ⟨.slice none 0 0, by rw [HS.out]; rfl, by rw [HS.out]; exact World.ownsRow_nil _ _ _ _, hbw3⟩
        · go_wp2_with fail
          refine (readParams_any (some ⟨g, 1, none⟩) (cap - 1) P m _ HM2.out HR1.out HLN1.out HLN.out).mono ?_
          rintro e w3 (⟨v3, ps, rfl, hrp, hown3, hb3⟩ | ⟨rfl, hrp, hb3⟩)
          · have HRP : Hid (rps ((pieces 59 s.data.toList).tail.map trimL) = some ps) := by show _ = _; rw [HTL.out]; exact hrp
            have hpl : ps.length ≤ 1001 := by have h8 := rps_len _ _ hrp; rw [List.length_map] at h8; have h9 := HLN1.out; omega
            have hbw3 := hbw2.trans (hb3.mono hb2s)
            have hb3s := hbw3.size
            obtain ⟨ad3, cap3, hv3, hcm3, hnc3, _⟩ := own_form2 hown3
            subst hv3
            unfold maxLen at hcm3
            clear hrp hb3
            by_cases h20 : 20 < (ps.length : Int)
            · have HS : Hid (paramsS s.data.toList = ([], [], 2)) := ps_many _ ps HL.out HE.out HEM.out HRP.out (by omega)
              go_wp2_with fail
              go_ret3
              exact ⟨.slice none 0 0, by rw [HS.out]; rfl, by rw [HS.out]; exact World.ownsRow_nil _ _ _ _, hbw3⟩
            · have HS : Hid (paramsS s.data.toList = (u'.data.toList, ps, 0)) := by show _ = _; rw [ps_ok _ ps HL.out HE.out HEM.out HRP.out (by omega), HHD.out]
              go_wp2_with fail
              refine (clone_at _ _ (by omega)).mono ?_
              rintro e w4 ⟨rfl, hb4⟩
              have hown4 := own_below3 hown3 hb4
              go_wp2_with fail
              go_ret3
              exact ⟨.slice ad3 ps.length cap3, by rw [HS.out]; rfl, by rw [HS.out]; exact own_le hown4 hb2s, hbw3.trans (hb4.mono hb3s)⟩
          · have HRP : Hid (rps ((pieces 59 s.data.toList).tail.map trimL) = none) := by show _ = _; rw [HTL.out]; exact hrp
            have HS : Hid (paramsS s.data.toList = ([], [], 3)) := ps_bad _ HL.out HE.out HEM.out HRP.out
            have hbw3 := hbw2.trans (hb3.mono hb2s)
            clear hrp hb3
            go_wp2_with fail
            go_ret3
            exact ⟨.slice none 0 0, by rw [HS.out]; rfl, by rw [HS.out]; exact World.ownsRow_nil _ _ _ _, hbw3⟩
      · have HEM : Hid ((trimL ((pieces 59 s.data.toList).headD [])).isEmpty = true) := by show _ = _; rw [HHD.out, ← ByteArray.toList_eq]; exact hem
        have HS : Hid (paramsS s.data.toList = ([], [], 3)) := ps_empty _ HL.out HE.out HEM.out
        go_enter Tryd.func5, Tryd.ntmps5
        go_wp2_with fail
        refine (cut_any s 59 _ hs (by decide)).mono ?_
        rintro e w1 ⟨v, rfl, hown, hb⟩
        rw [HE.out]
        rw [HP.out, List.length_cons] at hown
        obtain ⟨ad, cap, hv, hcm, hnc, hcells⟩ := own_slice hown
        obtain ⟨g, had, hgB, hgs, hce⟩ := hcells (by omega)
        subst hv had
        unfold maxLen at hcm
        have hc0 : w1.cell? ⟨g, 0, none⟩ = some (.string u) := by rw [hce 0 (by omega), HU.out]; rfl
        have hbs := hb.size
        clear hown hce
        go_wp2_with fail
        refine (trim_at _ u' HT.out _ (by omega)).mono ?_
        rintro e w2 ⟨rfl, hb2⟩
        go_wp2_with fail
        go_ret3
        exact ⟨.slice none 0 0, by rw [HS.out]; rfl, by rw [HS.out]; exact World.ownsRow_nil _ _ _ _, hb.trans (hb2.mono hbs)⟩
end Go.Proofs.YtoccjnbodoiibabDoor
