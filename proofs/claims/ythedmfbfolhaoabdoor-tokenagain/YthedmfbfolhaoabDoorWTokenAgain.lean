/-
  The walk through TokenAgain: it answers true and turns nothing that was there; the string fits in Go's limits.
-/
import Derived.Test.YthedmfbfolhaoabDoorSpecC
import Derived.Test.YthedmfbfolhaoabDoorWEqS
import Derived.Test.YthedmfbfolhaoabDoorWSplit
namespace Go.Proofs.YthedmfbfolhaoabDoor
open Go.RowKit

theorem kept_self (ps : List (List UInt8)) (h : ∀ p ∈ ps, trimL p = p ∧ p.isEmpty = false) : kept ps = ps := by
  induction ps with
  | nil => rfl
  | cons p ps ih =>
    have h1 := h p (by simp)
    have e : kept (p :: ps) = if (trimL p).isEmpty = true then kept ps else trimL p :: kept ps := by
      unfold kept
      rw [List.map_cons, List.filter_cons]
      cases (trimL p).isEmpty <;> simp
    rw [e, h1.1, h1.2, ih (fun r hr => h r (by simp [hr]))]; rfl
theorem kept_mem (P : List (List UInt8)) : ∀ p ∈ kept P, ∃ r ∈ P, p = trimL r ∧ p.isEmpty = false := by
  intro p hp
  unfold kept at hp
  rw [List.mem_filter, List.mem_map] at hp
  obtain ⟨⟨r, hr, rfl⟩, h2⟩ := hp
  exact ⟨r, hr, rfl, by simpa using h2⟩

theorem splitS_ok (l : List UInt8) (ps : List (List UInt8)) (h : splitS l = (ps, 0)) : l.length ≤ 1000 ∧ ends 44 l = true ∧ ps = kept (pieces 44 l) ∧ ps.length ≤ 20 := by
  unfold splitS at h
  split at h
  · simp at h
  · split at h
    · simp at h
    · split at h
      · simp at h
      · rename_i h1 h2 h3
        simp only [Prod.mk.injEq, and_true] at h
        refine ⟨by omega, by simpa using h2, h.symm, by rw [← h]; omega⟩
theorem splitS_bad (l : List UInt8) (ps : List (List UInt8)) (n : Int) (h : splitS l = (ps, n)) (hn : n ≠ 0) : ps = [] := by
  unfold splitS at h
  split at h
  · simp only [Prod.mk.injEq] at h; exact h.1.symm
  · split at h
    · simp only [Prod.mk.injEq] at h; exact h.1.symm
    · split at h
      · simp only [Prod.mk.injEq] at h; exact h.1.symm
      · simp only [Prod.mk.injEq] at h; exact absurd h.2.symm hn
theorem split_again (l : List UInt8) (ps : List (List UInt8)) (h : splitS l = (ps, 0)) : splitS (Lib.join ps [44]) = (ps, 0) ∧ (Lib.join ps [44]).length ≤ 1000 ∧ (∀ p ∈ ps, trimL p = p ∧ p.isEmpty = false ∧ p.length ≤ 1000) := by
  obtain ⟨h1, h2, h3, h4⟩ := splitS_ok l ps h
  have hmem : ∀ p ∈ ps, ∃ r ∈ pieces 44 l, p = trimL r ∧ p.isEmpty = false := by rw [h3]; exact kept_mem _
  have hfix : ∀ p ∈ ps, trimL p = p ∧ p.isEmpty = false := by
    intro p hp
    obtain ⟨r, _, rfl, he⟩ := hmem p hp
    exact ⟨trimL_twice r, he⟩
  have hcl : ∀ p ∈ ps, closed 44 p := by
    intro p hp
    obtain ⟨r, hr, rfl, _⟩ := hmem p hp
    exact trim_closed 44 r (pieces_closed 44 l h2 r hr)
  have hlen : ∀ p ∈ ps, p.length ≤ 1000 := by
    intro p hp
    obtain ⟨r, hr, rfl, _⟩ := hmem p hp
    have a := pieces_len 44 l r hr
    have b := trimL_len r
    omega
  have htot : tot ps ≤ l.length + 1 := by
    rw [h3, ← pieces_tot 44 l]
    unfold kept
    exact Nat.le_trans (tot_filter _ _) (tot_trim _)
  refine ⟨?_, ?_, fun p hp => ⟨(hfix p hp).1, (hfix p hp).2, hlen p hp⟩⟩
  · cases ps with
    | nil => rfl
    | cons p r =>
      obtain ⟨e1, e2⟩ := pieces_join 44 p r hcl
      have e3 := tot_join 44 r p
      unfold splitS
      rw [if_neg (by omega), if_neg (by rw [e2]; simp), e1, kept_self _ hfix, if_neg (by omega)]
  · cases ps with
    | nil => simp [Lib.join_nil]
    | cons p r =>
      have e3 := tot_join 44 r p
      omega

def bas (ps : List (List UInt8)) : List ByteArray := ps.map fun p => ⟨p.toArray⟩
theorem bas_len (ps : List (List UInt8)) : (bas ps).length = ps.length := by simp [bas]
theorem bas_map (ps : List (List UInt8)) : (bas ps).map (·.data.toList) = ps := by
  induction ps with
  | nil => rfl
  | cons p ps ih => simp [bas] at ih ⊢; exact ih
theorem bas_get (ps : List (List UInt8)) (j : Nat) (x : ByteArray) (h : (bas ps)[j]? = some x) : (strs ps)[j]? = some (.string x) := by
  unfold bas at h
  unfold strs
  rw [List.getElem?_map] at h ⊢
  cases hp : ps[j]? with
  | none => rw [hp] at h; cases h
  | some p => rw [hp] at h; simp at h ⊢; exact h

theorem join_at (v : Value) (ps : List (List UInt8)) (B : Nat) (sep t : ByteArray) (ht : t.data.toList = Lib.join ps sep.data.toList) (w : World) (hown : w.ownsRow B 9 1 v ps.length (strs ps)) (hl : ps.length ≤ 100000) (hj : t.size ≤ 100000) :
    Calls Tryd.prog 13 #[v, .string sep] w fun e w' => e = .returned (.string t) ∧ Below w.heap.size w w' := by
  obtain ⟨ad, cap, hv, hcm, hnc, hc⟩ := own_slice hown
  subst hv
  by_cases h0 : ps.length = 0
  · have hp := List.eq_nil_of_length_eq_zero h0
    subst hp
    refine (Tryd.strings_Join_none ad cap sep w).mono ?_
    rintro e w' ⟨rfl, rfl⟩
    refine ⟨ret_str ?_, Below.refl _ _⟩
    apply ByteArray.ext; apply Array.ext'
    rw [ht]; rfl
  · obtain ⟨g, rfl, hgB, hgs, hce⟩ := hc (by omega)
    have c := Tryd.strings_Join g 0 cap (bas ps) sep w (fun j x hx => by
      have hjl : j < ps.length := by
        rw [← bas_len]
        rcases Nat.lt_or_ge j (bas ps).length with h | h
        · exact h
        · rw [List.getElem?_eq_none h] at hx; cases hx
      rw [Nat.zero_add, hce j hjl]
      exact bas_get ps j x hx) hgs (by rw [bas_len]; omega) (by rw [bas_len]; exact hnc) (by rw [bas_map, ← ht, size_list]; omega)
    rw [bas_len, bas_map] at c
    refine c.mono ?_
    rintro e w' ⟨rfl, hb⟩
    refine ⟨ret_str ?_, hb⟩
    apply ByteArray.ext; apply Array.ext'
    rw [ht]

theorem trim_same (s : ByteArray) (h : trimL s.data.toList = s.data.toList) (w : World) (hs : s.size ≤ 100000) :
    Calls Tryd.prog 15 #[.string s, .string ⟨#[32, 9]⟩] w fun e w' => e = .returned (.string s) ∧ Below w.heap.size w w' := by
  refine (Tryd.strings_Trim_set s ⟨#[32, 9]⟩ w (by omega) (by decide) (ascii_of_all (by decide))).mono ?_
  rintro e w' ⟨rfl, hb⟩
  refine ⟨ret_str ?_, hb⟩
  apply ByteArray.ext; apply Array.ext'
  exact h

set_option maxHeartbeats 2000000 in
set_option maxRecDepth 100000 in
theorem walkTokenAgain (a0 : ByteArray) (_z0 : a0.size ≤ 140737488351232) (w : World) :
    Calls Tryd.prog 5 #[.string a0] w fun e w' => e = .returned (.bool true) ∧ Below w.heap.size w w' := by
  obtain ⟨ps, n, hsp⟩ : ∃ (ps : List (List UInt8)) (n : Int), splitS a0.data.toList = (ps, n) := ⟨_, _, rfl⟩
  have HSP : Hid (splitS a0.data.toList = (ps, n)) := hsp
  have HBAD : Hid (splitS (⟨#[34]⟩ : ByteArray).data.toList = ([], 3)) := by show _ = _; rfl
  by_cases hn : n = 0
  · subst hn
    obtain ⟨hs1, hs2, hs3⟩ := split_again _ _ hsp
    have hpl := (splitS_ok _ _ hsp).2.2.2
    obtain ⟨J, hJ⟩ : ∃ J : ByteArray, J.data.toList = Lib.join ps [44] := ⟨⟨(Lib.join ps [44]).toArray⟩, rfl⟩
    have HJ : Hid (J.data.toList = Lib.join ps [44]) := hJ
    have HS1 : Hid (splitS J.data.toList = (ps, 0)) := by show _ = _; rw [hJ]; exact hs1
    have HJS : Hid (J.size ≤ 100000) := by show _ ≤ _; rw [← size_list, hJ]; omega
    have HS3 : Hid (∀ p ∈ ps, trimL p = p ∧ p.isEmpty = false ∧ p.length ≤ 1000) := hs3
    clear hsp hs1 hs2 hs3 hJ
    go_enter Tryd.func5, Tryd.ntmps5
    go_wp2_with fail
    refine (split_any _ _).mono ?_
    rintro e w1 ⟨v, rfl, hown, hb⟩
    rw [HSP.out] at hown ⊢
    simp only at hown
    go_wp2_with fail
    refine (split_any ⟨#[34]⟩ _).mono ?_
    rintro e w2 ⟨v2, rfl, hown2, hb2⟩
    rw [HBAD.out]
    have hown3 := own_below2 hown hb2
    have hb3 := hb.trans (hb2.mono hb.size)
    clear hown hown2 hb hb2
    go_wp2_with fail
    refine (join_at _ ps _ ⟨#[44]⟩ J HJ.out _ hown3 (by omega) HJS.out).mono ?_
    rintro e w3 ⟨rfl, hb4⟩
    have hown4 := own_below2 hown3 hb4
    have hb5 := hb3.trans (hb4.mono hb3.size)
    clear hown3 hb3 hb4
    go_wp2_with fail
    refine (split_any _ _).mono ?_
    rintro e w4 ⟨v4, rfl, hown5, hb6⟩
    rw [HS1.out] at hown5 ⊢
    simp only at hown5
    have hown6 := own_below2 hown4 hb6
    have hb7 := hb5.trans (hb6.mono hb5.size)
    clear hown4 hb5 hb6
    obtain ⟨ad, cap, hv, hcm, hnc, hce⟩ := own_slice hown6
    subst hv
    unfold maxLen at hcm
    have HCE : Hid (0 < ps.length → ∃ g, ad = some ⟨g, 0, none⟩ ∧ w.heap.size ≤ g ∧ g < w4.heap.size ∧ ∀ j, j < ps.length → w4.cell? ⟨g, j, none⟩ = (strs ps)[j]?) := hce
    clear hce
    have HO5 : Hid (w4.ownsRow w3.heap.size 9 1 v4 ps.length (strs ps)) := hown5
    have HO6 : Hid (w4.ownsRow w.heap.size 9 1 (.slice ad ps.length cap) ps.length (strs ps)) := hown6
    have HB7 : Hid (Below w.heap.size w w4) := hb7
    clear hown5 hown6 hb7
    go_wp2_with fail
    go_loopw [35] (fun i wr => ∃ k : Nat, k ≤ ps.length ∧ i = .int .i64 k ∧ Below w4.heap.size w4 wr) (fun i _ => ps.length - (intOf i).toNat)
    case atStart => exact ⟨0, by omega, rfl, Below.refl _ _⟩
    case round =>
      obtain ⟨k, hk, rfl, hw⟩ := hrel
      by_cases hlt : k < ps.length
      · obtain ⟨g, rfl, hgB, hgs, hce⟩ := HCE.out (by omega)
        have hcell : wr.cell? ⟨g, k, none⟩ = some (.string ⟨(ps[k]).toArray⟩) := by
          rw [hw.cell (p := ⟨g, k, none⟩) hgs, hce k hlt]
          exact strs_get ps k hlt
        obtain ⟨u, hu⟩ : ∃ u : ByteArray, u = ⟨(ps[k]).toArray⟩ := ⟨_, rfl⟩
        rw [← hu] at hcell
        obtain ⟨t1, t2, t3⟩ := HS3.out ps[k] (List.getElem_mem hlt)
        have HT : Hid (trimL u.data.toList = u.data.toList) := by show _ = _; rw [hu]; exact t1
        have hem : u.toList.isEmpty = false := by rw [ByteArray.toList_eq, hu]; exact t2
        have hus : u.size ≤ 100000 := by rw [hu, ← size_list]; show (ps[k]).length ≤ 100000; omega
        clear hce hu t1 t2 t3
        go_wp2_with fail
        refine (trim_same _ HT.out _ hus).mono ?_
        rintro e w5 ⟨rfl, hb8⟩
        have hw2 := hw.trans (hb8.mono hw.size)
        clear hw hb8 hcell
        go_wp2_with fail
        go_roundw
        case rel => exact ⟨k + 1, by omega, by go_num, hw2⟩
        case measure => simp [intOf]; omega
      · go_wp2_with fail
        refine (eqS_same _ _ ps _ _ _ _ (by omega) (own_below2 HO6.out hw) (own_below2 HO5.out hw)).mono ?_
        rintro e w6 ⟨rfl, rfl⟩
        go_wp2_with fail
        go_ret
        exact ⟨rfl, HB7.out.trans (hw.mono HB7.out.size)⟩
  · have hps := splitS_bad _ _ _ hsp hn
    subst hps
    have hne : (n != 0) = true := by simp [hn]
    clear hsp hn
    go_enter Tryd.func5, Tryd.ntmps5
    go_wp2_with fail
    refine (split_any _ _).mono ?_
    rintro e w1 ⟨v, rfl, hown, hb⟩
    rw [HSP.out] at hown ⊢
    simp only [List.length_nil] at hown
    obtain ⟨ad, cap, hv, hcm, hnc, _⟩ := own_slice hown
    subst hv
    unfold maxLen at hcm
    clear hown
    go_wp2_with fail
    refine (split_any ⟨#[34]⟩ _).mono ?_
    rintro e w2 ⟨v2, rfl, hown2, hb2⟩
    rw [HBAD.out]
    go_wp2_with fail
    go_ret
    exact ⟨rfl, hb.trans (hb2.mono hb.size)⟩
end Go.Proofs.YthedmfbfolhaoabDoor
