/-
  What TagPrint and TagParse of the document's answers compute.
-/
import Derived.Test.YtfeikdplfjikeaaDoorSpecEt
import Derived.Test.YtfeikdplfjikeaaDoorSpecTw
import Derived.Test.YtfeikdplfjikeaaDoorSpecK
import Derived.Test.YtfeikdplfjikeaaDoorWRPlain
import Derived.Test.YtfeikdplfjikeaaDoorWSl
import Derived.Lib.IndexAny
import Derived.Handy
namespace Go.Proofs.YtfeikdplfjikeaaDoor
open Go.RowKit

theorem et_parts (l : List UInt8) : (allPlain l && !Lib.containsAny l [32, 9, 34]) = l.all etB := by
  unfold allPlain Lib.containsAny
  induction l with
  | nil => rfl
  | cons c l ih =>
    rw [List.all_cons, List.all_cons, ← ih, Lib.indexAny]
    have hc := byAll (fun c => decide ((plainB c && !([32, 9, 34] : List UInt8).contains c) = etB c)) (by decide +kernel) c
    have hc := of_decide_eq_true hc
    have hg := Lib.indexAny_ge [32, 9, 34] l
    rw [← hc]
    generalize ([32, 9, 34] : List UInt8).contains c = b
    cases b
    · by_cases h2 : Lib.indexAny l [32, 9, 34] = -1
      · rw [h2]
        cases plainB c <;> simp
      · have h5 : (Lib.indexAny l [32, 9, 34] == -1) = false := by simpa using h2
        have h3 : 0 ≤ Lib.indexAny l [32, 9, 34] := by omega
        have h4 : 0 ≤ Lib.indexAny l [32, 9, 34] + 1 := by omega
        rw [h5]
        cases plainB c <;> simp [h3, h4]
    · cases plainB c <;> simp
theorem et_low (l : List UInt8) (h : allPlain l = true) : ∀ (j : Nat) b, l[j]? = some b → b.toNat < 128 := by
  intro j b hb
  have hb := List.all_eq_true.1 h b (List.mem_of_getElem? hb)
  have := byAll (fun c => decide (plainB c = true → c.toNat < 128)) (by decide +kernel) b
  exact of_decide_eq_true this hb
theorem et_low3 : ∀ (j : Nat) b, (⟨#[32, 9, 34]⟩ : ByteArray).data.toList[j]? = some b → b.toNat < 128 := by
  intro j b hb
  have := List.mem_of_getElem? hb
  simp at this
  rcases this with rfl | rfl | rfl <;> decide
set_option maxHeartbeats 2000000 in
set_option maxRecDepth 100000 in
theorem rtprint_at (k : Bool) (x s : ByteArray) (c : Int) (h : prE (k, x.data.toList) = (s.data.toList, c)) (w : World) :
    Calls Tryd.prog 24 #[.agg #[.bool k, .string x]] w fun e w' => e = .returned (.tuple #[.string s, .int .i64 c]) ∧ Below w.heap.size w w' := by
  have H : Hid (prE (k, x.data.toList) = (s.data.toList, c)) := h
  have HB : Hid (∀ (y : ByteArray) (d : Int), prE (k, x.data.toList) = (y.data.toList, d) → Ending.returned (.tuple #[.string y, .int .i64 d]) = .returned (.tuple #[.string s, .int .i64 c])) := by
    intro y d hy
    rw [h] at hy
    exact et_two (Prod.mk.inj hy).1.symm (Prod.mk.inj hy).2.symm
  have hw0 : Below w.heap.size w (w.alloc (.cells #[.bool k, .string x] 28)) := (Below.refl _ w).alloc (Nat.le_refl _) _
  clear h
  by_cases hx : x.size ≤ 100
  · have hxi : ¬ (100 : Int) < (x.size : Int) := by omega
    have hl : ¬ 100 < x.data.toList.length := by rw [size_list]; omega
    cases hp : allPlain x.data.toList
    · have HP : Hid (allPlain x.data.toList = false) := hp
      have HR : Hid (prE (k, x.data.toList) = ((⟨#[]⟩ : ByteArray).data.toList, 3)) := by
        show _ = _
        unfold prE
        rw [if_neg hl, ← et_parts, hp]; rfl
      clear hp hl
      go_enter Tryd.func24, Tryd.ntmps24
      go_wp2_with fail
      refine (rplain_any x _ (by unfold maxLen; omega)).mono ?_
      rintro e w1 ⟨rfl, rfl⟩
      rw [HP.out]
      go_wp2_with fail
      go_ret2
      exact ⟨HB.out ⟨#[]⟩ 3 HR.out, hw0⟩
    · have HP : Hid (allPlain x.data.toList = true) := hp
      cases hq : Lib.containsAny x.data.toList [32, 9, 34]
      · have HQ : Hid (Lib.containsAny x.data.toList [32, 9, 34] = false) := hq
        cases k
        · have HR : Hid (prE (false, x.data.toList) = ((⟨#[34]⟩ ++ x ++ ⟨#[34]⟩ : ByteArray).data.toList, 0)) := by
            show _ = _
            unfold prE
            rw [if_neg hl, ← et_parts, hp, hq, ByteArray.data_append, Array.toList_append, ByteArray.data_append, Array.toList_append]
            simp [prG]
          have hz1 : ¬ 9223372036854775807 < 1 + x.size := by omega
          clear hp hq hl
          go_enter Tryd.func24, Tryd.ntmps24
          go_wp2_with fail
          refine (rplain_any x _ (by unfold maxLen; omega)).mono ?_
          rintro e w1 ⟨rfl, rfl⟩
          rw [HP.out]
          go_wp2_with fail
          refine (Tryd.strings_ContainsAny_laid x ⟨#[32, 9, 34]⟩ _ (by omega) (by decide) (et_low _ HP.out) et_low3).mono ?_
          rintro e w2 ⟨rfl, hb2⟩
          rw [show (⟨#[32, 9, 34]⟩ : ByteArray).data.toList = [32, 9, 34] from rfl, HQ.out]
          have hw2 := hw0.trans (hb2.mono hw0.size)
          have hc1 : w2.cell? ⟨w.heap.size, 0, none⟩ = some (.bool false) := (hb2.cell (p := ⟨w.heap.size, 0, none⟩) (by simp)).trans (by simp)
          have hc2 : w2.cell? ⟨w.heap.size, 1, none⟩ = some (.string x) := (hb2.cell (p := ⟨w.heap.size, 1, none⟩) (by simp)).trans (by simp)
          go_wp2_with fail
          go_ret2
          exact ⟨HB.out _ 0 HR.out, hw2⟩
        · have HR : Hid (prE (true, x.data.toList) = ((⟨#[87, 47, 34]⟩ ++ x ++ ⟨#[34]⟩ : ByteArray).data.toList, 0)) := by
            show _ = _
            unfold prE
            rw [if_neg hl, ← et_parts, hp, hq, ByteArray.data_append, Array.toList_append, ByteArray.data_append, Array.toList_append]
            simp [prG]
          have hz1 : ¬ 9223372036854775807 < 3 + x.size := by omega
          clear hp hq hl
          go_enter Tryd.func24, Tryd.ntmps24
          go_wp2_with fail
          refine (rplain_any x _ (by unfold maxLen; omega)).mono ?_
          rintro e w1 ⟨rfl, rfl⟩
          rw [HP.out]
          go_wp2_with fail
          refine (Tryd.strings_ContainsAny_laid x ⟨#[32, 9, 34]⟩ _ (by omega) (by decide) (et_low _ HP.out) et_low3).mono ?_
          rintro e w2 ⟨rfl, hb2⟩
          rw [show (⟨#[32, 9, 34]⟩ : ByteArray).data.toList = [32, 9, 34] from rfl, HQ.out]
          have hw2 := hw0.trans (hb2.mono hw0.size)
          have hc1 : w2.cell? ⟨w.heap.size, 0, none⟩ = some (.bool true) := (hb2.cell (p := ⟨w.heap.size, 0, none⟩) (by simp)).trans (by simp)
          have hc2 : w2.cell? ⟨w.heap.size, 1, none⟩ = some (.string x) := (hb2.cell (p := ⟨w.heap.size, 1, none⟩) (by simp)).trans (by simp)
          go_wp2_with fail
          go_ret2
          exact ⟨HB.out _ 0 HR.out, hw2⟩
      · have HQ : Hid (Lib.containsAny x.data.toList [32, 9, 34] = true) := hq
        have HR : Hid (prE (k, x.data.toList) = ((⟨#[]⟩ : ByteArray).data.toList, 3)) := by
          show _ = _
          unfold prE
          rw [if_neg hl, ← et_parts, hp, hq]; rfl
        clear hp hq hl
        go_enter Tryd.func24, Tryd.ntmps24
        go_wp2_with fail
        refine (rplain_any x _ (by unfold maxLen; omega)).mono ?_
        rintro e w1 ⟨rfl, rfl⟩
        rw [HP.out]
        go_wp2_with fail
        refine (Tryd.strings_ContainsAny_laid x ⟨#[32, 9, 34]⟩ _ (by omega) (by decide) (et_low _ HP.out) et_low3).mono ?_
        rintro e w2 ⟨rfl, hb2⟩
        rw [show (⟨#[32, 9, 34]⟩ : ByteArray).data.toList = [32, 9, 34] from rfl, HQ.out]
        have hw2 := hw0.trans (hb2.mono hw0.size)
        go_wp2_with fail
        go_ret2
        exact ⟨HB.out ⟨#[]⟩ 3 HR.out, hw2⟩
  · have hxi : (100 : Int) < (x.size : Int) := by omega
    have HR : Hid (prE (k, x.data.toList) = ((⟨#[]⟩ : ByteArray).data.toList, 2)) := by
      show _ = _
      unfold prE
      rw [if_pos (by rw [size_list]; omega)]
    go_enter Tryd.func24, Tryd.ntmps24
    go_wp2_with fail
    go_ret2
    exact ⟨HB.out ⟨#[]⟩ 2 HR.out, hw0⟩
set_option maxHeartbeats 2000000 in
set_option maxRecDepth 100000 in
theorem rtparse_at (s x : ByteArray) (k : Bool) (c : Int) (h : paE s.data.toList = ((k, x.data.toList), c)) (w : World) (hs : s.size ≤ 140737488351232) :
    Calls Tryd.prog 14 #[.string s] w fun e w' => e = .returned (.tuple #[.agg #[.bool k, .string x], .int .i64 c]) ∧ Below w.heap.size w w' := by
  obtain ⟨wk, hwk⟩ : ∃ wk, Lib.hasPrefix s.data.toList [87, 47] = wk := ⟨_, rfl⟩
  have HWK : Hid (Lib.hasPrefix s.data.toList [87, 47] = wk) := hwk
  obtain ⟨r, hr⟩ : ∃ r : ByteArray, (⟨(Lib.trimPrefix s.data.toList [87, 47]).toArray⟩ : ByteArray) = r := ⟨_, rfl⟩
  have HRE : Hid ((⟨(Lib.trimPrefix s.data.toList [87, 47]).toArray⟩ : ByteArray) = r) := hr
  have hrl : r.data.toList = restE s.data.toList := by
    rw [← hr]
    show Lib.trimPrefix _ _ = _
    unfold Lib.trimPrefix restE weakB
    rfl
  have hrs : r.size ≤ s.size := by
    rw [← size_list, ← size_list, hrl]
    unfold restE; split
    · rw [List.length_drop]; omega
    · exact Nat.le_refl _
  by_cases h1 : 1 < r.size
  · obtain ⟨y, hy⟩ : ∃ y, y = r.extract 1 (r.size - 1) := ⟨_, rfl⟩
    have hyl : textE (restE s.data.toList) = y.data.toList := by
      rw [hy, Lib.extract_data, ← hrl]
      unfold textE
      rw [if_pos (by rw [size_list]; omega), size_list, Nat.sub_sub]
    have h1i : (1 : Int) < (r.size : Int) := by omega
    have hsl : ∀ w, (Instr.slice 9 (.string r) (some (.int .i64 1)) (some (.int .i64 ((r.size : Int) - 1))) none).run Tryd.prog w = .ok (.string y) w := fun w => by
      obtain ⟨q, hq, _, hsl⟩ := slice_part r 1 (r.size - 1) (by omega) (by omega)
      have hqe : q = y := by apply ByteArray.ext; apply Array.ext'; rw [hq, hy, Lib.extract_data]
      have := hsl w
      rw [hqe, show ((r.size - 1 : Nat) : Int) = (r.size : Int) - 1 by omega] at this
      exact this
    obtain ⟨u, d, hu⟩ := pair_bi (prE (wk, y.data.toList))
    have HPR : Hid (prE (wk, y.data.toList) = (u.data.toList, d)) := hu
    have hcand : candE s.data.toList = (wk, y.data.toList) := by unfold candE weakB; rw [hwk, hyl]
    have HFIN : Hid (d = 0 → u = s → wk = k ∧ y = x ∧ c = 0) := by
      intro e1 e2
      subst e1 e2
      unfold paE at h
      rw [hcand, if_pos hu] at h
      have h2 := (Prod.mk.inj h).1
      exact ⟨(Prod.mk.inj h2).1, ByteArray.ext (Array.ext' (Prod.mk.inj h2).2), (Prod.mk.inj h).2.symm⟩
    have HBAD : Hid (¬ (d = 0 ∧ u = s) → k = false ∧ x = ⟨#[]⟩ ∧ c = 3) := by
      intro e
      unfold paE at h
      rw [hcand, hu, if_neg (fun e2 => e ⟨(Prod.mk.inj e2).2, ByteArray.ext (Array.ext' (Prod.mk.inj e2).1)⟩)] at h
      have h2 := (Prod.mk.inj h).1
      exact ⟨(Prod.mk.inj h2).1.symm, ByteArray.ext (Array.ext' (Prod.mk.inj h2).2.symm), (Prod.mk.inj h).2.symm⟩
    clear hy hr hrl hyl hwk h hu hcand h1
    go_enter Tryd.func14, Tryd.ntmps14
    go_wp2_with fail
    refine (Tryd.strings_HasPrefix s ⟨#[87, 47]⟩ _).mono ?_
    rintro e w1 ⟨rfl, rfl⟩
    rw [show (⟨#[87, 47]⟩ : ByteArray).data.toList = [87, 47] from rfl, HWK.out]
    go_wp2_with fail
    refine (Tryd.strings_TrimPrefix s ⟨#[87, 47]⟩ _).mono ?_
    rintro e w2 ⟨rfl, rfl⟩
    rw [show (⟨#[87, 47]⟩ : ByteArray).data.toList = [87, 47] from rfl, HRE.out]
    go_wp2_with fail
    refine (rtprint_at wk y u d HPR.out _).mono ?_
    rintro e w3 ⟨rfl, hb3⟩
    have hf0 : w3.cell? ⟨w.heap.size, 0, none⟩ = some (.bool false) := (hb3.cell (p := ⟨w.heap.size, 0, none⟩) (by simp; omega)).trans (by simp)
    have hf1 : w3.cell? ⟨w.heap.size, 1, none⟩ = some (.string ⟨#[]⟩) := (hb3.cell (p := ⟨w.heap.size, 1, none⟩) (by simp; omega)).trans (by simp)
    have hf2 : w3.cell? ⟨w.heap.size + 1, 0, none⟩ = some (.bool wk) := (hb3.cell (p := ⟨w.heap.size + 1, 0, none⟩) (by simp)).trans (by simp)
    have hf3 : w3.cell? ⟨w.heap.size + 1, 1, none⟩ = some (.string y) := (hb3.cell (p := ⟨w.heap.size + 1, 1, none⟩) (by simp)).trans (by simp)
    have hfz : ∀ o, w3.frozen? ⟨w.heap.size, o, none⟩ = false := fun o => (hb3.frozen (p := ⟨w.heap.size, o, none⟩) (by simp; omega)).trans (by simp)
    have hz0 := hfz 0
    have hz1 := hfz 1
    have hbel : Below w.heap.size w w3 := (((Below.refl _ w).alloc (Nat.le_refl _) _).alloc (by simp) _).trans (hb3.mono (by simp; omega))
    have hgs3 : w.heap.size + 1 < w3.heap.size := by have := hb3.size; simp at this; omega
    clear hb3 hfz
    by_cases hd : d = 0
    · subst hd
      by_cases hus : u = s
      · subst hus
        obtain ⟨rfl, rfl, rfl⟩ := HFIN.out rfl rfl
        go_wp2_with fail
        obtain ⟨c0, c1⟩ := two_set (.bool wk) (.string y) hf0 hf1
        obtain ⟨w4, hw4⟩ : ∃ w4, w4 = (w3.setCell ⟨w.heap.size, 0, none⟩ (.bool wk)).setCell ⟨w.heap.size, 1, none⟩ (.string y) := ⟨_, rfl⟩
        have hb4 : Below w.heap.size w w4 := by rw [hw4]; exact (hbel.setCell (p := ⟨w.heap.size, 0, none⟩) (Nat.le_refl _) _).setCell (p := ⟨w.heap.size, 1, none⟩) (Nat.le_refl _) _
        rw [← hw4] at c0 c1 ⊢
        clear hw4
        refine bodyPost_ret (by simp [results, Tryd.results14, go_sem, c0, c1]; try rfl) rfl ?_
        exact ⟨rfl, hb4⟩
      · have hne : (u.toList == s.toList) = false := by
          rw [beq_eq_false_iff_ne, ByteArray.toList_eq, ByteArray.toList_eq]
          intro e; apply hus; apply ByteArray.ext; apply Array.ext'; exact e
        obtain ⟨rfl, rfl, rfl⟩ := HBAD.out (fun e => hus e.2)
        go_wp2_with fail
        obtain ⟨c0, c1⟩ := two_set (.bool false) (.string ⟨#[]⟩) hf0 hf1
        obtain ⟨w4, hw4⟩ : ∃ w4, w4 = (w3.setCell ⟨w.heap.size, 0, none⟩ (.bool false)).setCell ⟨w.heap.size, 1, none⟩ (.string ⟨#[]⟩) := ⟨_, rfl⟩
        have hb4 : Below w.heap.size w w4 := by rw [hw4]; exact (hbel.setCell (p := ⟨w.heap.size, 0, none⟩) (Nat.le_refl _) _).setCell (p := ⟨w.heap.size, 1, none⟩) (Nat.le_refl _) _
        rw [← hw4] at c0 c1 ⊢
        clear hw4
        refine bodyPost_ret (by simp [results, Tryd.results14, go_sem, c0, c1]; try rfl) rfl ?_
        exact ⟨rfl, hb4⟩
    · have hdb : (d == 0) = false := by simp [hd]
      obtain ⟨rfl, rfl, rfl⟩ := HBAD.out (fun e => hd e.1)
      go_wp2_with fail
      obtain ⟨c0, c1⟩ := two_set (.bool false) (.string ⟨#[]⟩) hf0 hf1
      obtain ⟨w4, hw4⟩ : ∃ w4, w4 = (w3.setCell ⟨w.heap.size, 0, none⟩ (.bool false)).setCell ⟨w.heap.size, 1, none⟩ (.string ⟨#[]⟩) := ⟨_, rfl⟩
      have hb4 : Below w.heap.size w w4 := by rw [hw4]; exact (hbel.setCell (p := ⟨w.heap.size, 0, none⟩) (Nat.le_refl _) _).setCell (p := ⟨w.heap.size, 1, none⟩) (Nat.le_refl _) _
      rw [← hw4] at c0 c1 ⊢
      clear hw4
      refine bodyPost_ret (by simp [results, Tryd.results14, go_sem, c0, c1]; try rfl) rfl ?_
      exact ⟨rfl, hb4⟩
  · have hyl : textE (restE s.data.toList) = (⟨#[]⟩ : ByteArray).data.toList := by
      rw [← hrl]
      unfold textE
      rw [if_neg (by rw [size_list]; omega)]
    have h1i : ¬ (1 : Int) < (r.size : Int) := by omega
    obtain ⟨u, d, hu⟩ := pair_bi (prE (wk, (⟨#[]⟩ : ByteArray).data.toList))
    have HPR : Hid (prE (wk, (⟨#[]⟩ : ByteArray).data.toList) = (u.data.toList, d)) := hu
    have hcand : candE s.data.toList = (wk, (⟨#[]⟩ : ByteArray).data.toList) := by unfold candE weakB; rw [hwk, hyl]
    have HFIN : Hid (d = 0 → u = s → wk = k ∧ ⟨#[]⟩ = x ∧ c = 0) := by
      intro e1 e2
      subst e1 e2
      unfold paE at h
      rw [hcand, if_pos hu] at h
      have h2 := (Prod.mk.inj h).1
      exact ⟨(Prod.mk.inj h2).1, ByteArray.ext (Array.ext' (Prod.mk.inj h2).2), (Prod.mk.inj h).2.symm⟩
    have HBAD : Hid (¬ (d = 0 ∧ u = s) → k = false ∧ x = ⟨#[]⟩ ∧ c = 3) := by
      intro e
      unfold paE at h
      rw [hcand, hu, if_neg (fun e2 => e ⟨(Prod.mk.inj e2).2, ByteArray.ext (Array.ext' (Prod.mk.inj e2).1)⟩)] at h
      have h2 := (Prod.mk.inj h).1
      exact ⟨(Prod.mk.inj h2).1.symm, ByteArray.ext (Array.ext' (Prod.mk.inj h2).2.symm), (Prod.mk.inj h).2.symm⟩
    clear hr hrl hyl hwk h hu hcand h1
    go_enter Tryd.func14, Tryd.ntmps14
    go_wp2_with fail
    refine (Tryd.strings_HasPrefix s ⟨#[87, 47]⟩ _).mono ?_
    rintro e w1 ⟨rfl, rfl⟩
    rw [show (⟨#[87, 47]⟩ : ByteArray).data.toList = [87, 47] from rfl, HWK.out]
    go_wp2_with fail
    refine (Tryd.strings_TrimPrefix s ⟨#[87, 47]⟩ _).mono ?_
    rintro e w2 ⟨rfl, rfl⟩
    rw [show (⟨#[87, 47]⟩ : ByteArray).data.toList = [87, 47] from rfl, HRE.out]
    go_wp2_with fail
    refine (rtprint_at wk ⟨#[]⟩ u d HPR.out _).mono ?_
    rintro e w3 ⟨rfl, hb3⟩
    have hf0 : w3.cell? ⟨w.heap.size, 0, none⟩ = some (.bool false) := (hb3.cell (p := ⟨w.heap.size, 0, none⟩) (by simp; omega)).trans (by simp)
    have hf1 : w3.cell? ⟨w.heap.size, 1, none⟩ = some (.string ⟨#[]⟩) := (hb3.cell (p := ⟨w.heap.size, 1, none⟩) (by simp; omega)).trans (by simp)
    have hf2 : w3.cell? ⟨w.heap.size + 1, 0, none⟩ = some (.bool wk) := (hb3.cell (p := ⟨w.heap.size + 1, 0, none⟩) (by simp)).trans (by simp)
    have hf3 : w3.cell? ⟨w.heap.size + 1, 1, none⟩ = some (.string ⟨#[]⟩) := (hb3.cell (p := ⟨w.heap.size + 1, 1, none⟩) (by simp)).trans (by simp)
    have hfz : ∀ o, w3.frozen? ⟨w.heap.size, o, none⟩ = false := fun o => (hb3.frozen (p := ⟨w.heap.size, o, none⟩) (by simp; omega)).trans (by simp)
    have hz0 := hfz 0
    have hz1 := hfz 1
    have hbel : Below w.heap.size w w3 := (((Below.refl _ w).alloc (Nat.le_refl _) _).alloc (by simp) _).trans (hb3.mono (by simp; omega))
    have hgs3 : w.heap.size + 1 < w3.heap.size := by have := hb3.size; simp at this; omega
    clear hb3 hfz
    by_cases hd : d = 0
    · subst hd
      by_cases hus : u = s
      · subst hus
        obtain ⟨rfl, rfl, rfl⟩ := HFIN.out rfl rfl
        go_wp2_with fail
        obtain ⟨c0, c1⟩ := two_set (.bool wk) (.string ⟨#[]⟩) hf0 hf1
        obtain ⟨w4, hw4⟩ : ∃ w4, w4 = (w3.setCell ⟨w.heap.size, 0, none⟩ (.bool wk)).setCell ⟨w.heap.size, 1, none⟩ (.string ⟨#[]⟩) := ⟨_, rfl⟩
        have hb4 : Below w.heap.size w w4 := by rw [hw4]; exact (hbel.setCell (p := ⟨w.heap.size, 0, none⟩) (Nat.le_refl _) _).setCell (p := ⟨w.heap.size, 1, none⟩) (Nat.le_refl _) _
        rw [← hw4] at c0 c1 ⊢
        clear hw4
        refine bodyPost_ret (by simp [results, Tryd.results14, go_sem, c0, c1]; try rfl) rfl ?_
        exact ⟨rfl, hb4⟩
      · have hne : (u.toList == s.toList) = false := by
          rw [beq_eq_false_iff_ne, ByteArray.toList_eq, ByteArray.toList_eq]
          intro e; apply hus; apply ByteArray.ext; apply Array.ext'; exact e
        obtain ⟨rfl, rfl, rfl⟩ := HBAD.out (fun e => hus e.2)
        go_wp2_with fail
        obtain ⟨c0, c1⟩ := two_set (.bool false) (.string ⟨#[]⟩) hf0 hf1
        obtain ⟨w4, hw4⟩ : ∃ w4, w4 = (w3.setCell ⟨w.heap.size, 0, none⟩ (.bool false)).setCell ⟨w.heap.size, 1, none⟩ (.string ⟨#[]⟩) := ⟨_, rfl⟩
        have hb4 : Below w.heap.size w w4 := by rw [hw4]; exact (hbel.setCell (p := ⟨w.heap.size, 0, none⟩) (Nat.le_refl _) _).setCell (p := ⟨w.heap.size, 1, none⟩) (Nat.le_refl _) _
        rw [← hw4] at c0 c1 ⊢
        clear hw4
        refine bodyPost_ret (by simp [results, Tryd.results14, go_sem, c0, c1]; try rfl) rfl ?_
        exact ⟨rfl, hb4⟩
    · have hdb : (d == 0) = false := by simp [hd]
      obtain ⟨rfl, rfl, rfl⟩ := HBAD.out (fun e => hd e.1)
      go_wp2_with fail
      obtain ⟨c0, c1⟩ := two_set (.bool false) (.string ⟨#[]⟩) hf0 hf1
      obtain ⟨w4, hw4⟩ : ∃ w4, w4 = (w3.setCell ⟨w.heap.size, 0, none⟩ (.bool false)).setCell ⟨w.heap.size, 1, none⟩ (.string ⟨#[]⟩) := ⟨_, rfl⟩
      have hb4 : Below w.heap.size w w4 := by rw [hw4]; exact (hbel.setCell (p := ⟨w.heap.size, 0, none⟩) (Nat.le_refl _) _).setCell (p := ⟨w.heap.size, 1, none⟩) (Nat.le_refl _) _
      rw [← hw4] at c0 c1 ⊢
      clear hw4
      refine bodyPost_ret (by simp [results, Tryd.results14, go_sem, c0, c1]; try rfl) rfl ?_
      exact ⟨rfl, hb4⟩
end Go.Proofs.YtfeikdplfjikeaaDoor
