/-
  What Life and Age of package fresh say of a stored response whose fields hold at most 2^22 letters and values.
-/
import Derived.Test.YtigbjhkkbgdkcacGreatDoorMd
import Derived.BigQuiet
import Derived.Deep.QuietTactic
import Derived.Below
import Derived.Deep.RegionHeld3
import Derived.Lib.AtoiTie
import Derived.Lib.ItoaNum
import Derived.Test.YtigbjhkkbgdkcacGreatDoorRows
import Derived.Laws.AppendOwnNone
namespace Go.Proofs.YtigbjhkkbgdkcacGreatDoor
open Go.RowKit

/-- A tenth of what lies behind, or nothing. -/
theorem life_div (md n : Int) : spn ((md - n).tdiv 10) top31 = if n ≤ md then spn ((md - n) / 10) 2147483648 else 0 := by
  by_cases h : n ≤ md
  · rw [if_pos h, Int.tdiv_eq_ediv_of_nonneg (by omega)]; rfl
  · rw [if_neg h]
    have h2 := Int.tdiv_nonneg (a := -(md - n)) (b := 10) (by omega) (by omega)
    rw [Int.neg_tdiv] at h2
    unfold spn top31
    omega
set_option maxHeartbeats 8000000 in
set_option maxRecDepth 100000 in
theorem flife_at (D : DFn) (hD : DOk D) (v0 v1 v2 v3 v5 v7 v8 v10 fv : Value) (ls : List Fld) (code came : Int) (w : World) (hf : Fl w fv ls) (hbk : bulkF ls ≤ 4194304) (hT : DTabs w) :
    Calls Tryz.prog 14 #[.agg #[v0, v1, v2, v3, .int .i64 code, v5, fv, v7, v8, .int .i64 came, v10]] w fun e w' => e = .returned (.int .i64 (lifeP D ls code came)) ∧ Below w.heap.size w w' := by
  have hb0 : Below w.heap.size w (w.alloc (.cells #[v0, v1, v2, v3, .int .i64 code, v5, fv, v7, v8, .int .i64 came, v10] 28)) := (Below.refl _ w).alloc (Nat.le_refl _) _
  have HALL : Hid (∀ W : World, Below (w.alloc (.cells #[v0, v1, v2, v3, .int .i64 code, v5, fv, v7, v8, .int .i64 came, v10] 28)).heap.size (w.alloc (.cells #[v0, v1, v2, v3, .int .i64 code, v5, fv, v7, v8, .int .i64 came, v10] 28)) W →
      Cells11 W w.heap.size v0 v1 v2 v3 (.int .i64 code) v5 fv v7 v8 (.int .i64 came) v10 ∧ Below w.heap.size w W ∧ Fl W fv ls ∧ DTabs W) := fun W h => by
    have hB := hb0.trans (h.mono hb0.size)
    exact ⟨eleven h, hB, hf.below hB, hT.below hB⟩
  have HBK : Hid (bulkF ls ≤ 4194304) := hbk
  have HWI : Hid (Wide ls) := wide_fr ls (by omega)
  have HMO : Hid (MostD maxLen (ctl ls)) := fctl_most ls
  obtain ⟨n1, b1, e1⟩ : ∃ n b, secK (ctl ls) dSM = (n, b) := ⟨_, _, rfl⟩
  obtain ⟨n2, b2, e2⟩ : ∃ n b, secK (ctl ls) dMA = (n, b) := ⟨_, _, rfl⟩
  obtain ⟨x3, e3⟩ : ∃ b, (vals ls nExp).isEmpty = b := ⟨_, rfl⟩
  obtain ⟨u4, e4⟩ : ∃ n, (if (dOf D ls nExp).2 = true then spn ((dOf D ls nExp).1 - madeP D ls came) top31 else 0) = n := ⟨_, rfl⟩
  obtain ⟨n5, k5, e5⟩ : ∃ n c, D (gv ls nLM) = (n, c) := ⟨_, _, rfl⟩
  obtain ⟨b5, e5b⟩ : ∃ b, (k5 == 0) = b := ⟨_, rfl⟩
  obtain ⟨md, emd⟩ : ∃ n, madeP D ls came = n := ⟨_, rfl⟩
  obtain ⟨st, est⟩ : ∃ b, storedP code = b := ⟨_, rfl⟩
  have hmi := fmade_in D hD ls came
  have h5i := fdOf_in D hD ls nLM
  have hdp := dof_plain D hD ls nLM
  rw [e5, e5b] at hdp
  rw [e5] at h5i
  have HUN : Hid (∀ W : World, Fl W fv ls → DTabs W → Calls Tryz.prog 36 #[.agg #[v0, v1, v2, v3, .int .i64 code, v5, fv, v7, v8, .int .i64 came, v10]] W fun e w' => e = .returned (.int .i64 u4) ∧ Below W.heap.size W w') := fun W hW hM => by
    rw [← e4]
    exact funtil_at D hD v0 v1 v2 v3 _ v5 v7 v8 v10 fv ls came W hW hbk hM
  have HMD : Hid (∀ W : World, Fl W fv ls → DTabs W → Calls Tryz.prog 40 #[.agg #[v0, v1, v2, v3, .int .i64 code, v5, fv, v7, v8, .int .i64 came, v10]] W fun e w' => e = .returned (.int .i64 md) ∧ Below W.heap.size W w') := fun W hW hM => by
    rw [← emd]
    exact fmade_at D hD v0 v1 v2 v3 _ v5 v7 v8 v10 fv ls came W hW hbk hM
  rw [emd] at hmi
  have HLF : Hid (lifeP D ls code came = if b1 = true then n1 else if b2 = true then n2 else if x3 = false then u4
      else if b5 = true ∧ st = true ∧ n5 ≤ md then spn ((md - n5) / 10) 2147483648 else 0) := by
    show _ = _
    rw [← e4]
    unfold lifeP top31
    rw [e1, e2, e3, est, hdp]
    simp only [emd]
  have HS1 : Hid (secK (ctl ls) (⟨#[115, 45, 109, 97, 120, 97, 103, 101]⟩ : ByteArray).data.toList = (n1, b1)) := e1
  have HS2 : Hid (secK (ctl ls) (⟨#[109, 97, 120, 45, 97, 103, 101]⟩ : ByteArray).data.toList = (n2, b2)) := e2
  obtain ⟨x, hx⟩ : ∃ x : ByteArray, x.data.toList = jn (vals ls (⟨#[69, 120, 112, 105, 114, 101, 115]⟩ : ByteArray).data.toList) := ⟨⟨(jn (vals ls nExp)).toArray⟩, rfl⟩
  have HX : Hid (x.data.toList = jn (vals ls (⟨#[69, 120, 112, 105, 114, 101, 115]⟩ : ByteArray).data.toList)) := hx
  have hxs : x.size ≤ 140737488355328 := by
    have h := jn_bulk ls (⟨#[69, 120, 112, 105, 114, 101, 115]⟩ : ByteArray).data.toList
    rw [← hx, size_list] at h
    omega
  have HX3 : Hid ((!x3) = !(vals ls (⟨#[69, 120, 112, 105, 114, 101, 115]⟩ : ByteArray).data.toList).isEmpty) := by
    show _ = _
    rw [← e3]; rfl
  have HP5 : Hid (PR (jn (vals ls (⟨#[76, 97, 115, 116, 45, 77, 111, 100, 105, 102, 105, 101, 100]⟩ : ByteArray).data.toList)) n5 k5) := by
    have h := hD (gv ls nLM)
    rw [e5] at h
    exact h
  have HJ5 : Hid ((jn (vals ls (⟨#[76, 97, 115, 116, 45, 77, 111, 100, 105, 102, 105, 101, 100]⟩ : ByteArray).data.toList)).length ≤ 140737488355328) := by
    have := jn_bulk ls (⟨#[76, 97, 115, 116, 45, 77, 111, 100, 105, 102, 105, 101, 100]⟩ : ByteArray).data.toList
    show _ ≤ _
    omega
  have HB5 : Hid ((k5 == 0) = b5) := e5b
  have HST : Hid (∀ W : World, Calls Tryz.prog 38 #[.int .i64 code] W fun e w' => e = .returned (.bool st) ∧ w' = W) := fun W => by rw [← est]; exact flast_any code W
  obtain ⟨ad, cap, hv, hnc, hcm, hcx⟩ := id hf
  subst hv
  unfold maxLen at hcm
  clear hcx hf hbk hb0 hT e1 e2 e3 e4 e5 e5b emd est hx hdp
  go_enter Tryz.func14, Tryz.ntmps14
  go_wp2_with fail
  obtain ⟨_, _, hF0, _⟩ := HALL.out _ (Below.refl _ _)
  refine (fdirs_at _ ls _ hF0 HBK.out).mono ?_
  clear hF0
  rintro e w1 ⟨v1', rfl, hown1, hb1⟩
  have HB1 : Hid (Below (w.alloc (.cells #[v0, v1, v2, v3, .int .i64 code, v5, .slice ad ls.length cap, v7, v8, .int .i64 came, v10] 28)).heap.size (w.alloc (.cells #[v0, v1, v2, v3, .int .i64 code, v5, .slice ad ls.length cap, v7, v8, .int .i64 came, v10] 28)) w1) := hb1
  have HD1 : Hid (Dl w1 v1' (ctl ls)) := Dl.own hown1
  obtain ⟨ad1, cap1, hv1, hcm1, hnc1, _⟩ := own_form2 hown1
  subst hv1
  clear hb1 hown1
  go_wp2_with fail
  refine (ksec_at _ _ (ctl ls) n1 b1 HS1.out _ HD1.out HMO.out).mono ?_
  rintro e w2 ⟨rfl, hb2⟩
  have HB2 : Hid (Below (w.alloc (.cells #[v0, v1, v2, v3, .int .i64 code, v5, .slice ad ls.length cap, v7, v8, .int .i64 came, v10] 28)).heap.size (w.alloc (.cells #[v0, v1, v2, v3, .int .i64 code, v5, .slice ad ls.length cap, v7, v8, .int .i64 came, v10] 28)) w2) := HB1.out.trans (hb2.mono HB1.out.size)
  have HD2 : Hid (Dl w2 (.slice ad1 (ctl ls).length cap1) (ctl ls)) := HD1.out.below hb2
  clear hb2
  cases b1
  rotate_left
  · obtain ⟨_, hBw, _, _⟩ := HALL.out _ HB2.out
    go_wp2_with fail
    go_ret
    exact ⟨by rw [HLF.out]; rfl, hBw⟩
  go_wp2_with fail
  refine (ksec_at _ _ (ctl ls) n2 b2 HS2.out _ HD2.out HMO.out).mono ?_
  rintro e w4 ⟨rfl, hb4⟩
  have HB4w : Hid (Below (w.alloc (.cells #[v0, v1, v2, v3, .int .i64 code, v5, .slice ad ls.length cap, v7, v8, .int .i64 came, v10] 28)).heap.size (w.alloc (.cells #[v0, v1, v2, v3, .int .i64 code, v5, .slice ad ls.length cap, v7, v8, .int .i64 came, v10] 28)) w4) := HB2.out.trans (hb4.mono HB2.out.size)
  clear hb4
  cases b2
  rotate_left
  · obtain ⟨_, hBw, _, _⟩ := HALL.out _ HB4w.out
    go_wp2_with fail
    go_ret
    exact ⟨by rw [HLF.out]; rfl, hBw⟩
  obtain ⟨_, _, hF5, _⟩ := HALL.out _ HB4w.out
  go_wp2_with fail
  refine (get_at _ ls _ x _ HX.out HX3.out _ hF5 HWI.out (by decide) hxs).mono ?_
  clear hF5
  rintro e w6 ⟨rfl, hb6⟩
  have HB6 : Hid (Below (w.alloc (.cells #[v0, v1, v2, v3, .int .i64 code, v5, .slice ad ls.length cap, v7, v8, .int .i64 came, v10] 28)).heap.size (w.alloc (.cells #[v0, v1, v2, v3, .int .i64 code, v5, .slice ad ls.length cap, v7, v8, .int .i64 came, v10] 28)) w6) := HB4w.out.trans (hb6.mono HB4w.out.size)
  clear hb6
  obtain ⟨⟨c0, c1, c2, c3, c4, c5, c6, c7, c8, c9, c10⟩, hB6, hF6, hM6⟩ := HALL.out _ HB6.out
  have HF6 : Hid (Fl w6 (.slice ad ls.length cap) ls) := hF6
  have HM6 : Hid (DTabs w6) := hM6
  have HBW6 : Hid (Below w.heap.size w w6) := hB6
  clear hF6 hM6 hB6
  cases x3
  · go_wp2_with fail
    refine (HUN.out _ HF6.out HM6.out).mono ?_
    rintro e w7 ⟨rfl, hb7⟩
    have HB7 : Hid (Below w.heap.size w w7) := HBW6.out.trans (hb7.mono HBW6.out.size)
    clear hb7 c0 c1 c2 c3 c4 c5 c6 c7 c8 c9 c10
    go_wp2_with fail
    go_ret
    exact ⟨by rw [HLF.out]; rfl, HB7.out⟩
  · go_wp2_with fail
    refine (dof_at _ ls _ n5 k5 HP5.out _ HF6.out HWI.out (by decide) HJ5.out HM6.out).mono ?_
    rintro e w7 ⟨rfl, hb7⟩
    rw [HB5.out]
    have HB7 : Hid (Below (w.alloc (.cells #[v0, v1, v2, v3, .int .i64 code, v5, .slice ad ls.length cap, v7, v8, .int .i64 came, v10] 28)).heap.size (w.alloc (.cells #[v0, v1, v2, v3, .int .i64 code, v5, .slice ad ls.length cap, v7, v8, .int .i64 came, v10] 28)) w7) := HB6.out.trans (hb7.mono HB6.out.size)
    clear hb7 c0 c1 c2 c3 c4 c5 c6 c7 c8 c9 c10
    obtain ⟨⟨c0, c1, c2, c3, c4, c5, c6, c7, c8, c9, c10⟩, hB7, hF7, hM7⟩ := HALL.out _ HB7.out
    have HF7 : Hid (Fl w7 (.slice ad ls.length cap) ls) := hF7
    have HM7 : Hid (DTabs w7) := hM7
    have HBW7 : Hid (Below w.heap.size w w7) := hB7
    clear hF7 hM7 hB7
    cases b5
    · go_wp2_with fail
      go_ret
      exact ⟨by rw [HLF.out]; simp, HBW7.out⟩
    · cases st
      · go_wp2_with (go_at_call 38; refine (HST.out _).mono ?_; rintro e w8 ⟨rfl, rfl⟩)
        go_ret
        exact ⟨by rw [HLF.out]; simp, HBW7.out⟩
      · go_wp2_with (go_at_call 38; refine (HST.out _).mono ?_; rintro e w8 ⟨rfl, rfl⟩)
        refine (HMD.out _ HF7.out HM7.out).mono ?_
        rintro e w9 ⟨rfl, hb9⟩
        have HB9 : Hid (Below w.heap.size w w9) := HBW7.out.trans (hb9.mono HBW7.out.size)
        clear hb9 c0 c1 c2 c3 c4 c5 c6 c7 c8 c9 c10
        have hz : ((10 : Int) == 0) = false := rfl
        go_wp2_with fail
        refine (fsecs_any ((md - n5).tdiv 10) _).mono ?_
        rintro e w10 ⟨rfl, rfl⟩
        go_wp2_with fail
        go_ret
        exact ⟨by rw [HLF.out]; exact ret_int (by rw [life_div md n5]; simp), HB9.out⟩
set_option maxHeartbeats 8000000 in
set_option maxRecDepth 100000 in
theorem fage_at (D : DFn) (hD : DOk D) (v0 v1 v2 v3 v4 v5 v7 v10 fv : Value) (ls : List Fld) (asked came now : Int) (w : World) (hf : Fl w fv ls) (hbk : bulkF ls ≤ 4194304) (hT : DTabs w) :
    Calls Tryz.prog 19 #[.agg #[v0, v1, v2, v3, v4, v5, fv, v7, .int .i64 asked, .int .i64 came, v10], .int .i64 now] w fun e w' => e = .returned (.int .i64 (ageP D ls asked came now)) ∧ Below w.heap.size w w' := by
  have hb0 : Below w.heap.size w (w.alloc (.cells #[v0, v1, v2, v3, v4, v5, fv, v7, .int .i64 asked, .int .i64 came, v10] 28)) := (Below.refl _ w).alloc (Nat.le_refl _) _
  have HALL : Hid (∀ W : World, Below (w.alloc (.cells #[v0, v1, v2, v3, v4, v5, fv, v7, .int .i64 asked, .int .i64 came, v10] 28)).heap.size (w.alloc (.cells #[v0, v1, v2, v3, v4, v5, fv, v7, .int .i64 asked, .int .i64 came, v10] 28)) W →
      Cells11 W w.heap.size v0 v1 v2 v3 v4 v5 fv v7 (.int .i64 asked) (.int .i64 came) v10 ∧ Below w.heap.size w W ∧ Fl W fv ls ∧ DTabs W) := fun W h => by
    have hB := hb0.trans (h.mono hb0.size)
    exact ⟨eleven h, hB, hf.below hB, hT.below hB⟩
  have HBK : Hid (bulkF ls ≤ 4194304) := hbk
  obtain ⟨md, emd⟩ : ∃ n, madeP D ls came = n := ⟨_, rfl⟩
  obtain ⟨sa, esa⟩ : ∃ n, spn asked lastT = n := ⟨_, rfl⟩
  obtain ⟨sc, esc⟩ : ∃ n, spn came lastT = n := ⟨_, rfl⟩
  obtain ⟨sn, esn⟩ : ∃ n, spn now lastT = n := ⟨_, rfl⟩
  obtain ⟨nk, enk⟩ : ∃ n, numK (gv ls nAge) = n := ⟨_, rfl⟩
  have hmi := fmade_in D hD ls came
  have hia := spn_in asked lastT (by unfold lastT; omega)
  have hic := spn_in came lastT (by unfold lastT; omega)
  have hin := spn_in now lastT (by unfold lastT; omega)
  have hik := numK_in (gv ls nAge)
  rw [emd] at hmi
  rw [esa] at hia
  rw [esc] at hic
  rw [esn] at hin
  rw [enk] at hik
  unfold lastT at hia hic hin
  have HAG : Hid (ageP D ls asked came now = spn (max 0 (max (sc - md) (nk + max 0 (sc - sa))) + max 0 (sn - sc)) top31) := by
    show _ = _
    unfold ageP grown
    rw [emd, esa, esc, esn, enk]
    congr 1
    omega
  have HMD : Hid (∀ W : World, Fl W fv ls → DTabs W → Calls Tryz.prog 40 #[.agg #[v0, v1, v2, v3, v4, v5, fv, v7, .int .i64 asked, .int .i64 came, v10]] W fun e w' => e = .returned (.int .i64 md) ∧ Below W.heap.size W w') := fun W hW hM => by
    rw [← emd]
    exact fmade_at D hD v0 v1 v2 v3 v4 v5 v7 _ v10 fv ls came W hW hbk hM
  have HSA : Hid (∀ W : World, Calls Tryz.prog 43 #[.int .i64 asked] W fun e w' => e = .returned (.int .i64 sa) ∧ w' = W) := fun W => by rw [← esa]; exact fnear_any asked W
  have HSC : Hid (∀ W : World, Calls Tryz.prog 43 #[.int .i64 came] W fun e w' => e = .returned (.int .i64 sc) ∧ w' = W) := fun W => by rw [← esc]; exact fnear_any came W
  have HSN : Hid (∀ W : World, Calls Tryz.prog 43 #[.int .i64 now] W fun e w' => e = .returned (.int .i64 sn) ∧ w' = W) := fun W => by rw [← esn]; exact fnear_any now W
  have HWY : Hid (∀ W : World, Fl W fv ls → Calls Tryz.prog 44 #[fv] W fun e w' => e = .returned (.int .i64 nk) ∧ Below W.heap.size W w') := fun W hW => by rw [← enk]; exact fway_at fv ls W hW hbk
  obtain ⟨ad, cap, hv, hnc, hcm, hcx⟩ := id hf
  subst hv
  unfold maxLen at hcm
  clear hcx hf hbk hb0 hT emd esa esc esn enk
  go_enter Tryz.func19, Tryz.ntmps19
  go_wp2_with fail
  go_quiet (first | (go_at_call 43; with_reducible first | exact Calls.quiet_of_same (HSA.out _) | exact Calls.quiet_of_same (HSC.out _)))
  have HB1 : Hid (∀ j, Below (w.alloc (.cells #[v0, v1, v2, v3, v4, v5, .slice ad ls.length cap, v7, .int .i64 asked, .int .i64 came, v10] 28)).heap.size (w.alloc (.cells #[v0, v1, v2, v3, v4, v5, .slice ad ls.length cap, v7, .int .i64 asked, .int .i64 came, v10] 28)) ((w.alloc (.cells #[v0, v1, v2, v3, v4, v5, .slice ad ls.length cap, v7, .int .i64 asked, .int .i64 came, v10] 28)).drewN j)) := fun j => drewN_below _ _ j
  go_wp2_with fail
  obtain ⟨_, _, hF0, hM0⟩ := HALL.out _ (HB1.out _)
  refine (HMD.out _ hF0 hM0).mono ?_
  clear hF0 hM0
  rintro e w2 ⟨rfl, hb2⟩
  have HB2 : Hid (Below (w.alloc (.cells #[v0, v1, v2, v3, v4, v5, .slice ad ls.length cap, v7, .int .i64 asked, .int .i64 came, v10] 28)).heap.size (w.alloc (.cells #[v0, v1, v2, v3, v4, v5, .slice ad ls.length cap, v7, .int .i64 asked, .int .i64 came, v10] 28)) w2) := (HB1.out _).trans (hb2.mono (HB1.out _).size)
  clear hb2
  obtain ⟨⟨c0, c1, c2, c3, c4, c5, c6, c7, c8, c9, c10⟩, hB2, hF2, hM2⟩ := HALL.out _ HB2.out
  have HF2 : Hid (Fl w2 (.slice ad ls.length cap) ls) := hF2
  have HBW2 : Hid (Below w.heap.size w w2) := hB2
  clear hF2 hM2 hB2
  go_wp2_with fail
  refine (HWY.out _ HF2.out).mono ?_
  rintro e w3 ⟨rfl, hb3⟩
  have HB3 : Hid (Below w.heap.size w w3) := HBW2.out.trans (hb3.mono HBW2.out.size)
  clear hb3 c0 c1 c2 c3 c4 c5 c6 c7 c8 c9 c10
  go_wp2_with fail
  refine (HSN.out _).mono ?_
  rintro e w4 ⟨rfl, rfl⟩
  go_wp2_with fail
  refine (fsecs_any (max 0 (max (sc - md) (nk + max 0 (sc - sa))) + max 0 (sn - sc)) _).mono ?_
  rintro e w5 ⟨rfl, rfl⟩
  go_wp2_with fail
  go_ret
  exact ⟨ret_int HAG.out.symm, HB3.out⟩
end Go.Proofs.YtigbjhkkbgdkcacGreatDoor

/-
  What isBound, takesStale and mayServe of package fresh say, of directives that can be read.
-/
namespace Go.Proofs.YtigbjhkkbgdkcacGreatDoor
open Go.RowKit

set_option maxHeartbeats 2000000 in
set_option maxRecDepth 100000 in
theorem fbound_at (v : Value) (ds : List Dv) (w : World) (hf : Dl w v ds) :
    Calls Tryz.prog 41 #[v] w fun e w' => e = .returned (.bool (boundP ds)) ∧ Below w.heap.size w w' := by
  have HF : Hid (Dl w v ds) := hf
  obtain ⟨b1, e1⟩ : ∃ b, hasK ds dMust = b := ⟨_, rfl⟩
  obtain ⟨b2, e2⟩ : ∃ b, hasK ds dProxy = b := ⟨_, rfl⟩
  obtain ⟨b3, e3⟩ : ∃ b, hasK ds dSM = b := ⟨_, rfl⟩
  obtain ⟨b4, e4⟩ : ∃ b, hasK ds dNC = b := ⟨_, rfl⟩
  have HR : Hid (boundP ds = (b1 || b2 || b3 || b4)) := by show _ = _; unfold boundP; rw [e1, e2, e3, e4]
  have H1 : Hid ((secK ds (⟨#[109, 117, 115, 116, 45, 114, 101, 118, 97, 108, 105, 100, 97, 116, 101]⟩ : ByteArray).data.toList).2 = b1) := e1
  have H2 : Hid ((secK ds (⟨#[112, 114, 111, 120, 121, 45, 114, 101, 118, 97, 108, 105, 100, 97, 116, 101]⟩ : ByteArray).data.toList).2 = b2) := e2
  have H3 : Hid ((secK ds (⟨#[115, 45, 109, 97, 120, 97, 103, 101]⟩ : ByteArray).data.toList).2 = b3) := e3
  have H4 : Hid ((secK ds (⟨#[110, 111, 45, 99, 97, 99, 104, 101]⟩ : ByteArray).data.toList).2 = b4) := e4
  rw [HR.out]
  clear e1 e2 e3 e4 HR
  obtain ⟨ad, cap, hv, hnc, hcm, hcx⟩ := id hf
  subst hv
  unfold maxLen at hcm
  clear hcx hf
  go_enter Tryz.func41, Tryz.ntmps41
  go_wp2_with fail
  refine (khas_at _ _ ds b1 H1.out _ HF.out).mono ?_
  rintro e w1 ⟨rfl, hb1⟩
  cases b1
  rotate_left
  · go_wp2_with fail
    go_ret
    exact ⟨rfl, hb1⟩
  have HB1 : Hid (Below w.heap.size w w1) := hb1
  clear hb1
  go_wp2_with fail
  refine (khas_at _ _ ds b2 H2.out _ (HF.out.below HB1.out)).mono ?_
  rintro e w2 ⟨rfl, hb2⟩
  have HB2 : Hid (Below w.heap.size w w2) := HB1.out.trans (hb2.mono HB1.out.size)
  clear hb2
  cases b2
  rotate_left
  · go_wp2_with fail
    go_ret
    exact ⟨rfl, HB2.out⟩
  go_wp2_with fail
  refine (khas_at _ _ ds b3 H3.out _ (HF.out.below HB2.out)).mono ?_
  rintro e w3 ⟨rfl, hb3⟩
  have HB3 : Hid (Below w.heap.size w w3) := HB2.out.trans (hb3.mono HB2.out.size)
  clear hb3
  cases b3
  rotate_left
  · go_wp2_with fail
    go_ret
    exact ⟨rfl, HB3.out⟩
  go_wp2_with fail
  refine (khas_at _ _ ds b4 H4.out _ (HF.out.below HB3.out)).mono ?_
  rintro e w4 ⟨rfl, hb4⟩
  have HB4 : Hid (Below w.heap.size w w4) := HB3.out.trans (hb4.mono HB3.out.size)
  clear hb4
  go_wp2_with fail
  go_ret
  exact ⟨ret_bool (by cases b4 <;> rfl), HB4.out⟩
set_option maxRecDepth 100000 in
theorem stale1_any (n u : ByteArray) (b : Bool) (w : World) :
    Calls Tryz.prog 65 #[.agg #[.string n, .bool b, .string u]] w fun e w' => e = .returned (.bool (isNm dMS (n.data.toList, b, u.data.toList))) ∧ Below w.heap.size w w' := by
  have HQ : Hid ((n.toList == dMS) = isNm dMS (n.data.toList, b, u.data.toList)) := by show _ = _; unfold isNm; rw [ByteArray.toList_eq]
  unfold dMS at HQ
  go_enter Tryz.func65, Tryz.ntmps65
  go_wp2_with fail
  go_ret
  exact ⟨ret_bool HQ.out, (Below.refl _ w).alloc (Nat.le_refl _) _⟩
set_option maxHeartbeats 2000000 in
set_option maxRecDepth 100000 in
theorem fstale_at (v : Value) (ds : List Dv) (o : Int) (w : World) (hf : Dl w v ds) (hm : MostD maxLen ds) :
    Calls Tryz.prog 42 #[v, .int .i64 o] w fun e w' => e = .returned (.bool (leave ds o)) ∧ Below w.heap.size w w' := by
  have hmf : ∀ (fn : Fn) (first cap : Array Value) (w : World), (Instr.makeFunc fn first cap).run Tryz.prog w = .ok (.func fn first cap) w := fun _ _ _ _ => rfl
  have HF : Hid (Dl w v ds) := hf
  have HM : Hid (MostD maxLen ds) := hm
  have HPR : Hid (PredD w (.func (.func 65) #[] #[]) (isNm dMS)) :=
    ⟨65, _, rfl, enters_of Tryz.func65 (by kernel_rfl) rfl, fun W b n u hW => stale1_any n u b W⟩
  obtain ⟨ad, cap, hv, hnc, hcm, hcx⟩ := id hf
  subst hv
  have HCX : Hid (0 < ds.length → ∃ g off, ad = some ⟨g, off, none⟩ ∧ g < w.heap.size ∧
    ∀ (k : Nat) (h : k < ds.length), w.cell? ⟨g, off + k * 3, none⟩ = some (.string ⟨(ds[k]).1.toArray⟩) ∧ w.cell? ⟨g, off + k * 3 + 1, none⟩ = some (.bool (ds[k]).2.1) ∧ w.cell? ⟨g, off + k * 3 + 2, none⟩ = some (.string ⟨(ds[k]).2.2.toArray⟩)) := hcx
  unfold maxLen at hcm
  clear hcx hf hm
  go_enter Tryz.func42, Tryz.ntmps42
  go_wp2_with fail
  refine (didx_any _ _ ds (isNm dMS) _ HF.out HPR.out).mono ?_
  rintro e w2 ⟨⟨rfl, hno⟩ | ⟨k, hk, rfl, h1, h2⟩, hb2⟩
  · have HNO : Hid (leave ds o = false) := by
      show _ = _
      unfold leave
      have : ds.find? (isNm dMS) = none := by
        rw [List.find?_eq_none]
        intro x hx
        rw [List.any_eq_false] at hno
        exact hno x hx
      rw [this]
    clear hno
    go_wp2_with fail
    go_ret
    exact ⟨ret_bool HNO.out.symm, hb2⟩
  · obtain ⟨m, em⟩ : ∃ m, numK (ds[k]).2.2 = m := ⟨_, rfl⟩
    obtain ⟨a, ea⟩ : ∃ a, (ds[k]).2.1 = a := ⟨_, rfl⟩
    have HS : Hid (secK ds (⟨#[109, 97, 120, 45, 115, 116, 97, 108, 101]⟩ : ByteArray).data.toList = (m, true)) := by rw [← em]; exact secK_at ds dMS k hk h1 h2
    have HL : Hid (leave ds o = (!a || decide (o ≤ m))) := by
      show _ = _
      unfold leave
      rw [find_first ds (isNm dMS) k hk h1 h2, ← em, ← ea]
    have HB2 : Hid (Below w.heap.size w w2) := hb2
    have hsz2 := hb2.size
    obtain ⟨g, off, rfl, hgs, hce⟩ := HCX.out (by omega)
    have d2 : w2.cell? ⟨g, off + k * 3 + 1, none⟩ = some (.bool a) := by rw [← ea]; exact (hb2.cell (p := ⟨g, off + k * 3 + 1, none⟩) hgs).trans (hce k hk).2.1
    have hk0 : (0 : Int) ≤ (k : Int) := by omega
    have hki : (k : Int) < (ds.length : Int) := by omega
    clear hce h1 h2 em ea hb2 HCX HPR
    go_wp2_with fail
    refine (ksec_at _ _ ds m true HS.out _ (HF.out.below HB2.out) HM.out).mono ?_
    rintro e w3 ⟨rfl, hb3⟩
    have HB3 : Hid (Below w.heap.size w w3) := HB2.out.trans (hb3.mono HB2.out.size)
    have d3 := (hb3.cell (p := ⟨g, off + k * 3 + 1, none⟩) (by show g < _; omega)).trans d2
    have hsz3 := hb3.size
    have hg3 : g < w3.heap.size := by omega
    clear hb3 d2
    cases a
    · go_wp2_with fail
      go_ret
      exact ⟨ret_bool (by rw [HL.out]; rfl), HB3.out⟩
    · by_cases hom : o ≤ m
      all_goals
        have HOM : Hid (decide (o ≤ m) = _) := show decide (o ≤ m) = _ by first | exact decide_eq_true hom | exact decide_eq_false hom
        go_wp2_with fail
        go_ret
        exact ⟨ret_bool (by rw [HL.out, HOM.out]; rfl), HB3.out⟩
set_option maxHeartbeats 4000000 in
set_option maxRecDepth 100000 in
theorem fmay_at (av sv : Value) (rs ss : List Dv) (life age : Int) (w : World) (ha : Dl w av rs) (hs : Dl w sv ss) (hma : MostD maxLen rs) (hl0 : 0 ≤ life) (hl1 : life ≤ 2147483648) (ha0 : 0 ≤ age) (ha1 : age ≤ 2147483648) :
    Calls Tryz.prog 18 #[av, sv, .int .i64 life, .int .i64 age] w fun e w' => e = .returned (.bool (goodP rs ss life age)) ∧ Below w.heap.size w w' := by
  have HA : Hid (Dl w av rs) := ha
  have HS : Hid (Dl w sv ss) := hs
  have HM : Hid (MostD maxLen rs) := hma
  obtain ⟨b1, e1⟩ : ∃ b, hasK rs dNC = b := ⟨_, rfl⟩
  obtain ⟨b2, e2⟩ : ∃ b, hasK ss dNC = b := ⟨_, rfl⟩
  obtain ⟨n3, b3, e3⟩ : ∃ n b, secK rs dMA = (n, b) := ⟨_, _, rfl⟩
  obtain ⟨n4, b4, e4⟩ : ∃ n b, secK rs dMF = (n, b) := ⟨_, _, rfl⟩
  obtain ⟨b5, e5⟩ : ∃ b, boundP ss = b := ⟨_, rfl⟩
  obtain ⟨b6, e6⟩ : ∃ b, leave rs (age - life) = b := ⟨_, rfl⟩
  have HR : Hid (goodP rs ss life age = ((decide (age < life) || (!b5 && b6)) && !b1 && !b2 && !(b3 && decide (n3 < age)) && !(b4 && decide (life - age < n4)))) := by
    show _ = _
    unfold goodP
    have h3 : hasK rs dMA = b3 := by unfold hasK; rw [e3]
    have h4 : hasK rs dMF = b4 := by unfold hasK; rw [e4]
    rw [e1, e2, h3, h4, e3, e4, e5, e6]
  have h3i := secK_in rs dMA
  have h4i := secK_in rs dMF
  rw [e3] at h3i
  rw [e4] at h4i
  have H1 : Hid ((secK rs (⟨#[110, 111, 45, 99, 97, 99, 104, 101]⟩ : ByteArray).data.toList).2 = b1) := e1
  have H2 : Hid ((secK ss (⟨#[110, 111, 45, 99, 97, 99, 104, 101]⟩ : ByteArray).data.toList).2 = b2) := e2
  have H3 : Hid (secK rs (⟨#[109, 97, 120, 45, 97, 103, 101]⟩ : ByteArray).data.toList = (n3, b3)) := e3
  have H4 : Hid (secK rs (⟨#[109, 105, 110, 45, 102, 114, 101, 115, 104]⟩ : ByteArray).data.toList = (n4, b4)) := e4
  have HBO : Hid (∀ W : World, Dl W sv ss → Calls Tryz.prog 41 #[sv] W fun e w' => e = .returned (.bool b5) ∧ Below W.heap.size W w') := fun W hW => by rw [← e5]; exact fbound_at sv ss W hW
  have HST : Hid (∀ W : World, Dl W av rs → Calls Tryz.prog 42 #[av, .int .i64 (age - life)] W fun e w' => e = .returned (.bool b6) ∧ Below W.heap.size W w') := fun W hW => by rw [← e6]; exact fstale_at av rs _ W hW hma
  rw [HR.out]
  obtain ⟨ad, cap, hv, hnc, hcm, hcx⟩ := id ha
  obtain ⟨ad', cap', hv', hnc', hcm', hcx'⟩ := id hs
  subst hv hv'
  unfold maxLen at hcm hcm'
  clear hcx hcx' ha hs hma e1 e2 e3 e4 e5 e6 HR
  go_enter Tryz.func18, Tryz.ntmps18
  go_wp2_with fail
  refine (khas_at _ _ rs b1 H1.out _ HA.out).mono ?_
  rintro e w1 ⟨rfl, hb1⟩
  have HB1 : Hid (Below w.heap.size w w1) := hb1
  clear hb1
  cases b1
  rotate_left
  · go_wp2_with fail
    go_ret
    exact ⟨ret_bool (by simp), HB1.out⟩
  go_wp2_with fail
  refine (khas_at _ _ ss b2 H2.out _ (HS.out.below HB1.out)).mono ?_
  rintro e w2 ⟨rfl, hb2⟩
  have HB2 : Hid (Below w.heap.size w w2) := HB1.out.trans (hb2.mono HB1.out.size)
  clear hb2
  cases b2
  rotate_left
  · go_wp2_with fail
    go_ret
    exact ⟨ret_bool (by simp), HB2.out⟩
  go_wp2_with fail
  refine (ksec_at _ _ rs n3 b3 H3.out _ (HA.out.below HB2.out) HM.out).mono ?_
  rintro e w3 ⟨rfl, hb3⟩
  have HB3 : Hid (Below w.heap.size w w3) := HB2.out.trans (hb3.mono HB2.out.size)
  clear hb3
  by_cases h3 : b3 = true ∧ n3 < age
  · obtain ⟨rfl, h3⟩ := h3
    have HZ : Hid (decide (n3 < age) = true) := decide_eq_true h3
    go_wp2_with fail
    go_ret
    exact ⟨ret_bool (by rw [HZ.out]; simp), HB3.out⟩
  have HZ3 : Hid ((b3 && decide (n3 < age)) = false) := by
    show _ = _
    cases b3
    · rfl
    · simp at h3 ⊢; exact h3
  have h3' : b3 = false ∨ (b3 = true ∧ ¬ n3 < age) := by
    cases b3
    · exact .inl rfl
    · exact .inr ⟨rfl, fun h => h3 ⟨rfl, h⟩⟩
  clear h3
  rcases h3' with rfl | ⟨rfl, h3⟩
  all_goals
    go_wp2_with fail
    refine (ksec_at _ _ rs n4 b4 H4.out _ (HA.out.below HB3.out) HM.out).mono ?_
    rintro e w4 ⟨rfl, hb4⟩
    have HB4 : Hid (Below w.heap.size w w4) := HB3.out.trans (hb4.mono HB3.out.size)
    clear hb4
    by_cases h4 : b4 = true ∧ life - age < n4
    · obtain ⟨rfl, h4⟩ := h4
      have HZ : Hid (decide (life - age < n4) = true) := decide_eq_true h4
      go_wp2_with fail
      go_ret
      exact ⟨ret_bool (by rw [HZ.out]; simp), HB4.out⟩
    · have HZ4 : Hid ((b4 && decide (life - age < n4)) = false) := by
        show _ = _
        cases b4
        · rfl
        · simp at h4 ⊢; exact h4
      have h4' : b4 = false ∨ (b4 = true ∧ ¬ life - age < n4) := by
        cases b4
        · exact .inl rfl
        · exact .inr ⟨rfl, fun h => h4 ⟨rfl, h⟩⟩
      clear h4
      rcases h4' with rfl | ⟨rfl, h4⟩
      all_goals
        by_cases hla : age < life
        · have HLA : Hid (decide (age < life) = true) := decide_eq_true hla
          go_wp2_with fail
          go_ret
          exact ⟨ret_bool (by rw [HZ3.out, HZ4.out, HLA.out]; rfl), HB4.out⟩
        · have HLA : Hid (decide (age < life) = false) := decide_eq_false hla
          go_wp2_with fail
          refine (HBO.out _ (HS.out.below HB4.out)).mono ?_
          rintro e w5 ⟨rfl, hb5⟩
          have HB5 : Hid (Below w.heap.size w w5) := HB4.out.trans (hb5.mono HB4.out.size)
          clear hb5
          cases b5
          · go_wp2_with fail
            refine (HST.out _ (HA.out.below HB5.out)).mono ?_
            rintro e w6 ⟨rfl, hb6⟩
            have HB6 : Hid (Below w.heap.size w w6) := HB5.out.trans (hb6.mono HB5.out.size)
            clear hb6
            go_wp2_with fail
            go_ret
            exact ⟨ret_bool (by rw [HZ3.out, HZ4.out, HLA.out]; cases b6 <;> rfl), HB6.out⟩
          · go_wp2_with fail
            go_ret
            exact ⟨ret_bool (by rw [HZ3.out, HZ4.out, HLA.out]; rfl), HB5.out⟩
end Go.Proofs.YtigbjhkkbgdkcacGreatDoor

/-
  A region that draws its order, whose own operations only read and whose callees leave what lies below as it is: one walk, in a class of worlds; no program is named here.
-/
namespace Go.Proofs.YtigbjhkkbgdkcacGreatDoor
open Go.RowKit

theorem region_in {P : Program} {T : Type} (G : T → World) {id : Nat} {Q : Exit → Act → World → Prop} {a : Act} {w : World} {l : List Oper} (hm : P.follows .mixedOrders = true) (hB : Region.lexB .any l.toArray = true)
    (h0 : ∃ x, w.drew = G x) (h : wpQuiet P l.toArray (fun W => ∃ x, W = G x) (fun a' => ∀ W, (∃ x, W = G x) → Q .normal a' W) l a) : (Code.region id l.toArray true).wp P Q a w :=
  wp_region_quiet (C := fun W => ∃ x, W = G x) hm hB h0 (by simpa using h)
/-- The worlds that have all that this one has. -/
theorem below_class (w : World) : ∃ (T : Type) (G : T → World) (x0 : T), w = G x0 ∧ Hid (∀ x, Below (G x0).heap.size (G x0) (G x)) ∧ Hid (∀ x W, Below (G x).heap.size (G x) W → ∃ y, W = G y) ∧ Hid (∀ x, ∃ y, (G x).drew = G y) := by
  refine ⟨{W : World // Below w.heap.size w W}, Subtype.val, ⟨w, Below.refl _ _⟩, rfl, fun x => x.2, fun x W h => ⟨⟨W, x.2.trans (h.mono x.2.size)⟩, rfl⟩, fun x => ⟨⟨x.1.drew, x.2.drew⟩, rfl⟩⟩
end Go.Proofs.YtigbjhkkbgdkcacGreatDoor

/-
  What Use of package fresh says of lists of fields that hold at most 2^22 letters and values.
-/
namespace Go.Proofs.YtigbjhkkbgdkcacGreatDoor
open Go.RowKit

set_option maxHeartbeats 8000000 in
set_option maxRecDepth 100000 in
theorem fuse_at (D : DFn) (hD : DOk D) (av : Value) (ks : List Fld) (v0 v1 v2 v3 v5 v7 v10 fv : Value) (ls : List Fld) (code asked came now : Int) (w : World) (ha : Fl w av ks) (hak : bulkF ks ≤ 4194304) (hf : Fl w fv ls) (hbk : bulkF ls ≤ 4194304) (hT : DTabs w) :
    Calls Tryz.prog 6 #[av, .agg #[v0, v1, v2, v3, .int .i64 code, v5, fv, v7, .int .i64 asked, .int .i64 came, v10], .int .i64 now] w fun e w' => e = .returned (.int .i64 (useP (ctl ks) (ctl ls) (lifeP D ls code came) (ageP D ls asked came now))) ∧ Below w.heap.size w w' := by
  have hb0 : Below w.heap.size w (w.alloc (.cells #[v0, v1, v2, v3, .int .i64 code, v5, fv, v7, .int .i64 asked, .int .i64 came, v10] 28)) := (Below.refl _ w).alloc (Nat.le_refl _) _
  have HALL : Hid (∀ W : World, Below (w.alloc (.cells #[v0, v1, v2, v3, .int .i64 code, v5, fv, v7, .int .i64 asked, .int .i64 came, v10] 28)).heap.size (w.alloc (.cells #[v0, v1, v2, v3, .int .i64 code, v5, fv, v7, .int .i64 asked, .int .i64 came, v10] 28)) W →
      Cells11 W w.heap.size v0 v1 v2 v3 (.int .i64 code) v5 fv v7 (.int .i64 asked) (.int .i64 came) v10 ∧ Below w.heap.size w W ∧ Fl W fv ls ∧ Fl W av ks ∧ DTabs W) := fun W h => by
    have hB := hb0.trans (h.mono hb0.size)
    exact ⟨eleven h, hB, hf.below hB, ha.below hB, hT.below hB⟩
  have HAK : Hid (bulkF ks ≤ 4194304) := hak
  have HBK : Hid (bulkF ls ≤ 4194304) := hbk
  have HMA : Hid (MostD maxLen (ctl ks)) := fctl_most ks
  have HMS : Hid (MostD maxLen (ctl ls)) := fctl_most ls
  obtain ⟨life, elf⟩ : ∃ n, lifeP D ls code came = n := ⟨_, rfl⟩
  obtain ⟨age, eag⟩ : ∃ n, ageP D ls asked came now = n := ⟨_, rfl⟩
  have hli := life_in D ls code came
  have hai := age_in D ls asked came now
  rw [elf] at hli
  rw [eag] at hai
  obtain ⟨hl0, hl1⟩ := hli
  obtain ⟨ha0, ha1⟩ := hai
  have HLF : Hid (∀ W : World, Fl W fv ls → DTabs W → Calls Tryz.prog 14 #[.agg #[v0, v1, v2, v3, .int .i64 code, v5, fv, v7, .int .i64 asked, .int .i64 came, v10]] W fun e w' => e = .returned (.int .i64 life) ∧ Below W.heap.size W w') := fun W hW hM => by
    rw [← elf]
    exact flife_at D hD v0 v1 v2 v3 v5 v7 _ v10 fv ls code came W hW hbk hM
  have HAG : Hid (∀ W : World, Fl W fv ls → DTabs W → Calls Tryz.prog 19 #[.agg #[v0, v1, v2, v3, .int .i64 code, v5, fv, v7, .int .i64 asked, .int .i64 came, v10], .int .i64 now] W fun e w' => e = .returned (.int .i64 age) ∧ Below W.heap.size W w') := fun W hW hM => by
    rw [← eag]
    exact fage_at D hD v0 v1 v2 v3 _ v5 v7 v10 fv ls asked came now W hW hbk hM
  have HCA : Hid (∀ W : World, Below (w.alloc (.cells #[v0, v1, v2, v3, .int .i64 code, v5, fv, v7, .int .i64 asked, .int .i64 came, v10] 28)).heap.size (w.alloc (.cells #[v0, v1, v2, v3, .int .i64 code, v5, fv, v7, .int .i64 asked, .int .i64 came, v10] 28)) W → Calls Tryz.prog 17 #[av] W fun e w' => ∃ v', e = .returned v' ∧ Dl w' v' (ctl ks) ∧ Below (w.alloc (.cells #[v0, v1, v2, v3, .int .i64 code, v5, fv, v7, .int .i64 asked, .int .i64 came, v10] 28)).heap.size (w.alloc (.cells #[v0, v1, v2, v3, .int .i64 code, v5, fv, v7, .int .i64 asked, .int .i64 came, v10] 28)) w' ∧ w'.cell? ⟨w.heap.size, 6, none⟩ = some fv ∧ Below W.heap.size W w') := fun W h => (fdirs_at av ks W (HALL.out _ h).2.2.2.1 hak).mono fun e w' ⟨v', he, ho, hb⟩ => ⟨v', he, Dl.own ho, h.trans (hb.mono h.size), (eleven (h.trans (hb.mono h.size))).2.2.2.2.2.2.1, hb⟩
  have HCS : Hid (∀ W : World, Below (w.alloc (.cells #[v0, v1, v2, v3, .int .i64 code, v5, fv, v7, .int .i64 asked, .int .i64 came, v10] 28)).heap.size (w.alloc (.cells #[v0, v1, v2, v3, .int .i64 code, v5, fv, v7, .int .i64 asked, .int .i64 came, v10] 28)) W → Calls Tryz.prog 17 #[fv] W fun e w' => ∃ v', e = .returned v' ∧ Dl w' v' (ctl ls) ∧ Below (w.alloc (.cells #[v0, v1, v2, v3, .int .i64 code, v5, fv, v7, .int .i64 asked, .int .i64 came, v10] 28)).heap.size (w.alloc (.cells #[v0, v1, v2, v3, .int .i64 code, v5, fv, v7, .int .i64 asked, .int .i64 came, v10] 28)) w' ∧ w'.cell? ⟨w.heap.size, 6, none⟩ = some fv ∧ Below W.heap.size W w') := fun W h => (fdirs_at fv ls W (HALL.out _ h).2.2.1 hbk).mono fun e w' ⟨v', he, ho, hb⟩ => ⟨v', he, Dl.own ho, h.trans (hb.mono h.size), (eleven (h.trans (hb.mono h.size))).2.2.2.2.2.2.1, hb⟩
  have HX0 : Below (w.alloc (.cells #[v0, v1, v2, v3, .int .i64 code, v5, fv, v7, .int .i64 asked, .int .i64 came, v10] 28)).heap.size (w.alloc (.cells #[v0, v1, v2, v3, .int .i64 code, v5, fv, v7, .int .i64 asked, .int .i64 came, v10] 28)) (w.alloc (.cells #[v0, v1, v2, v3, .int .i64 code, v5, fv, v7, .int .i64 asked, .int .i64 came, v10] 28)).drew := (Below.refl _ _).drew
  obtain ⟨good, egd⟩ : ∃ b, goodP (ctl ks) (ctl ls) life age = b := ⟨_, rfl⟩
  obtain ⟨oic, eoi⟩ : ∃ b, hasK (ctl ks) dOIC = b := ⟨_, rfl⟩
  have HOI : Hid ((secK (ctl ks) (⟨#[111, 110, 108, 121, 45, 105, 102, 45, 99, 97, 99, 104, 101, 100]⟩ : ByteArray).data.toList).2 = oic) := eoi
  have HMY : Hid (∀ (av sv : Value) (W : World), Dl W av (ctl ks) → Dl W sv (ctl ls) → Calls Tryz.prog 18 #[av, sv, .int .i64 life, .int .i64 age] W fun e w' => e = .returned (.bool good) ∧ Below W.heap.size W w') := fun av sv W h1 h2 => by
    rw [← egd]
    exact fmay_at av sv _ _ life age W h1 h2 (fctl_most ks) hl0 hl1 ha0 ha1
  have HUS : Hid (useP (ctl ks) (ctl ls) life age = if good = true then 1 else if oic = true then 3 else 2) := by show _ = _; unfold useP; rw [egd, eoi]
  rw [elf, eag, HUS.out]
  obtain ⟨ad, cap, hv, hnc, hcm, hcx⟩ := id hf
  obtain ⟨ad', cap', hv', hnc', hcm', hcx'⟩ := id ha
  subst hv hv'
  unfold maxLen at hcm hcm'
  clear hcx hcx' ha hak hf hbk hb0 hT elf eag egd eoi HUS
  go_enter Tryz.func6, Tryz.ntmps6
  go_wp2_with fail
  go_region_held3 (fun w' => w'.cell? ⟨w.heap.size, 6, none⟩ = some (.slice ad ls.length cap)) (go_keep) (first
    | (go_at_call 17; first
      | (with_reducible refine (HCA.out _ (by first | exact hxs | exact HX0)).mono ?_; rintro e w3 ⟨va, rfl, hDa, hxa, hk6, hba⟩; try (have hDs2 := hDs.below hba))
      | (with_reducible refine (HCS.out _ (by first | exact hxa | exact HX0)).mono ?_; rintro e w3 ⟨vs, rfl, hDs, hxs, hk6, hbs⟩; try (have hDa2 := hDa.below hbs))))
  have HX3 : Hid (Below (w.alloc (.cells #[v0, v1, v2, v3, .int .i64 code, v5, .slice ad ls.length cap, v7, .int .i64 asked, .int .i64 came, v10] 28)).heap.size (w.alloc (.cells #[v0, v1, v2, v3, .int .i64 code, v5, .slice ad ls.length cap, v7, .int .i64 asked, .int .i64 came, v10] 28)) w3) := by first | exact hxs | exact hxa
  have HDA3 : Hid (Dl w3 va (ctl ks)) := by first | exact hDa2 | exact hDa
  have HDS3 : Hid (Dl w3 vs (ctl ls)) := by first | exact hDs2 | exact hDs
  clear hxa hxs hDa hDs hba hbs HX0 HCA HCS
  try clear hDa2
  try clear hDs2
  have hsz3 := HX3.out.size
  go_wp2_with fail
  obtain ⟨T, G, x0, rfl, HG1, HG2, HG3⟩ := below_class w3
  haveI : Nonempty T := ⟨x0⟩
  have HBG : Hid (∀ x, Below (w.alloc (.cells #[v0, v1, v2, v3, .int .i64 code, v5, .slice ad ls.length cap, v7, .int .i64 asked, .int .i64 came, v10] 28)).heap.size (w.alloc (.cells #[v0, v1, v2, v3, .int .i64 code, v5, .slice ad ls.length cap, v7, .int .i64 asked, .int .i64 came, v10] 28)) (G x)) := fun x => HX3.out.trans ((HG1.out x).mono hsz3)
  have hall := fun x => (HALL.out _ (HBG.out x)).1
  have hc0 : ∀ x, (G x).cell? ⟨w.heap.size, 0, none⟩ = some v0 := fun x => (hall x).1
  have hc1 : ∀ x, (G x).cell? ⟨w.heap.size, 1, none⟩ = some v1 := fun x => (hall x).2.1
  have hc2 : ∀ x, (G x).cell? ⟨w.heap.size, 2, none⟩ = some v2 := fun x => (hall x).2.2.1
  have hc3 : ∀ x, (G x).cell? ⟨w.heap.size, 3, none⟩ = some v3 := fun x => (hall x).2.2.2.1
  have hc4 : ∀ x, (G x).cell? ⟨w.heap.size, 4, none⟩ = some (.int .i64 code) := fun x => (hall x).2.2.2.2.1
  have hc5 : ∀ x, (G x).cell? ⟨w.heap.size, 5, none⟩ = some v5 := fun x => (hall x).2.2.2.2.2.1
  have hc6 : ∀ x, (G x).cell? ⟨w.heap.size, 6, none⟩ = some (.slice ad ls.length cap) := fun x => (hall x).2.2.2.2.2.2.1
  have hc7 : ∀ x, (G x).cell? ⟨w.heap.size, 7, none⟩ = some v7 := fun x => (hall x).2.2.2.2.2.2.2.1
  have hc8 : ∀ x, (G x).cell? ⟨w.heap.size, 8, none⟩ = some (.int .i64 asked) := fun x => (hall x).2.2.2.2.2.2.2.2.1
  have hc9 : ∀ x, (G x).cell? ⟨w.heap.size, 9, none⟩ = some (.int .i64 came) := fun x => (hall x).2.2.2.2.2.2.2.2.2.1
  have hc10 : ∀ x, (G x).cell? ⟨w.heap.size, 10, none⟩ = some v10 := fun x => (hall x).2.2.2.2.2.2.2.2.2.2
  have HLX : Hid (∀ x, Calls Tryz.prog 14 #[.agg #[v0, v1, v2, v3, .int .i64 code, v5, .slice ad ls.length cap, v7, .int .i64 asked, .int .i64 came, v10]] (G x) fun e w' => e = .returned (.int .i64 life) ∧ ∃ y, w' = G y) := fun x => (HLF.out _ (HALL.out _ (HBG.out x)).2.2.1 (HALL.out _ (HBG.out x)).2.2.2.2).mono fun e W h => ⟨h.1, HG2.out _ W h.2⟩
  have HAX : Hid (∀ x, Calls Tryz.prog 19 #[.agg #[v0, v1, v2, v3, .int .i64 code, v5, .slice ad ls.length cap, v7, .int .i64 asked, .int .i64 came, v10], .int .i64 now] (G x) fun e w' => e = .returned (.int .i64 age) ∧ ∃ y, w' = G y) := fun x => (HAG.out _ (HALL.out _ (HBG.out x)).2.2.1 (HALL.out _ (HBG.out x)).2.2.2.2).mono fun e W h => ⟨h.1, HG2.out _ W h.2⟩
  have HMX : Hid (∀ x, Calls Tryz.prog 18 #[va, vs, .int .i64 life, .int .i64 age] (G x) fun e w' => e = .returned (.bool good) ∧ ∃ y, w' = G y) := fun x => (HMY.out _ _ _ (HDA3.out.below (HG1.out x)) (HDS3.out.below (HG1.out x))).mono fun e W h => ⟨h.1, HG2.out _ W h.2⟩
  clear hall
  refine region_in G (by kernel_rfl) (by kernel_rfl) (HG3.out _) ?_
  repeat (go_big_quiet_step (first
    | (go_at_call 14; with_reducible exact HLX.out _)
    | (go_at_call 19; with_reducible exact HAX.out _)
    | (go_at_call 18; with_reducible exact HMX.out _)))
  refine wpQuiet_nil ?_
  rintro _ ⟨x1, rfl⟩
  have HX4 : Hid (Below (w.alloc (.cells #[v0, v1, v2, v3, .int .i64 code, v5, .slice ad ls.length cap, v7, .int .i64 asked, .int .i64 came, v10] 28)).heap.size (w.alloc (.cells #[v0, v1, v2, v3, .int .i64 code, v5, .slice ad ls.length cap, v7, .int .i64 asked, .int .i64 came, v10] 28)) (G x1)) := HBG.out x1
  have HB4 : Hid (Below w.heap.size w (G x1)) := (HALL.out _ HX4.out).2.1
  have HDA4 : Hid (Dl (G x1) va (ctl ks)) := HDA3.out.below (HG1.out x1)
  have HDS4 : Hid (Dl (G x1) vs (ctl ls)) := HDS3.out.below (HG1.out x1)
  obtain ⟨w4, hw4⟩ : ∃ w4, w4 = G x1 := ⟨_, rfl⟩
  rw [← hw4] at HX4 HB4 HDA4 HDS4 ⊢
  clear hc0 hc1 hc2 hc3 hc4 hc5 hc6 hc7 hc8 hc9 hc10 HLX HAX HMX HBG HG1 HG2 HG3 HX3 HDA3 HDS3 hsz3 hw4
  cases good
  · go_wp2_with fail
    refine (khas_at _ _ _ oic HOI.out _ HDA4.out).mono ?_
    rintro e w5 ⟨rfl, hb5⟩
    have HB5 : Hid (Below w.heap.size w w5) := HB4.out.trans (hb5.mono HB4.out.size)
    clear hb5
    cases oic
    · go_wp2_with fail
      go_ret
      exact ⟨rfl, HB5.out⟩
    · go_wp2_with fail
      go_ret
      exact ⟨rfl, HB5.out⟩
  · go_wp2_with fail
    go_ret
    exact ⟨rfl, HB4.out⟩
end Go.Proofs.YtigbjhkkbgdkcacGreatDoor

/-
  Decimal digits of numbers, without noughts ahead; no program is named here.
-/
namespace Go.Proofs.YtigbjhkkbgdkcacGreatDoor
open Go.RowKit

theorem dd_dig (u : Nat) (h : u < 10) : isDig (UInt8.ofNat (48 + u)) = true ∧ (UInt8.ofNat (48 + u)).toNat = 48 + u := by
  have e : (UInt8.ofNat (48 + u)).toNat = 48 + u := by
    rw [UInt8.toNat_ofNat']; omega
  exact ⟨by rw [dig_iff, e]; omega, e⟩
theorem dec_step (u : Nat) (h : ¬ u < 10) : Lib.decDigits u = Lib.decDigits (u / 10) ++ [UInt8.ofNat (48 + u % 10)] := by rw [Lib.decDigits, dif_neg h]
theorem dec_ne (u : Nat) : Lib.decDigits u ≠ [] := by
  rw [Lib.decDigits]; split <;> simp
theorem dec_all (u : Nat) : (Lib.decDigits u).all isDig = true := by
  induction u using Nat.strongRecOn with
  | ind u ih =>
    by_cases h : u < 10
    · rw [Lib.decDigits_one h, List.all_cons, (dd_dig u h).1]; rfl
    · rw [dec_step u h, List.all_append, ih (u / 10) (by omega), List.all_cons, (dd_dig (u % 10) (by omega)).1]; rfl
theorem numb_dec (u : Nat) : numb (Lib.decDigits u) = u := by
  induction u using Nat.strongRecOn with
  | ind u ih =>
    by_cases h : u < 10
    · rw [Lib.decDigits_one h]
      show 0 * 10 + ((UInt8.ofNat (48 + u)).toNat : Int) - 48 = u
      rw [(dd_dig u h).2]; omega
    · rw [dec_step u h, numb_snoc, ih (u / 10) (by omega), (dd_dig (u % 10) (by omega)).2]; omega
theorem dec_head (u : Nat) (h1 : 1 ≤ u) : (Lib.decDigits u).head? ≠ some 48 := by
  induction u using Nat.strongRecOn with
  | ind u ih =>
    by_cases h : u < 10
    · rw [Lib.decDigits_one h]
      intro e
      have e1 : UInt8.ofNat (48 + u) = 48 := by simpa using e
      have := (dd_dig u h).2
      rw [e1] at this
      have h48 : (48 : UInt8).toNat = 48 := rfl
      omega
    · rw [dec_step u h, List.head?_append]
      have := ih (u / 10) (by omega) (by omega)
      cases hc : Lib.decDigits (u / 10) with
      | nil => exact absurd hc (dec_ne _)
      | cons a b => rw [hc] at this; simpa using this
theorem cnt_dec (u : Nat) (h : u ≤ 9999) : cnt (Lib.decDigits u) 9999 = u := by
  have hl : (Lib.decDigits u).length ≤ 4 := by
    rw [Lib.decDigits_length]
    rw [Lib.nDigits]; split
    · omega
    · rw [Lib.nDigits]; split
      · omega
      · rw [Lib.nDigits]; split
        · omega
        · rw [Lib.nDigits]; split <;> omega
  unfold cnt
  rw [if_neg, if_neg (by rw [numb_dec]; omega), numb_dec]
  rintro (h1 | h1 | ⟨h1, h2⟩ | h1)
  · exact dec_ne u (List.eq_nil_of_length_eq_zero h1)
  · omega
  · by_cases h0 : 1 ≤ u
    · exact dec_head u h0 h2
    · obtain rfl : u = 0 := by omega
      rw [Lib.decDigits_one (by omega)] at h1; simp at h1
  · rw [dec_all] at h1; cases h1
theorem canon (p : List UInt8) : ∀ (_ : p ≠ []) (_ : p.all isDig = true) (_ : ¬ (1 < p.length ∧ p.head? = some 48)), p = Lib.decDigits (numb p).toNat ∧ 0 ≤ numb p := by
  induction hn : p.length using Nat.strongRecOn generalizing p with
  | ind n ih =>
    intro hne hall hh
    rcases List.eq_nil_or_concat p with h | ⟨q, c, h⟩
    · exact absurd h hne
    · rw [List.concat_eq_append] at h
      subst h
      rw [List.all_append] at hall
      simp only [Bool.and_eq_true, List.all_cons, List.all_nil, Bool.and_true] at hall
      obtain ⟨hq, hc⟩ := hall
      have hcb := (dig_iff c).1 hc
      have hcc : ∀ d : Nat, d = c.toNat - 48 → UInt8.ofNat (48 + d) = c := by
        intro d hd
        apply UInt8.toNat_inj.1
        rw [UInt8.toNat_ofNat', hd]
        have : c.toNat < 256 := c.toNat_lt
        omega
      by_cases hqe : q = []
      · subst hqe
        have e : numb ([] ++ [c]) = (c.toNat : Int) - 48 := by unfold numb; simp
        rw [e]
        refine ⟨?_, by omega⟩
        rw [Lib.decDigits_one (by omega), List.nil_append, hcc _ (by omega)]
      · have hl : 0 < q.length := List.length_pos_iff.2 hqe
        have hqh : q.head? ≠ some 48 := by
          intro e
          apply hh
          refine ⟨by rw [← hn, List.length_append, List.length_singleton]; omega, ?_⟩
          rw [List.head?_append, e]; rfl
        obtain ⟨h1, h2⟩ := ih q.length (by rw [← hn]; simp) q rfl hqe hq (fun h => hqh h.2)
        have h3 : 1 ≤ (numb q).toNat := by
          rcases Nat.lt_or_ge (numb q).toNat 1 with h | h
          · exfalso
            have h0 : (numb q).toNat = 0 := by omega
            rw [h0, Lib.decDigits_one (by omega)] at h1
            exact hqh (by rw [h1]; rfl)
          · exact h
        rw [numb_snoc]
        refine ⟨?_, by omega⟩
        have e1 : (numb q * 10 + (c.toNat : Int) - 48).toNat = (numb q).toNat * 10 + (c.toNat - 48) := by omega
        rw [e1, dec_step _ (by omega), show ((numb q).toNat * 10 + (c.toNat - 48)) / 10 = (numb q).toNat by omega, show ((numb q).toNat * 10 + (c.toNat - 48)) % 10 = c.toNat - 48 by omega, ← h1, hcc _ rfl]
theorem from_fold (p : List UInt8) : ∀ (_ : p.all isDig = true) (acc : Nat), ∃ m : Nat, Lib.decFrom acc p = some m ∧ (m : Int) = p.foldl (fun n c => n * 10 + (c.toNat : Int) - 48) (acc : Int) := by
  induction p with
  | nil => intro _ acc; exact ⟨acc, rfl, rfl⟩
  | cons c r ih =>
    intro h acc
    simp only [List.all_cons, Bool.and_eq_true] at h
    have hb := (dig_iff c).1 h.1
    obtain ⟨m, h1, h2⟩ := ih h.2 (acc * 10 + (c.toNat - 48))
    refine ⟨m, ?_, ?_⟩
    · rw [Lib.decFrom, show Lib.digitVal c = some (c.toNat - 48) from if_pos hb]; exact h1
    · rw [h2, List.foldl_cons]; congr 1; omega
theorem atoi_dig (p : List UInt8) (hne : p ≠ []) (h : p.all isDig = true) (hl : p.length ≤ 18) : Lib.atoiAll p = .ok (numb p) := by
  rw [Lib.atoiAll_short p hl]
  obtain ⟨m, h1, h2⟩ := from_fold p h 0
  have hd : Lib.decNat p = some m := by
    unfold Lib.decNat
    rw [if_neg (by simpa using hne)]; exact h1
  have e : Lib.atoi p = some (numb p) := by
    cases p with
    | nil => exact absurd rfl hne
    | cons c r =>
      have hb := (dig_iff c).1 (by simp only [List.all_cons, Bool.and_eq_true] at h; exact h.1)
      have n45 : (c == 45) = false := by
        rw [beq_eq_false_iff_ne]; intro e; subst e; have : (45 : UInt8).toNat = 45 := rfl; omega
      have n43 : (c == 43) = false := by
        rw [beq_eq_false_iff_ne]; intro e; subst e; have : (43 : UInt8).toNat = 43 := rfl; omega
      show (if (c == 45) = true then (Lib.decNat r).map fun (m : Nat) => -(m : Int) else if (c == 43) = true then (Lib.decNat r).map fun (m : Nat) => (m : Int) else (Lib.decNat (c :: r)).map fun (m : Nat) => (m : Int)) = _
      rw [n45, n43, hd]
      simp only [Bool.false_eq_true, if_false, Option.map_some, Option.some.injEq]
      unfold numb; exact h2
  rw [e]; rfl
end Go.Proofs.YtigbjhkkbgdkcacGreatDoor

/-
  A directive more in a Cache-Control, and lives that are told, over plain lists; no program is named here.
-/
namespace Go.Proofs.YtigbjhkkbgdkcacGreatDoor
open Go.RowKit

/-- A piece that stands by itself between commas: no quote in it. -/
def Bare (d : List UInt8) : Prop := closed 44 d ∧ trimL d = d ∧ d.isEmpty = false ∧ ∀ c ∈ d, c ≠ 34
theorem quote_stays (d : List UInt8) (h : ∀ c ∈ d, c ≠ 34) : ∀ x : Cut, x.q = true → (d.foldl (cstep 44) x).q = true := by
  induction d with
  | nil => intro x hx; exact hx
  | cons c d ih =>
    intro x hx
    rw [List.foldl_cons]
    apply ih (fun b hb => h b (List.mem_cons_of_mem _ hb))
    have hc := h c (List.mem_cons_self ..)
    unfold cstep
    rw [if_neg (fun e => by rw [hx] at e; cases e.2)]
    simp only [hc, if_false, hx]
    split <;> rfl
theorem cn_quote (l : List UInt8) : (cutS 44 l).cn = true → (cutS 44 l).q = true := by
  have gen : ∀ (l : List UInt8) (x : Cut), (x.cn = true → x.q = true) → ((l.foldl (cstep 44) x).cn = true → (l.foldl (cstep 44) x).q = true) := by
    intro l
    induction l with
    | nil => intro x h; exact h
    | cons c l ih =>
      intro x h
      rw [List.foldl_cons]
      apply ih
      unfold cstep
      split
      · rename_i hs
        intro hc
        have := h hc
        rw [hs.2] at this; cases this
      · simp only
        cases hc : x.cn
        · simp only [Bool.false_eq_true, if_false]
          intro h'
          by_cases h34 : c = 34
          · simp [h34] at h'
          · by_cases h92 : c = 92
            · simp only [h92, if_true] at h' ⊢
              simpa using h'
            · simp [h34, h92] at h'
        · simp
  exact gen l ⟨[], [], false, false⟩ (fun h => by cases h)
theorem split_comma (s d : List UInt8) (hd : Bare d) (P : List (List UInt8)) (h : splitS (s ++ 44 :: d) = (P, 0)) : ∃ Q, splitS s = (Q, 0) ∧ P = Q ++ [d] := by
  obtain ⟨h1, h2, h3, h4⟩ := hd
  have he : cutS 44 (s ++ 44 :: d) = d.foldl (cstep 44) (cstep 44 (cutS 44 s) 44) := by unfold cutS; rw [List.foldl_append, List.foldl_cons]
  cases hq : (cutS 44 s).q
  · have hcn : (cutS 44 s).cn = false := by
      cases hc : (cutS 44 s).cn
      · rfl
      · have := cn_quote s hc; rw [hq] at this; cases this
    have hst : cstep 44 (cutS 44 s) 44 = ⟨(cutS 44 s).ps ++ [(cutS 44 s).cur], [], false, false⟩ := by
      unfold cstep
      rw [if_pos ⟨rfl, hq⟩]
      simp [hq, hcn]
    rw [hst, run_fold 44 d _ [] false false false false h1] at he
    have hp : pieces 44 (s ++ 44 :: d) = pieces 44 s ++ [d] := by unfold pieces; rw [he]; simp
    have hes : ends 44 s = true := by unfold ends; rw [hq]; rfl
    have hk : kept (pieces 44 (s ++ 44 :: d)) = kept (pieces 44 s) ++ [d] := by
      rw [hp, kept_snoc, h2, h3]; simp
    unfold splitS at h
    split at h
    · cases h
    · rename_i hl
      split at h
      · cases h
      · split at h
        · cases h
        · rename_i h20
          simp only [Prod.mk.injEq, and_true] at h
          rw [hk] at h h20
          refine ⟨kept (pieces 44 s), ?_, h.symm⟩
          unfold splitS
          rw [if_neg (by simp at hl; omega), if_neg (by rw [hes]; simp), if_neg (by simp at h20; omega)]
  · exfalso
    have hst : (cstep 44 (cutS 44 s) 44).q = true := by
      unfold cstep
      rw [if_neg (fun e => by rw [hq] at e; cases e.2)]
      simp [hq]
    have hend : ends 44 (s ++ 44 :: d) = false := by
      unfold ends
      rw [he, quote_stays d h4 _ hst]; rfl
    unfold splitS at h
    split at h
    · cases h
    · first
      | cases h
      | (rw [if_pos hend] at h; cases h)
theorem split_one (d : List UInt8) (hd : Bare d) (hl : d.length ≤ 1000) : splitS d = ([d], 0) := by
  obtain ⟨h1, h2, h3, h4⟩ := hd
  have he : cutS 44 d = ⟨[], d, false, false⟩ := by unfold cutS; rw [run_fold 44 d _ [] false false false false h1]; rfl
  have hp : pieces 44 d = [d] := by unfold pieces; rw [he]; rfl
  have hk : kept [d] = [d] := by
    have := kept_snoc [] d
    rw [h2, h3] at this
    simpa [kept] using this
  have hen : ends 44 d = true := by unfold ends; rw [he]; rfl
  unfold splitS
  rw [if_neg (by omega), if_neg (by rw [hen]; simp), hp, hk, if_neg (by simp)]
theorem paDs_app (P : List (List UInt8)) (p : List UInt8) (x : Dv) (h : paD p = some x) (ds : List Dv) (hd : paDs (P ++ [p]) = some ds) : ∃ es, paDs P = some es ∧ ds = es ++ [x] := by
  rw [paDs_snoc] at hd
  cases hp : paDs P with
  | none => rw [hp] at hd; simp [pdstep] at hd
  | some es =>
    rw [hp] at hd
    simp only [pdstep, h, Option.some.injEq] at hd
    exact ⟨es, rfl, hd.symm⟩
/-- One directive more. -/
theorem ctQ_comma (s d : List UInt8) (hd : Bare d) (x : Dv) (hx : paD d = some x) (c : Int) (ds : List Dv) (h : ctQ (s ++ 44 :: d) = (ds, c)) (hc : c = 0) : ds = (ctQ s).1 ++ [x] := by
  subst hc
  unfold ctQ at h
  split at h
  · rename_i hs
    obtain ⟨Q, hQ, hP⟩ := split_comma s d hd (splitS (s ++ 44 :: d)).1 (by rw [← hs])
    rw [hP] at h
    split at h
    · cases h
    · rename_i r hr
      simp only [Prod.mk.injEq, and_true] at h
      obtain ⟨es, h1, h2⟩ := paDs_app Q d x hx r hr
      have : (ctQ s).1 = es := by
        unfold ctQ
        rw [hQ]
        simp only [if_true]
        rw [h1]
      rw [this, ← h, h2]
  · rename_i hs
    simp only [Prod.mk.injEq] at h
    exact absurd h.2 hs
theorem ctQ_one (d : List UInt8) (hd : Bare d) (hl : d.length ≤ 1000) (x : Dv) (hx : paD d = some x) : ctQ d = ([x], 0) := by
  have h1 := split_one d hd hl
  have h2 : paDs [d] = some [x] := by
    simp [paDs, pdstep, hx]
  unfold ctQ
  rw [h1]
  simp only [if_true]
  rw [h2]
theorem ctQ_nil : ctQ [] = ([], 0) := rfl

/-- Numbers as digits. -/
theorem dec_short (k : Nat) : ∀ u, u < 10 ^ (k + 1) → (Lib.decDigits u).length ≤ k + 1 := by
  induction k with
  | zero =>
    intro u h
    rw [Lib.decDigits_one (by omega)]; simp
  | succ k ih =>
    intro u h
    by_cases h10 : u < 10
    · rw [Lib.decDigits_one h10]; simp
    · rw [dec_step u h10, List.length_append]
      have := ih (u / 10) (by
        rw [Nat.pow_succ] at h
        omega)
      simp; omega
theorem runK_dec (u : Nat) : runK (Lib.decDigits u) = min (u : Int) 2147483648 := by
  induction u using Nat.strongRecOn with
  | ind u ih =>
    by_cases h : u < 10
    · rw [Lib.decDigits_one h]
      show min (0 * 10 + (((UInt8.ofNat (48 + u)).toNat : Int) - 48)) 2147483648 = _
      rw [(dd_dig u h).2]; omega
    · rw [dec_step u h, runK_snoc, ih (u / 10) (by omega)]
      unfold stepK
      rw [(dd_dig (u % 10) (by omega)).2]; omega
theorem numK_dec (u : Nat) (h : u ≤ 2147483648) : numK (Lib.decDigits u) = u := by
  rw [numK_yes _ (dec_all u), runK_dec]; omega
theorem dig_tok (c : UInt8) (h : isDig c = true) : isTok c = true := by
  have := byAll (fun c => !isDig c || isTok c) (by decide +kernel) c
  rw [h] at this
  simpa using this
theorem dec_token (u : Nat) : token (Lib.decDigits u) = true := by
  unfold token
  have h1 := dec_ne u
  have h2 : (Lib.decDigits u).all isTok = true := by
    rw [List.all_eq_true]
    intro c hc
    exact dig_tok c (List.all_eq_true.1 (dec_all u) c hc)
  rw [h2]
  cases h : Lib.decDigits u with
  | nil => exact absurd h h1
  | cons _ _ => rfl
/-- A directive that is printed plainly. -/
theorem bare_pr (d : Dv) (h : chkD d = 0) (hq : d.2.1 = true → token d.2.2 = true) : Bare (prD d) := by
  obtain ⟨b, r, hb, _⟩ := prD_ne d h
  refine ⟨prD_closed d h, prD_trim d h, by rw [hb]; rfl, ?_⟩
  obtain ⟨h1, _, _, _⟩ := chkD_is d h
  have hn := (token_parts _ h1).2
  rw [List.all_eq_true] at hn
  intro c hc
  unfold prD at hc
  rw [List.mem_append] at hc
  rcases hc with hc | hc
  · exact (tok_ne c (hn c hc)).1
  · split at hc
    · rename_i ha
      have ht := hq ha
      have hpa : (prArg d.2.2).1 = d.2.2 := by unfold prArg; rw [if_pos ht]
      rw [hpa] at hc
      rcases List.mem_cons.1 hc with rfl | hc
      · decide
      · have h2 := (token_parts _ ht).2
        rw [List.all_eq_true] at h2
        exact (tok_ne c (h2 c hc)).1
    · cases hc
/-- The demands. -/
def xMA (n : Nat) : Dv := (dMA, true, Lib.decDigits n)
def xMF (n : Nat) : Dv := (dMF, true, Lib.decDigits n)
def xNC : Dv := (dNC, false, [])
def xOIC : Dv := (dOIC, false, [])
theorem chk_num (m : List UInt8) (hm : okNm m = true) (n : Nat) : chkD (m, true, Lib.decDigits n) = 0 := by
  unfold chkD
  simp only [hm, if_true]
  unfold prArg
  rw [if_pos (dec_token n)]
theorem pr_num (m : List UInt8) (n : Nat) : prD (m, true, Lib.decDigits n) = m ++ 61 :: Lib.decDigits n := by
  unfold prD prArg
  simp only [if_true]
  rw [if_pos (dec_token n)]
theorem okMA : okNm dMA = true := by decide +kernel
theorem okMF : okNm dMF = true := by decide +kernel
theorem okSM : okNm dSM = true := by decide +kernel
theorem chkNC : chkD xNC = 0 := by decide +kernel
theorem chkOIC : chkD xOIC = 0 := by decide +kernel
theorem demand_bare (x : Dv) (n : Nat) (h : x = xMA n ∨ x = xMF n ∨ x = xNC ∨ x = xOIC) : Bare (prD x) ∧ paD (prD x) = some x ∧ chkD x = 0 := by
  rcases h with rfl | rfl | rfl | rfl
  · have hk := chk_num dMA okMA n
    exact ⟨bare_pr _ hk (fun _ => dec_token n), paD_back _ hk, hk⟩
  · have hk := chk_num dMF okMF n
    exact ⟨bare_pr _ hk (fun _ => dec_token n), paD_back _ hk, hk⟩
  · exact ⟨bare_pr _ chkNC (fun h => by cases h), paD_back _ chkNC, chkNC⟩
  · exact ⟨bare_pr _ chkOIC (fun h => by cases h), paD_back _ chkOIC, chkOIC⟩
theorem one_ms (x : Dv) (n : Nat) (h : x = xMA n ∨ x = xMF n ∨ x = xNC ∨ x = xOIC) : [x].find? (isNm dMS) = none := by
  rcases h with rfl | rfl | rfl | rfl <;> rfl
theorem secK_more (a : List Dv) (x : Dv) (n : List UInt8) (h : isNm n x = false) : secK (a ++ [x]) n = secK a n := by
  rw [secK_app]
  have h2 : secK [x] n = (0, false) := secK_no _ _ (by simp [h])
  cases hb : (secK a n).2
  · rw [if_neg (by simp), h2]
    unfold secK at hb ⊢
    split at hb
    · cases hb
    · rfl
  · rw [if_pos rfl]
theorem hasK_more (a : List Dv) (x : Dv) (n : List UInt8) (h : isNm n x = false) : hasK (a ++ [x]) n = hasK a n := by unfold hasK; rw [secK_more a x n h]
theorem hasK_last (a : List Dv) (x : Dv) (n : List UInt8) (h : isNm n x = true) : hasK (a ++ [x]) n = true := by
  rw [hasK_app]
  have : hasK [x] n = true := by unfold hasK; rw [secK_any]; simp [h]
  rw [this]; simp
/-- Each demand more serves no more. -/
theorem good_less (asks says : List Dv) (life age : Int) (x : Dv) (n : Nat) (h : x = xMA n ∨ x = xMF n ∨ x = xNC ∨ x = xOIC) (hg : goodP (asks ++ [x]) says life age = true) : goodP asks says life age = true := by
  unfold goodP at *
  rw [leave_app _ _ _ (one_ms x n h)] at hg
  simp only [Bool.and_eq_true, Bool.or_eq_true, Bool.not_eq_true', Bool.and_eq_false_iff, decide_eq_true_eq, decide_eq_false_iff_not] at hg ⊢
  obtain ⟨⟨⟨⟨h1, h2⟩, h3⟩, h4⟩, h5⟩ := hg
  rw [hasK_app, Bool.or_eq_false_iff] at h2
  refine ⟨⟨⟨⟨h1, h2.1⟩, h3⟩, ?_⟩, ?_⟩
  · cases hb : hasK asks dMA
    · exact .inl rfl
    · right
      have hb' : (secK asks dMA).2 = true := hb
      have he : secK (asks ++ [x]) dMA = secK asks dMA := by rw [secK_app, if_pos hb']
      rw [he, hasK_app, hb] at h4
      simpa using h4
  · cases hb : hasK asks dMF
    · exact .inl rfl
    · right
      have hb' : (secK asks dMF).2 = true := hb
      have he : secK (asks ++ [x]) dMF = secK asks dMF := by rw [secK_app, if_pos hb']
      rw [he, hasK_app, hb] at h5
      simpa using h5
theorem good_nc (asks says : List Dv) (life age : Int) : goodP (asks ++ [xNC]) says life age = false := by
  unfold goodP
  rw [hasK_last asks xNC dNC rfl]
  simp
theorem good_oic (asks says : List Dv) (life age : Int) : goodP (asks ++ [xOIC]) says life age = goodP asks says life age := by
  unfold goodP
  rw [leave_app _ _ _ (one_ms xOIC 0 (.inr (.inr (.inr rfl)))), hasK_more _ _ dNC rfl, hasK_more _ _ dMA rfl, hasK_more _ _ dMF rfl, secK_more _ _ dMA rfl, secK_more _ _ dMF rfl]
theorem use_less (asks says : List Dv) (life age : Int) (x : Dv) (n : Nat) (h : x = xMA n ∨ x = xMF n ∨ x = xNC ∨ x = xOIC) (hu : useP (asks ++ [x]) says life age = 1) : useP asks says life age = 1 := by
  rw [use_one] at hu ⊢
  exact good_less asks says life age x n h hu
theorem use_nc (asks says : List Dv) (life age : Int) : useP (asks ++ [xNC]) says life age ≠ 1 := by
  rw [Ne, use_one, good_nc]; simp
theorem use_oic (asks says : List Dv) (life age : Int) : (useP (asks ++ [xOIC]) says life age = 1 ↔ useP asks says life age = 1) ∧ useP (asks ++ [xOIC]) says life age ≠ 2 := by
  refine ⟨by rw [use_one, use_one, good_oic], ?_⟩
  unfold useP
  split
  · decide
  · rw [hasK_last asks xOIC dOIC rfl]; decide

/-- One that is young. -/
def youngF : List Fld := [(nCC, [109, 97, 120, 45, 97, 103, 101, 61, 54, 48])]
theorem young_ctl : ctl youngF = [(dMA, true, [54, 48])] := by decide +kernel
theorem young_life (D : DFn) : lifeP D youngF 200 1000 = 60 := by
  unfold lifeP
  rw [young_ctl]
  rfl
theorem young_age (D : DFn) (now : Int) (h : 1000 ≤ now) (h2 : now ≤ 100000) : ageP D youngF 1000 1000 now = now - 1000 := by
  have h1 : vals youngF nDate = [] := by decide +kernel
  have h3 : gv youngF nAge = [] := by decide +kernel
  have hm : madeP D youngF 1000 = 1000 := by
    unfold madeP dOf
    rw [h1]
    rfl
  unfold ageP grown
  rw [hm, h3]
  have : numK [] = 0 := rfl
  rw [this]
  unfold spn lastT top31
  omega
theorem young_use (D : DFn) : useP (ctl []) (ctl youngF) (lifeP D youngF 200 1000) (ageP D youngF 1000 1000 1059) = 1 ∧ useP (ctl []) (ctl youngF) (lifeP D youngF 200 1000) (ageP D youngF 1000 1000 1060) = 2 := by
  rw [young_life, young_age D 1059 (by omega) (by omega), young_age D 1060 (by omega) (by omega), young_ctl]
  have : ctl [] = [] := rfl
  rw [this]
  exact ⟨by decide +kernel, by decide +kernel⟩

/-- Lives that are told. -/
theorem vals_names : lower nExp ≠ lower nCC ∧ lower nDate ≠ lower nCC ∧ lower nExp ≠ lower nDate ∧ lower nCC ≠ lower nExp ∧ lower nCC ≠ lower nDate := by decide +kernel
theorem told_ma (D : DFn) (ls : List Fld) (code came : Int) (a : Nat) (ha : a ≤ 100000) (h : gv ls nCC = dMA ++ 61 :: Lib.decDigits a) : lifeP D ls code came = a := by
  obtain ⟨h1, h2, h3⟩ := demand_bare (xMA a) a (.inl rfl)
  have hp : prD (xMA a) = dMA ++ 61 :: Lib.decDigits a := pr_num dMA a
  have hl : (dMA ++ 61 :: Lib.decDigits a).length ≤ 1000 := by
    have := dec_short 5 a (by omega)
    simp [dMA]; omega
  rw [hp] at h1 h2
  have hc : ctl ls = [xMA a] := by
    unfold ctl
    rw [h, ctQ_one _ h1 hl _ h2]
  unfold lifeP
  rw [hc]
  have e1 : secK [xMA a] dSM = (0, false) := secK_no _ _ rfl
  have e2 : secK [xMA a] dMA = ((a : Int), true) := by
    have : secK [xMA a] dMA = (numK (Lib.decDigits a), true) := rfl
    rw [this, numK_dec a (by omega)]
  rw [e1, e2]
  simp
theorem told_sm (D : DFn) (ls : List Fld) (code came : Int) (a b : Nat) (ha : a ≤ 100000) (hb : b ≤ 100000) (h : gv ls nCC = (dMA ++ 61 :: Lib.decDigits a) ++ (44 :: 32 :: (dSM ++ 61 :: Lib.decDigits b))) : lifeP D ls code came = b := by
  have hs : sepD [(dMA, true, Lib.decDigits a), (dSM, true, Lib.decDigits b)] = (dMA ++ 61 :: Lib.decDigits a) ++ (44 :: 32 :: (dSM ++ 61 :: Lib.decDigits b)) := by
    show prD (dMA, true, Lib.decDigits a) ++ [(dSM, true, Lib.decDigits b)].flatMap (fun x => 44 :: 32 :: prD x) = _
    rw [pr_num, List.flatMap_cons, List.flatMap_nil, List.append_nil, pr_num]
  have hl : (sepD [(dMA, true, Lib.decDigits a), (dSM, true, Lib.decDigits b)]).length ≤ 1000 := by
    have h1 := dec_short 5 a (by omega)
    have h2 := dec_short 5 b (by omega)
    rw [hs]
    simp [dMA, dSM]; omega
  have hp : ctP [(dMA, true, Lib.decDigits a), (dSM, true, Lib.decDigits b)] = (sepD [(dMA, true, Lib.decDigits a), (dSM, true, Lib.decDigits b)], 0) := by
    have hz : badD [(dMA, true, Lib.decDigits a), (dSM, true, Lib.decDigits b)] = 0 := by
      apply badD_of
      intro x hx
      simp at hx
      rcases hx with rfl | rfl
      · exact chk_num dMA okMA a
      · exact chk_num dSM okSM b
    unfold ctP
    rw [if_pos hz, if_neg (by simp at hl ⊢; omega)]
  have hc : ctl ls = [(dMA, true, Lib.decDigits a), (dSM, true, Lib.decDigits b)] := by
    unfold ctl
    rw [h, ← hs, ct_back _ _ hp]
  unfold lifeP
  rw [hc]
  have e1 : secK [(dMA, true, Lib.decDigits a), (dSM, true, Lib.decDigits b)] dSM = ((b : Int), true) := by
    have : secK [(dMA, true, Lib.decDigits a), (dSM, true, Lib.decDigits b)] dSM = (numK (Lib.decDigits b), true) := rfl
    rw [this, numK_dec b (by omega)]
  rw [e1]
  simp
theorem told_exp (D : DFn) (hD : DOk D) (ls : List Fld) (code came n : Int) (t : List UInt8) (ht : IsDT t n) (h1 : vals ls nCC = []) (h2 : vals ls nExp = [t]) (h3 : vals ls nDate = [t]) : lifeP D ls code came = 0 := by
  have hd : D t = (n, 0) := hD.one (.inl ⟨rfl, ht⟩)
  have hj : jn [t] = t := jn_one t
  have hc : ctl ls = [] := by unfold ctl gv; rw [h1]; rfl
  have e1 : dOf D ls nExp = (n, true) := by unfold dOf gv; rw [h2, hj, hd]; rfl
  have e2 : madeP D ls came = n := by unfold madeP dOf gv; rw [h3, hj, hd]; rfl
  unfold lifeP
  rw [hc, h2, e1, e2]
  have e3 : secK [] dSM = (0, false) := rfl
  have e4 : secK [] dMA = (0, false) := rfl
  rw [e3, e4]
  have e5 : spn 0 top31 = 0 := by unfold spn top31; omega
  simp [e5]
end Go.Proofs.YtigbjhkkbgdkcacGreatDoor

/-
  What young and anchored of package larderkeep answer: a response that is fresh at one second, and not at the next; the listed variables hold what their text lays.
-/
namespace Go.Proofs.YtigbjhkkbgdkcacGreatDoor
open Go.RowKit

theorem fl_one (w : World) (a b : ByteArray) (t : TypeId) : Fl (w.alloc (.cells #[.string a, .string b] t)) (.slice (some ⟨w.heap.size, 0, none⟩) 1 1) [(a.data.toList, b.data.toList)] := by
  refine ⟨_, 1, rfl, Nat.le_refl _, by unfold maxLen; omega, fun _ => ⟨w.heap.size, 0, rfl, by simp, fun k hk => ?_⟩⟩
  have hk0 : k = 0 := by simpa using hk
  subst hk0
  refine ⟨?_, ?_⟩ <;> simp
set_option maxRecDepth 100000 in
theorem young_any (w : World) : Calls Tryz.prog 16 #[] w fun e w' => ∃ v0 v1 v2 v3 v5 v7 v10 ad, e = .returned (.agg #[v0, v1, v2, v3, .int .i64 200, v5, .slice ad youngF.length 1, v7, .int .i64 1000, .int .i64 1000, v10]) ∧ Fl w' (.slice ad youngF.length 1) youngF ∧ Below w.heap.size w w' := by
  go_enter Tryz.func16, Tryz.ntmps16
  go_wp2_with fail
  have hA : Below (w.alloc (.cells #[.string ⟨#[]⟩, .string ⟨#[]⟩, .slice none 0 0, .string ⟨#[]⟩, .int .i64 200, .string ⟨#[]⟩, .slice (some ⟨w.heap.size + 1, 0, none⟩) 1 1, .string ⟨#[]⟩, .int .i64 1000, .int .i64 1000, .int .i64 0] 28)).heap.size (w.alloc (.cells #[.string ⟨#[]⟩, .string ⟨#[]⟩, .slice none 0 0, .string ⟨#[]⟩, .int .i64 200, .string ⟨#[]⟩, .slice (some ⟨w.heap.size + 1, 0, none⟩) 1 1, .string ⟨#[]⟩, .int .i64 1000, .int .i64 1000, .int .i64 0] 28)) ((w.alloc (.cells #[.string ⟨#[]⟩, .string ⟨#[]⟩, .slice none 0 0, .string ⟨#[]⟩, .int .i64 200, .string ⟨#[]⟩, .slice (some ⟨w.heap.size + 1, 0, none⟩) 1 1, .string ⟨#[]⟩, .int .i64 1000, .int .i64 1000, .int .i64 0] 28)).alloc (.cells #[.string ⟨#[67, 97, 99, 104, 101, 45, 67, 111, 110, 116, 114, 111, 108]⟩, .string ⟨#[109, 97, 120, 45, 97, 103, 101, 61, 54, 48]⟩] 58)) := (Below.refl _ _).alloc (Nat.le_refl _) _
  obtain ⟨c0, c1, c2, c3, c4, c5, c6, c7, c8, c9, c10⟩ := eleven hA
  refine bodyPost_ret (by simp [results, Tryz.results16, go_sem, c0, c1, c2, c3, c4, c5, c6, c7, c8, c9, c10]; try rfl) rfl ?_
  have h1 := fl_one (w.alloc (.cells #[.string ⟨#[]⟩, .string ⟨#[]⟩, .slice none 0 0, .string ⟨#[]⟩, .int .i64 200, .string ⟨#[]⟩, .slice (some ⟨w.heap.size + 1, 0, none⟩) 1 1, .string ⟨#[]⟩, .int .i64 1000, .int .i64 1000, .int .i64 0] 28)) ⟨#[67, 97, 99, 104, 101, 45, 67, 111, 110, 116, 114, 111, 108]⟩ ⟨#[109, 97, 120, 45, 97, 103, 101, 61, 54, 48]⟩ 58
  have hsz : (w.alloc (.cells #[.string ⟨#[]⟩, .string ⟨#[]⟩, .slice none 0 0, .string ⟨#[]⟩, .int .i64 200, .string ⟨#[]⟩, .slice (some ⟨w.heap.size + 1, 0, none⟩) 1 1, .string ⟨#[]⟩, .int .i64 1000, .int .i64 1000, .int .i64 0] 28)).heap.size = w.heap.size + 1 := by simp
  rw [hsz] at h1
  exact ⟨_, _, _, _, _, _, _, _, rfl, h1, ((Below.refl _ w).alloc (Nat.le_refl _) _).trans (hA.mono (by rw [hsz]; omega))⟩
set_option maxHeartbeats 1000000 in
set_option maxRecDepth 100000 in
theorem anch_any (D : DFn) (hD : DOk D) (w : World) (hT : DTabs w) : Calls Tryz.prog 5 #[] w fun e w' => e = .returned (.bool true) ∧ Below w.heap.size w w' := by
  have HT : Hid (DTabs w) := hT
  obtain ⟨u1, u2⟩ := young_use D
  have HU1 : Hid (useP (ctl []) (ctl youngF) (lifeP D youngF 200 1000) (ageP D youngF 1000 1000 1059) = 1) := u1
  have HU2 : Hid (useP (ctl []) (ctl youngF) (lifeP D youngF 200 1000) (ageP D youngF 1000 1000 1060) = 2) := u2
  clear hT u1 u2
  go_enter Tryz.func5, Tryz.ntmps5
  go_wp2_with fail
  refine (young_any _).mono ?_
  rintro e w1 ⟨v0, v1, v2, v3, v5, v7, v10, ad, rfl, hf1, hb1⟩
  have HF1 : Hid (Fl w1 (.slice ad youngF.length 1) youngF) := hf1
  have HB1 : Hid (Below w.heap.size w w1) := hb1
  clear hf1 hb1
  go_wp2_with fail
  refine (fuse_at D hD _ [] v0 v1 v2 v3 v5 v7 v10 _ youngF 200 1000 1000 1059 _ (Fl.nil _) (by decide) HF1.out (by decide) (HT.out.below HB1.out)).mono ?_
  rintro e w2 ⟨rfl, hb2⟩
  rw [HU1.out]
  have HB2 : Hid (Below w.heap.size w w2) := HB1.out.trans (hb2.mono HB1.out.size)
  clear hb2
  go_wp2_with fail
  refine (young_any _).mono ?_
  rintro e w3 ⟨v0, v1, v2, v3, v5, v7, v10, ad, rfl, hf3, hb3⟩
  have HF3 : Hid (Fl w3 (.slice ad youngF.length 1) youngF) := hf3
  have HB3 : Hid (Below w.heap.size w w3) := HB2.out.trans (hb3.mono HB2.out.size)
  clear hf3 hb3
  go_wp2_with fail
  refine (fuse_at D hD _ [] v0 v1 v2 v3 v5 v7 v10 _ youngF 200 1000 1000 1060 _ (Fl.nil _) (by decide) HF3.out (by decide) (HT.out.below HB3.out)).mono ?_
  rintro e w4 ⟨rfl, hb4⟩
  rw [HU2.out]
  have HB4 : Hid (Below w.heap.size w w4) := HB3.out.trans (hb4.mono HB3.out.size)
  clear hb4
  go_wp2_with fail
  go_ret
  exact ⟨rfl, HB4.out⟩
end Go.Proofs.YtigbjhkkbgdkcacGreatDoor

/-
  What Rest of the document's answers computes, of a number above 0, however great: the very number.
-/
namespace Go.Proofs.YtigbjhkkbgdkcacGreatDoor
open Go.RowKit

def restV (x n : Int) : Int := if x.tmod n < 0 then x.tmod n + n else x.tmod n
theorem restV_in (x n : Int) (hn : 0 < n) : 0 ≤ restV x n ∧ restV x n < n := by
  have hm1 : -n < x.tmod n := Int.lt_tmod_of_pos x (by omega)
  have hm2 : x.tmod n < n := Int.tmod_lt_of_pos x (by omega)
  unfold restV
  split <;> omega
set_option maxHeartbeats 1000000 in
set_option maxRecDepth 100000 in
theorem rest_is (x n : Int) (hn : 0 < n) (hn' : n ≤ 281474976710656) (hx : (Lit.int .i64 x).wf = true) (w : World) :
    Calls Tryz.prog 7 #[.int .i64 x, .int .i64 n] w fun e w' => e = .returned (.int .i64 (restV x n)) ∧ w' = w := by
  have hb : -9223372036854775808 ≤ x ∧ x ≤ 9223372036854775807 := by simpa [Lit.wf, IntKind.min, IntKind.max, IntKind.signed, IntKind.bits] using hx
  obtain ⟨hb1, hb2⟩ := hb
  have hm1 : -n < x.tmod n := Int.lt_tmod_of_pos x (by omega)
  have hm2 : x.tmod n < n := Int.tmod_lt_of_pos x (by omega)
  have hz : (n == 0) = false := by rw [beq_eq_false_iff_ne]; omega
  have hz1 : n ≠ 0 := by omega
  clear hx
  go_enter Tryz.func7, Tryz.ntmps7
  go_wp2
  · have hneg : x.tmod n < 0 := by assumption
    go_ret
    exact ⟨congrArg (fun y => Ending.returned (.int .i64 y)) (by unfold restV; rw [if_pos hneg]), rfl⟩
  · have hpos : 0 ≤ x.tmod n := by assumption
    go_ret
    exact ⟨congrArg (fun y => Ending.returned (.int .i64 y)) (by unfold restV; rw [if_neg (by omega)]), rfl⟩
end Go.Proofs.YtigbjhkkbgdkcacGreatDoor

/-
  A block of eleven cells whose seventh is written; how much a list holds that a field is set in.
-/
namespace Go.Proofs.YtigbjhkkbgdkcacGreatDoor
open Go.RowKit

/-- A block of eleven cells, its seventh written anew. -/
def At11 (w W : World) (v0 v1 v2 v3 v4 v5 v6 v7 v8 v9 v10 : Value) : Prop :=
  Cells11 W w.heap.size v0 v1 v2 v3 v4 v5 v6 v7 v8 v9 v10 ∧ W.frozen? ⟨w.heap.size, 6, none⟩ = false ∧ w.heap.size < W.heap.size ∧ Below w.heap.size w W
theorem At11.new (w : World) (t : TypeId) (v0 v1 v2 v3 v4 v5 v6 v7 v8 v9 v10 : Value) : At11 w (w.alloc (.cells #[v0, v1, v2, v3, v4, v5, v6, v7, v8, v9, v10] t)) v0 v1 v2 v3 v4 v5 v6 v7 v8 v9 v10 :=
  ⟨eleven (Below.refl _ _), new_free _ _ _ _, by simp, (Below.refl _ w).alloc (Nat.le_refl _) _⟩
theorem At11.below {w W W' : World} {v0 v1 v2 v3 v4 v5 v6 v7 v8 v9 v10 : Value} (h : At11 w W v0 v1 v2 v3 v4 v5 v6 v7 v8 v9 v10) (hb : Below W.heap.size W W') : At11 w W' v0 v1 v2 v3 v4 v5 v6 v7 v8 v9 v10 := by
  obtain ⟨⟨c0, c1, c2, c3, c4, c5, c6, c7, c8, c9, c10⟩, hf, hs, hB⟩ := h
  have k : ∀ i, W'.cell? ⟨w.heap.size, i, none⟩ = W.cell? ⟨w.heap.size, i, none⟩ := fun i => hb.cell (p := ⟨w.heap.size, i, none⟩) hs
  refine ⟨⟨(k 0).trans c0, (k 1).trans c1, (k 2).trans c2, (k 3).trans c3, (k 4).trans c4, (k 5).trans c5, (k 6).trans c6, (k 7).trans c7, (k 8).trans c8, (k 9).trans c9, (k 10).trans c10⟩, ?_, Nat.lt_of_lt_of_le hs hb.size, hB.trans (hb.mono hB.size)⟩
  exact (hb.frozen (p := ⟨w.heap.size, 6, none⟩) hs).trans hf
theorem At11.set {w W : World} {v0 v1 v2 v3 v4 v5 v6 v7 v8 v9 v10 : Value} (h : At11 w W v0 v1 v2 v3 v4 v5 v6 v7 v8 v9 v10) (x : Value) : At11 w (W.setCell ⟨w.heap.size, 6, none⟩ x) v0 v1 v2 v3 v4 v5 x v7 v8 v9 v10 := by
  obtain ⟨⟨c0, c1, c2, c3, c4, c5, c6, c7, c8, c9, c10⟩, hf, hs, hB⟩ := h
  have k : ∀ i, i ≠ 6 → (W.setCell ⟨w.heap.size, 6, none⟩ x).cell? ⟨w.heap.size, i, none⟩ = W.cell? ⟨w.heap.size, i, none⟩ := fun i hi => World.cell?_setCell_other _ _ _ _ (by simp; try omega)
  refine ⟨⟨(k 0 (by decide)).trans c0, (k 1 (by decide)).trans c1, (k 2 (by decide)).trans c2, (k 3 (by decide)).trans c3, (k 4 (by decide)).trans c4, (k 5 (by decide)).trans c5, ?_, (k 7 (by decide)).trans c7, (k 8 (by decide)).trans c8, (k 9 (by decide)).trans c9, (k 10 (by decide)).trans c10⟩, ?_, ?_, hB.setCell (p := ⟨w.heap.size, 6, none⟩) (Nat.le_refl _) x⟩
  · exact World.cell?_setCell_same' _ _ _ (by rw [c6]; rfl)
  · rw [World.frozen?_setCell]; exact hf
  · simpa [World.setCell] using hs
theorem bulk_set (s v : List UInt8) (ls : List Fld) : bulkF (setS s v ls) ≤ bulkF ls + s.length + v.length + 3 := by
  have hr : ∀ ls : List Fld, bulkF (rest1 s ls) ≤ bulkF ls := by
    intro ls
    unfold rest1
    induction ls with
    | nil => exact Nat.le_refl _
    | cons a ls ih =>
      rw [List.filter_cons]
      simp only [bulkF, List.map_cons, List.sum_cons] at ih ⊢
      split
      · simp only [List.map_cons, List.sum_cons]; omega
      · omega
  induction ls with
  | nil => simp [setS, bulkF]
  | cons a ls ih =>
    unfold setS
    split
    · have := hr ls
      simp only [bulkF, List.map_cons, List.sum_cons] at this ih ⊢
      omega
    · simp only [bulkF, List.map_cons, List.sum_cons] at ih ⊢
      omega
theorem bulk_drop (s : List UInt8) (ls : List Fld) : bulkF (rest1 s ls) ≤ bulkF ls := by
  unfold rest1
  induction ls with
  | nil => exact Nat.le_refl _
  | cons a ls ih =>
    rw [List.filter_cons]
    simp only [bulkF, List.map_cons, List.sum_cons] at ih ⊢
    split
    · simp only [List.map_cons, List.sum_cons]; omega
    · omega
end Go.Proofs.YtigbjhkkbgdkcacGreatDoor

/-
  What but of package field hands back: a function of a field that answers the other way; what it answers in whatever later world.
-/
namespace Go.Proofs.YtigbjhkkbgdkcacGreatDoor
open Go.RowKit

set_option maxHeartbeats 1000000 in
set_option maxRecDepth 100000 in
theorem but1_any (n u : ByteArray) (B g : Nat) (lb : Array Value) (b : Bool) (w : World) (hc : w.cell? ⟨B, 0, none⟩ = some (.func (.func g) #[] lb)) (eg : ∀ args w, (callFunc g args).run Tryz.prog w = .ok (.enter g args) w)
    (hcall : ∀ W, Below w.heap.size w W → Calls Tryz.prog g (#[.agg #[.string n, .string u]] ++ lb) W fun e w' => e = .returned (.bool b) ∧ Below W.heap.size W w') :
    Calls Tryz.prog 55 #[.agg #[.string n, .string u], .pointer (some ⟨B, 0, none⟩)] w fun e w' => e = .returned (.bool (!b)) ∧ Below w.heap.size w w' := by
  have hBs : B < w.heap.size := cell_in hc
  have HC : Hid (∀ W, Below w.heap.size w W → Calls Tryz.prog g (#[.agg #[.string n, .string u]] ++ lb) W fun e w' => e = .returned (.bool b) ∧ Below W.heap.size W w') := hcall
  clear hcall
  go_enter Tryz.func55, Tryz.ntmps55
  go_wp2_with (go_at_fn g; refine (HC.out _ ((Below.refl _ w).alloc (Nat.le_refl _) _)).mono ?_; rintro e w1 ⟨rfl, hb⟩)
  go_ret
  exact ⟨rfl, ((Below.refl _ w).alloc (Nat.le_refl _) _).trans (hb.mono (by simp))⟩

set_option maxHeartbeats 1000000 in
set_option maxRecDepth 100000 in
theorem but_any (f : Value) (p : Fld → Bool) (w : World) (hp : Pred w f p) :
    Calls Tryz.prog 28 #[f] w fun e w' => ∃ f', e = .returned f' ∧ Pred w' f' (fun x => !p x) ∧ Below w.heap.size w w' := by
  have hmf : ∀ (fn : Fn) (first cap : Array Value) (w : World), (Instr.makeFunc fn first cap).run Tryz.prog w = .ok (.func fn first cap) w := fun _ _ _ _ => rfl
  have HP : Hid (Pred w f p) := hp
  obtain ⟨g, lb, hf, eg, _⟩ := hp
  subst hf
  go_enter Tryz.func28, Tryz.ntmps28
  go_wp2_with fail
  go_ret
  refine ⟨_, rfl, ⟨55, _, rfl, enters_of Tryz.func55 (by kernel_rfl) rfl, fun W n u hW hn => ?_⟩, (Below.refl _ w).alloc (Nat.le_refl _) _⟩
  obtain ⟨g', lb', hf', eg', hc'⟩ := HP.out
  simp only [Value.func.injEq, Fn.func.injEq] at hf'
  obtain ⟨rfl, _, rfl⟩ := hf'
  have hWw : Below w.heap.size w W := ((Below.refl _ w).alloc (Nat.le_refl _) _).trans (hW.mono (by simp))
  refine but1_any n u w.heap.size g lb _ W ?_ eg fun W' hW' => hc' W' n u (hWw.trans (hW'.mono hWw.size)) hn
  exact (hW.cell (p := ⟨w.heap.size, 0, none⟩) (by simp)).trans (by simp)
end Go.Proofs.YtigbjhkkbgdkcacGreatDoor

/-
  What slices.IndexFunc and Set of package field compute; lists and texts are no longer than Go allows.
-/
namespace Go.Proofs.YtigbjhkkbgdkcacGreatDoor
open Go.RowKit

theorem elemF : Tryz.prog.elem 22 = 58 := by kernel_rfl
theorem slice_high (ad : Option Addr) (n cap k : Nat) (hk : k ≤ cap) (u : World) :
    (Instr.slice 22 (.slice ad n cap) none (some (.int .i64 (k : Int))) none).run Tryz.prog u = .ok (.slice ad k cap) u := by
  rw [run_slice_h u 22 ad n cap (by rw [elemF]; exact Tryz.underlying22) .i64 (k : Int) (by omega) (by omega), elemF, Tryz.sizeOf58]
  simp [Result.andThen, sliced]
  intro _
  cases ad <;> simp [Addr.add]
theorem slice_low (ad : Option Addr) (n cap k : Nat) (hk : k ≤ n) (u : World) :
    (Instr.slice 22 (.slice ad n cap) (some (.int .i64 (k : Int))) none none).run Tryz.prog u = .ok (.slice (if cap = k then ad else ad.map (·.add (k * 2))) (n - k) (cap - k)) u := by
  rw [run_slice_l u 22 ad n cap (by rw [elemF]; exact Tryz.underlying22) .i64 (k : Int) (by omega) (by omega), elemF, Tryz.sizeOf58]
  simp [Result.andThen, sliced]
theorem Fl.take {w : World} {ad : Option Addr} {cap : Nat} {ls : List Fld} (h : Fl w (.slice ad ls.length cap) ls) (k : Nat) (hk : k ≤ ls.length) : Fl w (.slice ad k cap) (ls.take k) := by
  obtain ⟨ad', cap', hv, h1, h2, h3⟩ := h
  simp only [Value.slice.injEq] at hv
  obtain ⟨rfl, _, rfl⟩ := hv
  have hl : (ls.take k).length = k := by rw [List.length_take]; omega
  refine ⟨ad, cap, by rw [hl], by rw [hl]; omega, h2, fun h0 => ?_⟩
  rw [hl] at h0
  obtain ⟨g, off, ha, hg, hc⟩ := h3 (by omega)
  refine ⟨g, off, ha, hg, fun j hj => ?_⟩
  rw [hl] at hj
  rw [List.getElem_take]
  exact hc j (by omega)
theorem Fl.drop {w : World} {ad : Option Addr} {cap : Nat} {ls : List Fld} (h : Fl w (.slice ad ls.length cap) ls) (k : Nat) (hk : k ≤ ls.length) : Fl w (.slice (if cap = k then ad else ad.map (·.add (k * 2))) (ls.length - k) (cap - k)) (ls.drop k) := by
  obtain ⟨ad', cap', hv, h1, h2, h3⟩ := h
  simp only [Value.slice.injEq] at hv
  obtain ⟨rfl, _, rfl⟩ := hv
  have hl : (ls.drop k).length = ls.length - k := List.length_drop
  refine ⟨_, cap - k, by rw [hl], by rw [hl]; omega, by unfold maxLen at *; omega, fun h0 => ?_⟩
  rw [hl] at h0
  obtain ⟨g, off, ha, hg, hc⟩ := h3 (by omega)
  subst ha
  rw [if_neg (by omega)]
  refine ⟨g, off + k * 2, ?_, hg, fun j hj => ?_⟩
  · by_cases hk0 : k = 0
    · subst hk0; simp [Addr.add]
    · simp [Addr.add]; omega
  · rw [hl] at hj
    rw [List.getElem_drop]
    have := hc (k + j) (by omega)
    rw [show off + k * 2 + j * 2 = off + (k + j) * 2 from by omega]
    exact this
set_option maxHeartbeats 2000000 in
set_option maxRecDepth 100000 in
theorem idx_any (v f : Value) (ls : List Fld) (p : Fld → Bool) (r : Int) (hr : (r = -1 ∧ ∀ x ∈ ls, p x = false) ∨ ∃ (k : Nat) (h : k < ls.length), r = k ∧ p ls[k] = true ∧ ∀ x ∈ ls.take k, p x = false) (w : World) (hf : Fl w v ls) (hl : Wide ls) (hp : Pred w f p) :
    Calls Tryz.prog 27 #[v, f] w fun e w' => e = .returned (.int .i64 r) ∧ Below w.heap.size w w' := by
  obtain ⟨ad, cap, hv, hcap, hcm, hc⟩ := hf
  obtain ⟨g0, lb, hfv, eg, hpc⟩ := hp
  subst hv hfv
  have HC : Hid (0 < ls.length → ∃ g off, ad = some ⟨g, off, none⟩ ∧ g < w.heap.size ∧
    ∀ (k : Nat) (h : k < ls.length), w.cell? ⟨g, off + k * 2, none⟩ = some (.string ⟨(ls[k]).1.toArray⟩) ∧ w.cell? ⟨g, off + k * 2 + 1, none⟩ = some (.string ⟨(ls[k]).2.toArray⟩)) := hc
  have HPC : Hid (∀ (W : World) (n u : ByteArray), Below w.heap.size w W → n.size ≤ 140737488351232 → Calls Tryz.prog g0 (#[.agg #[.string n, .string u]] ++ lb) W fun e w' => e = .returned (.bool (p (n.data.toList, u.data.toList))) ∧ Below W.heap.size W w') := hpc
  have HL : Hid (Wide ls) := hl
  have hll := hl.2
  have HR : Hid ((r = -1 ∧ ∀ x ∈ ls, p x = false) ∨ ∃ (k : Nat) (h : k < ls.length), r = k ∧ p ls[k] = true ∧ ∀ x ∈ ls.take k, p x = false) := hr
  clear hc hpc hl hr
  unfold maxLen at hcm
  go_enter Tryz.func27, Tryz.ntmps27
  go_wp2_with fail
  go_loopw [8] (fun i wr => ∃ k : Nat, k ≤ ls.length ∧ i = .int .i64 k ∧ (∀ x ∈ ls.take k, p x = false) ∧ Below w.heap.size w wr) (fun i _ => ls.length - (intOf i).toNat)
  case atStart => exact ⟨0, Nat.zero_le _, rfl, fun x hx => by simp at hx, Below.refl _ _⟩
  case round =>
    obtain ⟨k, hk, rfl, hno, hw⟩ := hrel
    have hsz := hw.size
    have HNO : Hid (∀ x ∈ ls.take k, p x = false) := hno
    clear hno
    by_cases hlt : k < ls.length
    · obtain ⟨g, off, rfl, hgs, hce⟩ := HC.out (by omega)
      obtain ⟨c1, c2⟩ := hce k hlt
      have hmo := HL.out.1 ls[k] (List.getElem_mem hlt)
      obtain ⟨n, hn⟩ : ∃ n : ByteArray, n = ⟨(ls[k]).1.toArray⟩ := ⟨_, rfl⟩
      obtain ⟨u, hu⟩ : ∃ u : ByteArray, u = ⟨(ls[k]).2.toArray⟩ := ⟨_, rfl⟩
      have hns : n.size ≤ 140737488351232 := by rw [← size_list, hn]; exact hmo.1
      have HE : Hid ((n.data.toList, u.data.toList) = ls[k]) := by show _ = _; rw [hn, hu]
      have d1 : wr.cell? ⟨g, off + k * 2, none⟩ = some (.string n) := by rw [hw.cell (p := ⟨g, off + k * 2, none⟩) hgs, hn]; exact c1
      have d2 : wr.cell? ⟨g, off + k * 2 + 1, none⟩ = some (.string u) := by rw [hw.cell (p := ⟨g, off + k * 2 + 1, none⟩) hgs, hu]; exact c2
      have hgr : g < wr.heap.size := by omega
      clear hce c1 c2 hmo hn hu
      have hki : (k : Int) < (ls.length : Int) := by omega
      have hk0 : (0 : Int) ≤ (k : Int) := by omega
      cases hq : p (n.data.toList, u.data.toList)
      · have HQ : Hid (p (n.data.toList, u.data.toList) = false) := hq
        have HNX : Hid (∀ x ∈ ls.take (k + 1), p x = false) := by
          intro x hx
          rw [List.take_succ_eq_append_getElem hlt] at hx
          rcases List.mem_append.1 hx with hx | hx
          · exact HNO.out x hx
          · rw [List.mem_singleton.1 hx, ← HE.out]; exact HQ.out
        clear hq
        go_wp2_with (go_at_fn g0; refine (HPC.out _ n u hw hns).mono ?_; rintro e w2 ⟨rfl, hb2⟩; rw [HQ.out])
        go_roundw
        case rel => exact ⟨k + 1, by omega, by go_num, HNX.out, hw.trans (hb2.mono hw.size)⟩
        case measure => simp [intOf]; omega
      · have HQ : Hid (p (n.data.toList, u.data.toList) = true) := hq
        have HRK : Hid (r = (k : Int)) := by
          show _ = _
          rcases HR.out with ⟨_, hall⟩ | ⟨k', hk', hrk, hp', hno'⟩
          · have := hall ls[k] (List.getElem_mem hlt)
            rw [← HE.out, hq] at this; cases this
          · have h1 : ¬ k' < k := by
              intro h
              have hm : ls[k'] ∈ ls.take k := by
                rw [List.mem_take_iff_getElem]
                exact ⟨k', by omega, rfl⟩
              have := HNO.out _ hm
              rw [hp'] at this; cases this
            have h2 : ¬ k < k' := by
              intro h
              have hm : ls[k] ∈ ls.take k' := by
                rw [List.mem_take_iff_getElem]
                exact ⟨k, by omega, rfl⟩
              have := hno' _ hm
              rw [← HE.out, hq] at this; cases this
            rw [hrk]
            have : k' = k := by omega
            rw [this]
        clear hq
        go_wp2_with (go_at_fn g0; refine (HPC.out _ n u hw hns).mono ?_; rintro e w2 ⟨rfl, hb2⟩; rw [HQ.out])
        go_ret
        exact ⟨ret_int HRK.out.symm, hw.trans (hb2.mono hw.size)⟩
    · have HRK : Hid (r = -1) := by
        show _ = _
        rcases HR.out with ⟨h, _⟩ | ⟨k', hk', hrk, hp', _⟩
        · exact h
        · have hm : ls[k'] ∈ ls.take k := by
            rw [List.mem_take_iff_getElem]
            exact ⟨k', by omega, rfl⟩
          have := HNO.out _ hm
          rw [hp'] at this; cases this
      go_wp2_with fail
      go_ret
      exact ⟨ret_int HRK.out.symm, hw⟩
end Go.Proofs.YtigbjhkkbgdkcacGreatDoor
