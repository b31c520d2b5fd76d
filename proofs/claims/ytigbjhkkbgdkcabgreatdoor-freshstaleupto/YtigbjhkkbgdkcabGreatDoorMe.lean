/-
  What Life and Age of package fresh say of a stored response whose fields hold at most 2^22 letters and values.
-/
import Derived.Test.YtigbjhkkbgdkcabGreatDoorMd
import Derived.Test.YtigbjhkkbgdkcabGreatDoorShelf
import Derived.Test.YtigbjhkkbgdkcabGreatDoorRows
namespace Go.Proofs.YtigbjhkkbgdkcabGreatDoor
open Go.RowKit

/-- A tenth of what lies behind, or nothing. -/
theorem life_div (md n : Int) : spn ((md - n).tdiv 10) top31 = if n ≤ md then spn ((md - n) / 10) 2147483648 else 0 := by
  by_cases h : n ≤ md
  · rw [if_pos h, Int.tdiv_eq_ediv_of_nonneg (by omega)]; rfl
  · rw [if_neg h]
    have h2 := Int.tdiv_nonneg (a := -(md - n)) (b := 10) (by omega) (by omega)
    rw [Int.neg_tdiv] at h2
    unfold spn top31
    omega
set_option maxHeartbeats 8000000 in
set_option maxRecDepth 100000 in
theorem flife_at (D : DFn) (hD : DOk D) (v0 v1 v2 v3 v5 v7 v8 v10 fv : Value) (ls : List Fld) (code came : Int) (w : World) (hf : Fl w fv ls) (hbk : bulkF ls ≤ 4194304) (hT : DTabs w) :
    Calls Tryz.prog 9 #[.agg #[v0, v1, v2, v3, .int .i64 code, v5, fv, v7, v8, .int .i64 came, v10]] w fun e w' => e = .returned (.int .i64 (lifeP D ls code came)) ∧ Below w.heap.size w w' := by
  have hb0 : Below w.heap.size w (w.alloc (.cells #[v0, v1, v2, v3, .int .i64 code, v5, fv, v7, v8, .int .i64 came, v10] 28)) := (Below.refl _ w).alloc (Nat.le_refl _) _
  have HALL : Hid (∀ W : World, Below (w.alloc (.cells #[v0, v1, v2, v3, .int .i64 code, v5, fv, v7, v8, .int .i64 came, v10] 28)).heap.size (w.alloc (.cells #[v0, v1, v2, v3, .int .i64 code, v5, fv, v7, v8, .int .i64 came, v10] 28)) W →
      Cells11 W w.heap.size v0 v1 v2 v3 (.int .i64 code) v5 fv v7 v8 (.int .i64 came) v10 ∧ Below w.heap.size w W ∧ Fl W fv ls ∧ DTabs W) := fun W h => by
    have hB := hb0.trans (h.mono hb0.size)
    exact ⟨eleven h, hB, hf.below hB, hT.below hB⟩
  have HBK : Hid (bulkF ls ≤ 4194304) := hbk
  have HWI : Hid (Wide ls) := wide_fr ls (by omega)
  have HMO : Hid (MostD maxLen (ctl ls)) := fctl_most ls
  obtain ⟨n1, b1, e1⟩ : ∃ n b, secK (ctl ls) dSM = (n, b) := ⟨_, _, rfl⟩
  obtain ⟨n2, b2, e2⟩ : ∃ n b, secK (ctl ls) dMA = (n, b) := ⟨_, _, rfl⟩
  obtain ⟨x3, e3⟩ : ∃ b, (vals ls nExp).isEmpty = b := ⟨_, rfl⟩
  obtain ⟨u4, e4⟩ : ∃ n, (if (dOf D ls nExp).2 = true then spn ((dOf D ls nExp).1 - madeP D ls came) top31 else 0) = n := ⟨_, rfl⟩
  obtain ⟨n5, k5, e5⟩ : ∃ n c, D (gv ls nLM) = (n, c) := ⟨_, _, rfl⟩
  obtain ⟨b5, e5b⟩ : ∃ b, (k5 == 0) = b := ⟨_, rfl⟩
  obtain ⟨md, emd⟩ : ∃ n, madeP D ls came = n := ⟨_, rfl⟩
  obtain ⟨st, est⟩ : ∃ b, storedP code = b := ⟨_, rfl⟩
  have hmi := fmade_in D hD ls came
  have h5i := fdOf_in D hD ls nLM
  have hdp := dof_plain D hD ls nLM
  rw [e5, e5b] at hdp
  rw [e5] at h5i
  have HUN : Hid (∀ W : World, Fl W fv ls → DTabs W → Calls Tryz.prog 23 #[.agg #[v0, v1, v2, v3, .int .i64 code, v5, fv, v7, v8, .int .i64 came, v10]] W fun e w' => e = .returned (.int .i64 u4) ∧ Below W.heap.size W w') := fun W hW hM => by
    rw [← e4]
    exact funtil_at D hD v0 v1 v2 v3 _ v5 v7 v8 v10 fv ls came W hW hbk hM
  have HMD : Hid (∀ W : World, Fl W fv ls → DTabs W → Calls Tryz.prog 27 #[.agg #[v0, v1, v2, v3, .int .i64 code, v5, fv, v7, v8, .int .i64 came, v10]] W fun e w' => e = .returned (.int .i64 md) ∧ Below W.heap.size W w') := fun W hW hM => by
    rw [← emd]
    exact fmade_at D hD v0 v1 v2 v3 _ v5 v7 v8 v10 fv ls came W hW hbk hM
  rw [emd] at hmi
  have HLF : Hid (lifeP D ls code came = if b1 = true then n1 else if b2 = true then n2 else if x3 = false then u4
      else if b5 = true ∧ st = true ∧ n5 ≤ md then spn ((md - n5) / 10) 2147483648 else 0) := by
    show _ = _
    rw [← e4]
    unfold lifeP top31
    rw [e1, e2, e3, est, hdp]
    simp only [emd]
  have HS1 : Hid (secK (ctl ls) (⟨#[115, 45, 109, 97, 120, 97, 103, 101]⟩ : ByteArray).data.toList = (n1, b1)) := e1
  have HS2 : Hid (secK (ctl ls) (⟨#[109, 97, 120, 45, 97, 103, 101]⟩ : ByteArray).data.toList = (n2, b2)) := e2
  obtain ⟨x, hx⟩ : ∃ x : ByteArray, x.data.toList = jn (vals ls (⟨#[69, 120, 112, 105, 114, 101, 115]⟩ : ByteArray).data.toList) := ⟨⟨(jn (vals ls nExp)).toArray⟩, rfl⟩
  have HX : Hid (x.data.toList = jn (vals ls (⟨#[69, 120, 112, 105, 114, 101, 115]⟩ : ByteArray).data.toList)) := hx
  have hxs : x.size ≤ 140737488355328 := by
    have h := jn_bulk ls (⟨#[69, 120, 112, 105, 114, 101, 115]⟩ : ByteArray).data.toList
    rw [← hx, size_list] at h
    omega
  have HX3 : Hid ((!x3) = !(vals ls (⟨#[69, 120, 112, 105, 114, 101, 115]⟩ : ByteArray).data.toList).isEmpty) := by
    show _ = _
    rw [← e3]; rfl
  have HP5 : Hid (PR (jn (vals ls (⟨#[76, 97, 115, 116, 45, 77, 111, 100, 105, 102, 105, 101, 100]⟩ : ByteArray).data.toList)) n5 k5) := by
    have h := hD (gv ls nLM)
    rw [e5] at h
    exact h
  have HJ5 : Hid ((jn (vals ls (⟨#[76, 97, 115, 116, 45, 77, 111, 100, 105, 102, 105, 101, 100]⟩ : ByteArray).data.toList)).length ≤ 140737488355328) := by
    have := jn_bulk ls (⟨#[76, 97, 115, 116, 45, 77, 111, 100, 105, 102, 105, 101, 100]⟩ : ByteArray).data.toList
    show _ ≤ _
    omega
  have HB5 : Hid ((k5 == 0) = b5) := e5b
  have HST : Hid (∀ W : World, Calls Tryz.prog 25 #[.int .i64 code] W fun e w' => e = .returned (.bool st) ∧ w' = W) := fun W => by rw [← est]; exact flast_any code W
  obtain ⟨ad, cap, hv, hnc, hcm, hcx⟩ := id hf
  subst hv
  unfold maxLen at hcm
  clear hcx hf hbk hb0 hT e1 e2 e3 e4 e5 e5b emd est hx hdp
  go_enter Tryz.func9, Tryz.ntmps9
  go_wp2_with fail
  obtain ⟨_, _, hF0, _⟩ := HALL.out _ (Below.refl _ _)
  refine (fdirs_at _ ls _ hF0 HBK.out).mono ?_
  clear hF0
  rintro e w1 ⟨v1', rfl, hown1, hb1⟩
  have HB1 : Hid (Below (w.alloc (.cells #[v0, v1, v2, v3, .int .i64 code, v5, .slice ad ls.length cap, v7, v8, .int .i64 came, v10] 28)).heap.size (w.alloc (.cells #[v0, v1, v2, v3, .int .i64 code, v5, .slice ad ls.length cap, v7, v8, .int .i64 came, v10] 28)) w1) := hb1
  have HD1 : Hid (Dl w1 v1' (ctl ls)) := Dl.own hown1
  obtain ⟨ad1, cap1, hv1, hcm1, hnc1, _⟩ := own_form2 hown1
  subst hv1
  clear hb1 hown1
  go_wp2_with fail
  refine (ksec_at _ _ (ctl ls) n1 b1 HS1.out _ HD1.out HMO.out).mono ?_
  rintro e w2 ⟨rfl, hb2⟩
  have HB2 : Hid (Below (w.alloc (.cells #[v0, v1, v2, v3, .int .i64 code, v5, .slice ad ls.length cap, v7, v8, .int .i64 came, v10] 28)).heap.size (w.alloc (.cells #[v0, v1, v2, v3, .int .i64 code, v5, .slice ad ls.length cap, v7, v8, .int .i64 came, v10] 28)) w2) := HB1.out.trans (hb2.mono HB1.out.size)
  have HD2 : Hid (Dl w2 (.slice ad1 (ctl ls).length cap1) (ctl ls)) := HD1.out.below hb2
  clear hb2
  cases b1
  rotate_left
  · obtain ⟨_, hBw, _, _⟩ := HALL.out _ HB2.out
    go_wp2_with fail
    go_ret
    exact ⟨by rw [HLF.out]; rfl, hBw⟩
  go_wp2_with fail
  refine (ksec_at _ _ (ctl ls) n2 b2 HS2.out _ HD2.out HMO.out).mono ?_
  rintro e w4 ⟨rfl, hb4⟩
  have HB4w : Hid (Below (w.alloc (.cells #[v0, v1, v2, v3, .int .i64 code, v5, .slice ad ls.length cap, v7, v8, .int .i64 came, v10] 28)).heap.size (w.alloc (.cells #[v0, v1, v2, v3, .int .i64 code, v5, .slice ad ls.length cap, v7, v8, .int .i64 came, v10] 28)) w4) := HB2.out.trans (hb4.mono HB2.out.size)
  clear hb4
  cases b2
  rotate_left
  · obtain ⟨_, hBw, _, _⟩ := HALL.out _ HB4w.out
    go_wp2_with fail
    go_ret
    exact ⟨by rw [HLF.out]; rfl, hBw⟩
  obtain ⟨_, _, hF5, _⟩ := HALL.out _ HB4w.out
  go_wp2_with fail
  refine (get_at _ ls _ x _ HX.out HX3.out _ hF5 HWI.out (by decide) hxs).mono ?_
  clear hF5
  rintro e w6 ⟨rfl, hb6⟩
  have HB6 : Hid (Below (w.alloc (.cells #[v0, v1, v2, v3, .int .i64 code, v5, .slice ad ls.length cap, v7, v8, .int .i64 came, v10] 28)).heap.size (w.alloc (.cells #[v0, v1, v2, v3, .int .i64 code, v5, .slice ad ls.length cap, v7, v8, .int .i64 came, v10] 28)) w6) := HB4w.out.trans (hb6.mono HB4w.out.size)
  clear hb6
  obtain ⟨⟨c0, c1, c2, c3, c4, c5, c6, c7, c8, c9, c10⟩, hB6, hF6, hM6⟩ := HALL.out _ HB6.out
  have HF6 : Hid (Fl w6 (.slice ad ls.length cap) ls) := hF6
  have HM6 : Hid (DTabs w6) := hM6
  have HBW6 : Hid (Below w.heap.size w w6) := hB6
  clear hF6 hM6 hB6
  cases x3
  · go_wp2_with fail
    refine (HUN.out _ HF6.out HM6.out).mono ?_
    rintro e w7 ⟨rfl, hb7⟩
    have HB7 : Hid (Below w.heap.size w w7) := HBW6.out.trans (hb7.mono HBW6.out.size)
    clear hb7 c0 c1 c2 c3 c4 c5 c6 c7 c8 c9 c10
    go_wp2_with fail
    go_ret
    exact ⟨by rw [HLF.out]; rfl, HB7.out⟩
  · go_wp2_with fail
    refine (dof_at _ ls _ n5 k5 HP5.out _ HF6.out HWI.out (by decide) HJ5.out HM6.out).mono ?_
    rintro e w7 ⟨rfl, hb7⟩
    rw [HB5.out]
    have HB7 : Hid (Below (w.alloc (.cells #[v0, v1, v2, v3, .int .i64 code, v5, .slice ad ls.length cap, v7, v8, .int .i64 came, v10] 28)).heap.size (w.alloc (.cells #[v0, v1, v2, v3, .int .i64 code, v5, .slice ad ls.length cap, v7, v8, .int .i64 came, v10] 28)) w7) := HB6.out.trans (hb7.mono HB6.out.size)
    clear hb7 c0 c1 c2 c3 c4 c5 c6 c7 c8 c9 c10
    obtain ⟨⟨c0, c1, c2, c3, c4, c5, c6, c7, c8, c9, c10⟩, hB7, hF7, hM7⟩ := HALL.out _ HB7.out
    have HF7 : Hid (Fl w7 (.slice ad ls.length cap) ls) := hF7
    have HM7 : Hid (DTabs w7) := hM7
    have HBW7 : Hid (Below w.heap.size w w7) := hB7
    clear hF7 hM7 hB7
    cases b5
    · go_wp2_with fail
      go_ret
      exact ⟨by rw [HLF.out]; simp, HBW7.out⟩
    · cases st
      · go_wp2_with (go_at_call 25; refine (HST.out _).mono ?_; rintro e w8 ⟨rfl, rfl⟩)
        go_ret
        exact ⟨by rw [HLF.out]; simp, HBW7.out⟩
      · go_wp2_with (go_at_call 25; refine (HST.out _).mono ?_; rintro e w8 ⟨rfl, rfl⟩)
        refine (HMD.out _ HF7.out HM7.out).mono ?_
        rintro e w9 ⟨rfl, hb9⟩
        have HB9 : Hid (Below w.heap.size w w9) := HBW7.out.trans (hb9.mono HBW7.out.size)
        clear hb9 c0 c1 c2 c3 c4 c5 c6 c7 c8 c9 c10
        have hz : ((10 : Int) == 0) = false := rfl
        go_wp2_with fail
        refine (fsecs_any ((md - n5).tdiv 10) _).mono ?_
        rintro e w10 ⟨rfl, rfl⟩
        go_wp2_with fail
        go_ret
        exact ⟨by rw [HLF.out]; exact ret_int (by rw [life_div md n5]; simp), HB9.out⟩
set_option maxHeartbeats 8000000 in
set_option maxRecDepth 100000 in
theorem fage_at (D : DFn) (hD : DOk D) (v0 v1 v2 v3 v4 v5 v7 v10 fv : Value) (ls : List Fld) (asked came now : Int) (w : World) (hf : Fl w fv ls) (hbk : bulkF ls ≤ 4194304) (hT : DTabs w) :
    Calls Tryz.prog 11 #[.agg #[v0, v1, v2, v3, v4, v5, fv, v7, .int .i64 asked, .int .i64 came, v10], .int .i64 now] w fun e w' => e = .returned (.int .i64 (ageP D ls asked came now)) ∧ Below w.heap.size w w' := by
  have hb0 : Below w.heap.size w (w.alloc (.cells #[v0, v1, v2, v3, v4, v5, fv, v7, .int .i64 asked, .int .i64 came, v10] 28)) := (Below.refl _ w).alloc (Nat.le_refl _) _
  have HALL : Hid (∀ W : World, Below (w.alloc (.cells #[v0, v1, v2, v3, v4, v5, fv, v7, .int .i64 asked, .int .i64 came, v10] 28)).heap.size (w.alloc (.cells #[v0, v1, v2, v3, v4, v5, fv, v7, .int .i64 asked, .int .i64 came, v10] 28)) W →
      Cells11 W w.heap.size v0 v1 v2 v3 v4 v5 fv v7 (.int .i64 asked) (.int .i64 came) v10 ∧ Below w.heap.size w W ∧ Fl W fv ls ∧ DTabs W) := fun W h => by
    have hB := hb0.trans (h.mono hb0.size)
    exact ⟨eleven h, hB, hf.below hB, hT.below hB⟩
  have HBK : Hid (bulkF ls ≤ 4194304) := hbk
  obtain ⟨md, emd⟩ : ∃ n, madeP D ls came = n := ⟨_, rfl⟩
  obtain ⟨sa, esa⟩ : ∃ n, spn asked lastT = n := ⟨_, rfl⟩
  obtain ⟨sc, esc⟩ : ∃ n, spn came lastT = n := ⟨_, rfl⟩
  obtain ⟨sn, esn⟩ : ∃ n, spn now lastT = n := ⟨_, rfl⟩
  obtain ⟨nk, enk⟩ : ∃ n, numK (gv ls nAge) = n := ⟨_, rfl⟩
  have hmi := fmade_in D hD ls came
  have hia := spn_in asked lastT (by unfold lastT; omega)
  have hic := spn_in came lastT (by unfold lastT; omega)
  have hin := spn_in now lastT (by unfold lastT; omega)
  have hik := numK_in (gv ls nAge)
  rw [emd] at hmi
  rw [esa] at hia
  rw [esc] at hic
  rw [esn] at hin
  rw [enk] at hik
  unfold lastT at hia hic hin
  have HAG : Hid (ageP D ls asked came now = spn (max 0 (max (sc - md) (nk + max 0 (sc - sa))) + max 0 (sn - sc)) top31) := by
    show _ = _
    unfold ageP grown
    rw [emd, esa, esc, esn, enk]
    congr 1
    omega
  have HMD : Hid (∀ W : World, Fl W fv ls → DTabs W → Calls Tryz.prog 27 #[.agg #[v0, v1, v2, v3, v4, v5, fv, v7, .int .i64 asked, .int .i64 came, v10]] W fun e w' => e = .returned (.int .i64 md) ∧ Below W.heap.size W w') := fun W hW hM => by
    rw [← emd]
    exact fmade_at D hD v0 v1 v2 v3 v4 v5 v7 _ v10 fv ls came W hW hbk hM
  have HSA : Hid (∀ W : World, Calls Tryz.prog 35 #[.int .i64 asked] W fun e w' => e = .returned (.int .i64 sa) ∧ w' = W) := fun W => by rw [← esa]; exact fnear_any asked W
  have HSC : Hid (∀ W : World, Calls Tryz.prog 35 #[.int .i64 came] W fun e w' => e = .returned (.int .i64 sc) ∧ w' = W) := fun W => by rw [← esc]; exact fnear_any came W
  have HSN : Hid (∀ W : World, Calls Tryz.prog 35 #[.int .i64 now] W fun e w' => e = .returned (.int .i64 sn) ∧ w' = W) := fun W => by rw [← esn]; exact fnear_any now W
  have HWY : Hid (∀ W : World, Fl W fv ls → Calls Tryz.prog 36 #[fv] W fun e w' => e = .returned (.int .i64 nk) ∧ Below W.heap.size W w') := fun W hW => by rw [← enk]; exact fway_at fv ls W hW hbk
  obtain ⟨ad, cap, hv, hnc, hcm, hcx⟩ := id hf
  subst hv
  unfold maxLen at hcm
  clear hcx hf hbk hb0 hT emd esa esc esn enk
  go_enter Tryz.func11, Tryz.ntmps11
  go_wp2_with fail
  go_quiet (first | (go_at_call 35; with_reducible first | exact Calls.quiet_of_same (HSA.out _) | exact Calls.quiet_of_same (HSC.out _)))
  have HB1 : Hid (∀ j, Below (w.alloc (.cells #[v0, v1, v2, v3, v4, v5, .slice ad ls.length cap, v7, .int .i64 asked, .int .i64 came, v10] 28)).heap.size (w.alloc (.cells #[v0, v1, v2, v3, v4, v5, .slice ad ls.length cap, v7, .int .i64 asked, .int .i64 came, v10] 28)) ((w.alloc (.cells #[v0, v1, v2, v3, v4, v5, .slice ad ls.length cap, v7, .int .i64 asked, .int .i64 came, v10] 28)).drewN j)) := fun j => drewN_below _ _ j
  go_wp2_with fail
  obtain ⟨_, _, hF0, hM0⟩ := HALL.out _ (HB1.out _)
  refine (HMD.out _ hF0 hM0).mono ?_
  clear hF0 hM0
  rintro e w2 ⟨rfl, hb2⟩
  have HB2 : Hid (Below (w.alloc (.cells #[v0, v1, v2, v3, v4, v5, .slice ad ls.length cap, v7, .int .i64 asked, .int .i64 came, v10] 28)).heap.size (w.alloc (.cells #[v0, v1, v2, v3, v4, v5, .slice ad ls.length cap, v7, .int .i64 asked, .int .i64 came, v10] 28)) w2) := (HB1.out _).trans (hb2.mono (HB1.out _).size)
  clear hb2
  obtain ⟨⟨c0, c1, c2, c3, c4, c5, c6, c7, c8, c9, c10⟩, hB2, hF2, hM2⟩ := HALL.out _ HB2.out
  have HF2 : Hid (Fl w2 (.slice ad ls.length cap) ls) := hF2
  have HBW2 : Hid (Below w.heap.size w w2) := hB2
  clear hF2 hM2 hB2
  go_wp2_with fail
  refine (HWY.out _ HF2.out).mono ?_
  rintro e w3 ⟨rfl, hb3⟩
  have HB3 : Hid (Below w.heap.size w w3) := HBW2.out.trans (hb3.mono HBW2.out.size)
  clear hb3 c0 c1 c2 c3 c4 c5 c6 c7 c8 c9 c10
  go_wp2_with fail
  refine (HSN.out _).mono ?_
  rintro e w4 ⟨rfl, rfl⟩
  go_wp2_with fail
  refine (fsecs_any (max 0 (max (sc - md) (nk + max 0 (sc - sa))) + max 0 (sn - sc)) _).mono ?_
  rintro e w5 ⟨rfl, rfl⟩
  go_wp2_with fail
  go_ret
  exact ⟨ret_int HAG.out.symm, HB3.out⟩
end Go.Proofs.YtigbjhkkbgdkcabGreatDoor

/-
  What allOf of the document's answers computes; no condition but that a string is no longer than Go allows.
-/
namespace Go.Proofs.YtigbjhkkbgdkcabGreatDoor
open Go.RowKit

set_option maxHeartbeats 400000 in
set_option maxRecDepth 100000 in
theorem allOf_any (s f : ByteArray) (w : World) (hs : s.size ≤ maxLen) :
    Calls Tryz.prog 56 #[.string s, .string f] w fun e w' => e = .returned (.bool (allIn f.data.toList s.data.toList)) ∧ w' = w := by
  unfold maxLen at hs
  go_enter Tryz.func56, Tryz.ntmps56
  go_wp2_with fail
  go_loop [8] (fun i => ∃ k : Nat, k ≤ s.size ∧ i = .int .i64 k ∧ allIn f.data.toList (s.data.toList.take k) = true) (fun i => s.size - (intOf i).toNat)
  case atStart => exact ⟨0, Nat.zero_le _, rfl, rfl⟩
  case round =>
    obtain ⟨k, hk, rfl, hall⟩ := hrel
    have HA : Hid (allIn f.data.toList (s.data.toList.take k) = true) := hall
    clear hall
    by_cases hlt : k < s.size
    · cases ht : f.data.toList.contains s[k]
      · have HT : Hid (f.data.toList.contains s[k] = false) := ht
        clear ht
        go_wp2_with fail
        rw [extract_one s k hlt]
        refine (Tryz.strings_Contains_one _ _ _).mono ?_
        rintro e w' ⟨rfl, rfl⟩
        rw [← Lib.contains_iff_indexByte, HT.out]
        go_wp2_with fail
        go_ret
        refine ⟨ret_bool ?_, rfl⟩
        rw [allIn, all_false s (fun c => f.data.toList.contains c) k hlt HT.out]
      · have HT : Hid (f.data.toList.contains s[k] = true) := ht
        clear ht
        go_wp2_with fail
        rw [extract_one s k hlt]
        refine (Tryz.strings_Contains_one _ _ _).mono ?_
        rintro e w' ⟨rfl, rfl⟩
        rw [← Lib.contains_iff_indexByte, HT.out]
        go_wp2_with fail
        go_round
        case rel => exact ⟨k + 1, by omega, by go_num, by rw [take_snoc s k hlt, allIn, List.all_append, List.all_cons, HT.out, Bool.true_and, List.all_nil, Bool.and_true]; exact HA.out⟩
        case measure => simp [intOf]; omega
    · obtain rfl : k = s.size := by omega
      go_wp2_with fail
      go_ret
      refine ⟨ret_bool ?_, rfl⟩
      have h := HA.out
      rw [take_all] at h
      rw [h]
end Go.Proofs.YtigbjhkkbgdkcabGreatDoor

/-
  What Token of the document's answers compute; no condition but that a string is no longer than Go allows.
-/
namespace Go.Proofs.YtigbjhkkbgdkcabGreatDoor
open Go.RowKit

theorem isTok_all (c : UInt8) : [97, 98, 99, 100, 101, 102, 103, 104, 105, 106, 107, 108, 109, 110, 111, 112, 113, 114, 115, 116, 117, 118, 119, 120, 121, 122, 65, 66, 67, 68, 69, 70, 71, 72, 73, 74, 75, 76, 77, 78, 79, 80, 81, 82, 83, 84, 85, 86, 87, 88, 89, 90, 48, 49, 50, 51, 52, 53, 54, 55, 56, 57, 33, 35, 36, 37, 38, 39, 42, 43, 45, 46, 94, 95, 96, 124, 126].contains c = isTok c := by
  have := byAll (fun c => [97, 98, 99, 100, 101, 102, 103, 104, 105, 106, 107, 108, 109, 110, 111, 112, 113, 114, 115, 116, 117, 118, 119, 120, 121, 122, 65, 66, 67, 68, 69, 70, 71, 72, 73, 74, 75, 76, 77, 78, 79, 80, 81, 82, 83, 84, 85, 86, 87, 88, 89, 90, 48, 49, 50, 51, 52, 53, 54, 55, 56, 57, 33, 35, 36, 37, 38, 39, 42, 43, 45, 46, 94, 95, 96, 124, 126].contains c == isTok c) (by decide +kernel) c
  simpa using this

theorem allIn_tok (f l : List UInt8) (h : f = [97, 98, 99, 100, 101, 102, 103, 104, 105, 106, 107, 108, 109, 110, 111, 112, 113, 114, 115, 116, 117, 118, 119, 120, 121, 122, 65, 66, 67, 68, 69, 70, 71, 72, 73, 74, 75, 76, 77, 78, 79, 80, 81, 82, 83, 84, 85, 86, 87, 88, 89, 90, 48, 49, 50, 51, 52, 53, 54, 55, 56, 57, 33, 35, 36, 37, 38, 39, 42, 43, 45, 46, 94, 95, 96, 124, 126]) : allIn f l = l.all isTok := by
  subst h
  exact congrArg l.all (funext fun c => isTok_all c)

set_option maxHeartbeats 400000 in
set_option maxRecDepth 100000 in
theorem rtoken_any (s : ByteArray) (w : World) (hs : s.size ≤ maxLen) :
    Calls Tryz.prog 78 #[.string s] w fun e w' => e = .returned (.bool (token s.data.toList)) ∧ w' = w := by
  cases he : s.toList.isEmpty
  · have H : Hid (token s.data.toList = s.data.toList.all isTok) := by
      show token s.data.toList = _
      rw [token, ← ByteArray.toList_eq, he]; rfl
    go_enter Tryz.func78, Tryz.ntmps78
    go_wp2_with fail
    refine (allOf_any _ _ _ hs).mono ?_
    rintro e w' ⟨rfl, rfl⟩
    go_wp2_with fail
    go_ret
    refine ⟨ret_bool ?_, rfl⟩
    rw [H.out]
    exact allIn_tok _ _ rfl
  · have H : Hid (token s.data.toList = false) := by
      show token s.data.toList = _
      rw [token, ← ByteArray.toList_eq, he]; rfl
    go_enter Tryz.func78, Tryz.ntmps78
    go_wp2_with fail
    go_ret
    exact ⟨ret_bool H.out.symm, rfl⟩
end Go.Proofs.YtigbjhkkbgdkcabGreatDoor

/-
  What Lower of the document's answers computes: the letters A to Z as a to z; the string fits in the memory that Go's limits allow.
-/
namespace Go.Proofs.YtigbjhkkbgdkcabGreatDoor
open Go.RowKit

theorem idx_great (c : UInt8) : (if 65 ≤ c && c ≤ 90 then (c.toNat : Int) - 65 else -1) = Lib.indexByte [65, 66, 67, 68, 69, 70, 71, 72, 73, 74, 75, 76, 77, 78, 79, 80, 81, 82, 83, 84, 85, 86, 87, 88, 89, 90] c := by
  have := byAll (fun c => decide ((if 65 ≤ c && c ≤ 90 then (c.toNat : Int) - 65 else -1) = Lib.indexByte [65, 66, 67, 68, 69, 70, 71, 72, 73, 74, 75, 76, 77, 78, 79, 80, 81, 82, 83, 84, 85, 86, 87, 88, 89, 90] c)) (by decide +kernel) c
  exact of_decide_eq_true this
theorem idx_yes (c : UInt8) (h : 65 ≤ (c.toNat : Int)) (h' : (c.toNat : Int) ≤ 90) : Lib.indexByte [65, 66, 67, 68, 69, 70, 71, 72, 73, 74, 75, 76, 77, 78, 79, 80, 81, 82, 83, 84, 85, 86, 87, 88, 89, 90] c = ((c.toNat - 65 : Nat) : Int) := by
  rw [← idx_great, if_pos (by simp [UInt8.le_iff_toNat_le]; omega)]; omega
theorem idx_no (c : UInt8) (h : (c.toNat : Int) < 65 ∨ 90 < (c.toNat : Int)) : Lib.indexByte [65, 66, 67, 68, 69, 70, 71, 72, 73, 74, 75, 76, 77, 78, 79, 80, 81, 82, 83, 84, 85, 86, 87, 88, 89, 90] c = -1 := by
  rw [← idx_great, if_neg (by simp [UInt8.le_iff_toNat_le]; omega)]

theorem u8_back (c : UInt8) : ((c.toNat : Int)).toNat.toUInt8 = c := by simp

theorem great_yes (c : UInt8) (n : Nat) (hn : (c.toNat : Int) = n + 65) (hn' : n < 26) (w : World) :
    Calls Tryz.prog 84 #[.string ⟨#[65, 66, 67, 68, 69, 70, 71, 72, 73, 74, 75, 76, 77, 78, 79, 80, 81, 82, 83, 84, 85, 86, 87, 88, 89, 90]⟩, .int .u8 (c.toNat : Int)] w fun e w' => e = .returned (.int .i64 (n : Int)) ∧ w' = w := by
  refine (Tryz.strings_IndexByte _ _ _).mono ?_
  rintro e w' ⟨rfl, rfl⟩
  refine ⟨?_, rfl⟩
  rw [u8_back]
  have h := idx_yes c (by omega) (by omega)
  have e : c.toNat - 65 = n := by omega
  rw [e] at h
  exact congrArg (fun x => Ending.returned (.int .i64 x)) h

theorem great_no (c : UInt8) (h : (c.toNat : Int) < 65 ∨ 90 < (c.toNat : Int)) (w : World) :
    Calls Tryz.prog 84 #[.string ⟨#[65, 66, 67, 68, 69, 70, 71, 72, 73, 74, 75, 76, 77, 78, 79, 80, 81, 82, 83, 84, 85, 86, 87, 88, 89, 90]⟩, .int .u8 (c.toNat : Int)] w fun e w' => e = .returned (.int .i64 (-1)) ∧ w' = w := by
  refine (Tryz.strings_IndexByte _ _ _).mono ?_
  rintro e w' ⟨rfl, rfl⟩
  refine ⟨?_, rfl⟩
  rw [u8_back]
  exact congrArg (fun x => Ending.returned (.int .i64 x)) (idx_no c h)

theorem app_list1 (l : List UInt8) (c : UInt8) : (⟨l.toArray⟩ : ByteArray) ++ ⟨#[c]⟩ = ⟨(l ++ [c]).toArray⟩ := by
  rw [ByteArray.mk_append_mk]

theorem small_at (c : UInt8) (n : Nat) (hn : (c.toNat : Int) = n + 65) (hn' : n < 26) : (⟨#[97, 98, 99, 100, 101, 102, 103, 104, 105, 106, 107, 108, 109, 110, 111, 112, 113, 114, 115, 116, 117, 118, 119, 120, 121, 122]⟩ : ByteArray).extract n (n + 1) = ⟨#[low c]⟩ := by
  rw [extract_one _ n (by exact hn')]
  have h : ∀ m : Fin 26, (#[97, 98, 99, 100, 101, 102, 103, 104, 105, 106, 107, 108, 109, 110, 111, 112, 113, 114, 115, 116, 117, 118, 119, 120, 121, 122] : Array UInt8)[m.val]'(by exact m.isLt) = low (UInt8.ofNat (m.val + 65)) := by decide +kernel
  have e : UInt8.ofNat (n + 65) = c := by
    apply UInt8.toNat.inj
    rw [UInt8.toNat_ofNat']
    omega
  have h' := h ⟨n, hn'⟩
  simp only [e] at h'
  exact congrArg (fun x => (⟨#[x]⟩ : ByteArray)) h'

theorem lower_step (s : ByteArray) (k : Nat) (h : k < s.size) : (⟨(lower (s.data.toList.take k)).toArray⟩ : ByteArray) ++ ⟨#[low s[k]]⟩ = ⟨(lower (s.data.toList.take (k + 1))).toArray⟩ := by
  rw [app_list1, take_snoc s k h, lower_snoc]

theorem lower_len (s : ByteArray) (k : Nat) (h : k ≤ s.size) : (⟨(lower (s.data.toList.take k)).toArray⟩ : ByteArray).size = k := by
  rw [← size_list]; simp [lower]
  have := size_list s
  simp at this
  omega

set_option maxHeartbeats 1000000 in
set_option maxRecDepth 100000 in
theorem rlower_any (s : ByteArray) (w : World) (hs : s.size ≤ 140737488351232) :
    Calls Tryz.prog 55 #[.string s] w fun e w' => e = .returned (.string ⟨(lower s.data.toList).toArray⟩) ∧ w' = w := by
  go_enter Tryz.func55, Tryz.ntmps55
  go_wp2_with fail
  go_loop [3, 8] (fun o i => ∃ k : Nat, ∃ t : ByteArray, k ≤ s.size ∧ i = .int .i64 k ∧ o = .string t ∧ t = ⟨(lower (s.data.toList.take k)).toArray⟩) (fun _ i => s.size - (intOf i).toNat)
  case atStart => exact ⟨0, _, Nat.zero_le _, rfl, rfl, rfl⟩
  case round =>
    obtain ⟨k, t, hk, rfl, rfl, ht⟩ := hrel
    have htl : t.size = k := by rw [ht]; exact lower_len s k hk
    have HT : Hid (t = ⟨(lower (s.data.toList.take k)).toArray⟩) := ht
    have hts : t.size ≤ 140737488351232 := by omega
    clear ht htl
    by_cases hlt : k < s.size
    · rcases (show (s[k].toNat : Int) < 65 ∨ (65 ≤ (s[k].toNat : Int) ∧ (s[k].toNat : Int) ≤ 90) ∨ 91 ≤ (s[k].toNat : Int) from by omega) with h | ⟨h, h'⟩ | h
      · go_wp2_with fail
        refine (great_no _ (by omega) _).mono ?_
        rintro e w' ⟨rfl, rfl⟩
        go_wp2_with fail
        go_round
        case rel => exact ⟨k + 1, _, by omega, by go_num, rfl, by rw [HT.out, extract_one s k hlt, ← lower_step s k hlt, low_no s[k] (by omega)]⟩
        case measure => simp [intOf]; omega
      · obtain ⟨n, hn⟩ : ∃ n : Nat, (s[k].toNat : Int) = n + 65 := ⟨s[k].toNat - 65, by omega⟩
        have hn' : n < 26 := by omega
        have HN : Hid ((s[k].toNat : Int) = n + 65) := hn
        clear hn
        go_wp2_with fail
        refine (great_yes _ n HN.out hn' _).mono ?_
        rintro e w' ⟨rfl, rfl⟩
        go_wp2_with fail
        go_round
        case rel => exact ⟨k + 1, _, by omega, by go_num, rfl, by rw [HT.out, small_at s[k] n HN.out hn', ← lower_step s k hlt]⟩
        case measure => simp [intOf]; omega
      · go_wp2_with fail
        refine (great_no _ (by omega) _).mono ?_
        rintro e w' ⟨rfl, rfl⟩
        go_wp2_with fail
        go_round
        case rel => exact ⟨k + 1, _, by omega, by go_num, rfl, by rw [HT.out, extract_one s k hlt, ← lower_step s k hlt, low_no s[k] (by omega)]⟩
        case measure => simp [intOf]; omega
    · obtain rfl : k = s.size := by omega
      go_wp2_with fail
      go_ret
      exact ⟨ret_str (by rw [HT.out, take_all]), rfl⟩
end Go.Proofs.YtigbjhkkbgdkcabGreatDoor

/-
  What Trim of the document's answers computes, by recursion on the text's length; a text is no longer than Go allows.
-/
namespace Go.Proofs.YtigbjhkkbgdkcabGreatDoor
open Go.RowKit

theorem drop_data (s : ByteArray) : (s.extract 1 s.size).data.toList = s.data.toList.drop 1 := by
  rw [Lib.extract_data, List.take_of_length_le (by rw [List.length_drop, size_list]; omega)]
theorem take_data (s : ByteArray) : (s.extract 0 (s.size - 1)).data.toList = s.data.toList.take (s.data.toList.length - 1) := by
  rw [Lib.extract_data, List.drop_zero, size_list]; rfl

set_option maxHeartbeats 2000000 in
set_option maxRecDepth 100000 in
theorem rtrim_at (n : Nat) : ∀ (s t : ByteArray) (w : World), s.size ≤ n → n ≤ 9223372036854775807 → t.data.toList = trimL s.data.toList →
    Calls Tryz.prog 124 #[.string s] w fun e w' => e = .returned (.string t) ∧ Below w.heap.size w w' := by
  induction n using Nat.strongRecOn with
  | _ n ih =>
    intro s t w hn hN ht
    have IH : Hid (∀ m, m < n → ∀ (s t : ByteArray) (w : World), s.size ≤ m → m ≤ 9223372036854775807 → t.data.toList = trimL s.data.toList → Calls Tryz.prog 124 #[.string s] w fun e w' => e = .returned (.string t) ∧ Below w.heap.size w w') :=
      ih
    clear ih
    have HT : Hid (t.data.toList = trimL s.data.toList) := ht
    clear ht
    go_enter Tryz.func124, Tryz.ntmps124
    go_wp2_with fail
    go_loop [7] (fun i => ∃ k : Nat, k ≤ 2 ∧ i = .int .i64 k ∧ (1 ≤ k → Lib.hasPrefix s.data.toList [32] = false ∧ Lib.hasSuffix s.data.toList [32] = false) ∧ (2 ≤ k → Lib.hasPrefix s.data.toList [9] = false ∧ Lib.hasSuffix s.data.toList [9] = false)) (fun i => 2 - (intOf i).toNat)
    case atStart => exact ⟨0, by omega, rfl, fun h => absurd h (by omega), fun h => absurd h (by omega)⟩
    case round =>
      obtain ⟨k, hk, rfl, h1, h2⟩ := hrel
      have HH1 : Hid (1 ≤ k → Lib.hasPrefix s.data.toList [32] = false ∧ Lib.hasSuffix s.data.toList [32] = false) := h1
      have HH2 : Hid (2 ≤ k → Lib.hasPrefix s.data.toList [9] = false ∧ Lib.hasSuffix s.data.toList [9] = false) := h2
      clear h1 h2
      rcases (show k = 0 ∨ k = 1 ∨ k = 2 from by omega) with rfl | rfl | rfl
      · cases hp : Lib.hasPrefix s.data.toList [32]
        · cases hq : Lib.hasSuffix s.data.toList [32]
          · have HP : Hid (Lib.hasPrefix s.data.toList [32] = false) := hp
            have HQ : Hid (Lib.hasSuffix s.data.toList [32] = false) := hq
            clear hp hq
            go_wp2_with fail
            refine (Tryz.strings_HasPrefix s ⟨#[32]⟩ _).mono ?_
            rintro e w1 ⟨rfl, rfl⟩
            rw [show Lib.hasPrefix s.data.toList (⟨#[32]⟩ : ByteArray).data.toList = false from HP.out]
            go_wp2_with fail
            refine (Tryz.strings_HasSuffix s ⟨#[32]⟩ _ (by omega)).mono ?_
            rintro e w1 ⟨rfl, rfl⟩
            rw [show Lib.hasSuffix s.data.toList (⟨#[32]⟩ : ByteArray).data.toList = false from HQ.out]
            go_wp2_with fail
            go_round
            case rel => exact ⟨1, by omega, rfl, fun _ => by first | exact ⟨HP.out, HQ.out⟩ | simp, fun h => absurd h (by omega)⟩
            case measure => simp [intOf]
          · obtain ⟨e1, e2⟩ := trimL_suf _ 32 rfl hq
            rw [size_list] at e2
            have HP : Hid (Lib.hasPrefix s.data.toList [32] = false) := hp
            have HQ : Hid (Lib.hasSuffix s.data.toList [32] = true) := hq
            have HR : Hid (t.data.toList = trimL (s.extract 0 (s.size - 1)).data.toList) := by show _ = _; rw [take_data, e1]; exact HT.out
            have hz : (s.extract 0 (s.size - 1)).size ≤ n - 1 := by rw [ByteArray.size_extract]; omega
            clear hp hq e1
            go_wp2_with fail
            refine (Tryz.strings_HasPrefix s ⟨#[32]⟩ _).mono ?_
            rintro e w1 ⟨rfl, rfl⟩
            rw [show Lib.hasPrefix s.data.toList (⟨#[32]⟩ : ByteArray).data.toList = false from HP.out]
            go_wp2_with fail
            refine (Tryz.strings_HasSuffix s ⟨#[32]⟩ _ (by omega)).mono ?_
            rintro e w1 ⟨rfl, rfl⟩
            rw [show Lib.hasSuffix s.data.toList (⟨#[32]⟩ : ByteArray).data.toList = true from HQ.out]
            go_wp2_with fail
            refine (IH.out (n - 1) (by omega) _ t _ hz (by omega) HR.out).mono ?_
            rintro e w2 ⟨rfl, hb⟩
            go_wp2_with fail
            go_ret
            exact ⟨rfl, ((Below.refl _ w).alloc (Nat.le_refl _) _).trans (hb.mono (by simp))⟩
        · obtain ⟨e1, e2⟩ := trimL_pre _ 32 rfl hp
          rw [size_list] at e2
          have HP : Hid (Lib.hasPrefix s.data.toList [32] = true) := hp
          have HR : Hid (t.data.toList = trimL (s.extract 1 s.size).data.toList) := by show _ = _; rw [drop_data, e1]; exact HT.out
          have hz : (s.extract 1 s.size).size ≤ n - 1 := by rw [ByteArray.size_extract]; omega
          clear hp e1
          go_wp2_with fail
          refine (Tryz.strings_HasPrefix s ⟨#[32]⟩ _).mono ?_
          rintro e w1 ⟨rfl, rfl⟩
          rw [show Lib.hasPrefix s.data.toList (⟨#[32]⟩ : ByteArray).data.toList = true from HP.out]
          go_wp2_with fail
          refine (IH.out (n - 1) (by omega) _ t _ hz (by omega) HR.out).mono ?_
          rintro e w2 ⟨rfl, hb⟩
          go_wp2_with fail
          go_ret
          exact ⟨rfl, ((Below.refl _ w).alloc (Nat.le_refl _) _).trans (hb.mono (by simp))⟩
      · cases hp : Lib.hasPrefix s.data.toList [9]
        · cases hq : Lib.hasSuffix s.data.toList [9]
          · have HP : Hid (Lib.hasPrefix s.data.toList [9] = false) := hp
            have HQ : Hid (Lib.hasSuffix s.data.toList [9] = false) := hq
            clear hp hq
            go_wp2_with fail
            refine (Tryz.strings_HasPrefix s ⟨#[9]⟩ _).mono ?_
            rintro e w1 ⟨rfl, rfl⟩
            rw [show Lib.hasPrefix s.data.toList (⟨#[9]⟩ : ByteArray).data.toList = false from HP.out]
            go_wp2_with fail
            refine (Tryz.strings_HasSuffix s ⟨#[9]⟩ _ (by omega)).mono ?_
            rintro e w1 ⟨rfl, rfl⟩
            rw [show Lib.hasSuffix s.data.toList (⟨#[9]⟩ : ByteArray).data.toList = false from HQ.out]
            go_wp2_with fail
            go_round
            case rel => exact ⟨2, by omega, rfl, fun _ => HH1.out (by omega), fun _ => by first | exact ⟨HP.out, HQ.out⟩ | simp⟩
            case measure => simp [intOf]
          · obtain ⟨e1, e2⟩ := trimL_suf _ 9 rfl hq
            rw [size_list] at e2
            have HP : Hid (Lib.hasPrefix s.data.toList [9] = false) := hp
            have HQ : Hid (Lib.hasSuffix s.data.toList [9] = true) := hq
            have HR : Hid (t.data.toList = trimL (s.extract 0 (s.size - 1)).data.toList) := by show _ = _; rw [take_data, e1]; exact HT.out
            have hz : (s.extract 0 (s.size - 1)).size ≤ n - 1 := by rw [ByteArray.size_extract]; omega
            clear hp hq e1
            go_wp2_with fail
            refine (Tryz.strings_HasPrefix s ⟨#[9]⟩ _).mono ?_
            rintro e w1 ⟨rfl, rfl⟩
            rw [show Lib.hasPrefix s.data.toList (⟨#[9]⟩ : ByteArray).data.toList = false from HP.out]
            go_wp2_with fail
            refine (Tryz.strings_HasSuffix s ⟨#[9]⟩ _ (by omega)).mono ?_
            rintro e w1 ⟨rfl, rfl⟩
            rw [show Lib.hasSuffix s.data.toList (⟨#[9]⟩ : ByteArray).data.toList = true from HQ.out]
            go_wp2_with fail
            refine (IH.out (n - 1) (by omega) _ t _ hz (by omega) HR.out).mono ?_
            rintro e w2 ⟨rfl, hb⟩
            go_wp2_with fail
            go_ret
            exact ⟨rfl, ((Below.refl _ w).alloc (Nat.le_refl _) _).trans (hb.mono (by simp))⟩
        · obtain ⟨e1, e2⟩ := trimL_pre _ 9 rfl hp
          rw [size_list] at e2
          have HP : Hid (Lib.hasPrefix s.data.toList [9] = true) := hp
          have HR : Hid (t.data.toList = trimL (s.extract 1 s.size).data.toList) := by show _ = _; rw [drop_data, e1]; exact HT.out
          have hz : (s.extract 1 s.size).size ≤ n - 1 := by rw [ByteArray.size_extract]; omega
          clear hp e1
          go_wp2_with fail
          refine (Tryz.strings_HasPrefix s ⟨#[9]⟩ _).mono ?_
          rintro e w1 ⟨rfl, rfl⟩
          rw [show Lib.hasPrefix s.data.toList (⟨#[9]⟩ : ByteArray).data.toList = true from HP.out]
          go_wp2_with fail
          refine (IH.out (n - 1) (by omega) _ t _ hz (by omega) HR.out).mono ?_
          rintro e w2 ⟨rfl, hb⟩
          go_wp2_with fail
          go_ret
          exact ⟨rfl, ((Below.refl _ w).alloc (Nat.le_refl _) _).trans (hb.mono (by simp))⟩
      · go_wp2_with fail
        go_ret
        obtain ⟨p1, p2⟩ := HH1.out (by omega)
        obtain ⟨p3, p4⟩ := HH2.out (by omega)
        refine ⟨ret_str ?_, (Below.refl _ w).alloc (Nat.le_refl _) _⟩
        apply ByteArray.ext
        apply Array.ext'
        rw [HT.out, trimL_none _ p1 p2 p3 p4]
end Go.Proofs.YtigbjhkkbgdkcabGreatDoor

/-
  What parts of the document's answers computes: the pieces between the signs that are not within quotes, each without the blanks at its ends; the text has at most 1000 bytes.
-/
namespace Go.Proofs.YtigbjhkkbgdkcabGreatDoor
open Go.RowKit

theorem own_form {w : World} {B : Nat} {v : Value} {n : Nat} {xs : List Value} (h : w.ownsRow B 9 1 v n xs) (hn : 0 < n) : ∃ g cap, v = .slice (some ⟨g, 0, none⟩) n cap ∧ B ≤ g ∧ g < w.heap.size ∧ n ≤ cap ∧ cap ≤ maxLen := by
  rcases h.2 with ⟨_, h0⟩ | ⟨g, cap, cur, hv, hb, hg, hnc, hcm, _, _⟩
  · omega
  · refine ⟨g, cap, hv, hb, ?_, hnc, hcm⟩
    exact (Array.getElem?_eq_some_iff.1 hg).1

theorem set_last (ps : List (List UInt8)) (cur : List UInt8) (c : UInt8) : (strs (ps ++ [cur])).set ps.length (.string ⟨(cur ++ [c]).toArray⟩) = strs (ps ++ [cur ++ [c]]) := by
  rw [← strs_snoc, ← strs_snoc, List.set_append_right _ _ (by rw [strs_length]; exact Nat.le_refl _), strs_length, Nat.sub_self]; rfl
theorem get_last (ps : List (List UInt8)) (cur : List UInt8) : (strs (ps ++ [cur]))[ps.length]? = some (.string ⟨cur.toArray⟩) := by
  rw [← strs_snoc, List.getElem?_append_right (by rw [strs_length]; exact Nat.le_refl _), strs_length, Nat.sub_self]; rfl
theorem app_cur (cur : List UInt8) (c : UInt8) : (⟨cur.toArray⟩ : ByteArray) ++ ⟨#[c]⟩ = ⟨(cur ++ [c]).toArray⟩ := by
  rw [ByteArray.mk_append_mk]
theorem cur_len (sep : UInt8) (l : List UInt8) : (cutS sep l).cur.length ≤ l.length := by
  have gen : ∀ (l : List UInt8) (x : Cut), (l.foldl (cstep sep) x).cur.length ≤ x.cur.length + l.length := by
    intro l
    induction l with
    | nil => intro x; simp
    | cons c l ih =>
      intro x
      rw [List.foldl_cons]
      have h := ih (cstep sep x c)
      have h2 : (cstep sep x c).cur.length ≤ x.cur.length + 1 := by unfold cstep; split <;> simp
      rw [List.length_cons]
      omega
  have := gen l ⟨[], [], false, false⟩
  simpa [cutS] using this
theorem one_eq (s : ByteArray) (k : Nat) (h : k < s.size) (d : UInt8) (b : Bool) (hb : decide ((s[k].toNat : Int) = (d.toNat : Int)) = b) : ((s.extract k (k + 1)).toList == [d]) = b := by
  have e : (s.extract k (k + 1)).toList = [s[k]] := by rw [extract_one s k h, ByteArray.toList_eq]
  rw [e, ← hb, Bool.eq_iff_iff]
  simp
  constructor
  · intro e; rw [e]
  · intro e; exact eq_of_int _ d (by omega)
theorem one_eq2 (s : ByteArray) (k : Nat) (h : k < s.size) (d : UInt8) (b : Bool) (hb : decide ((s[k].toNat : Int) = (d.toNat : Int)) = b) : ((s.extract k (k + 1)).toList == (⟨#[d]⟩ : ByteArray).toList) = b := by
  rw [ByteArray.toList_eq ⟨#[d]⟩]; exact one_eq s k h d b hb
theorem cstep_else' (sep : UInt8) (ps : List (List UInt8)) (cur : List UInt8) (q cn : Bool) (c : UInt8) (h1 : ¬ (c = sep ∧ q = false)) :
    cstep sep ⟨ps, cur, q, cn⟩ c = ⟨ps, cur ++ [c], if cn = true then q else if c = 34 then !q else q, if cn = true then false else if c = 34 then false else if c = 92 then q else false⟩ := by
  unfold cstep; rw [if_neg h1]

theorem own_below {w w1 : World} {B : Nat} {e : TypeId} {v : Value} {n : Nat} {xs : List Value} (h : w.ownsRow B e 1 v n xs) (hb : Below w.heap.size w w1) : w1.ownsRow B e 1 v n xs := by
  refine ⟨h.1, ?_⟩
  rcases h.2 with h0 | ⟨g, cap, cur, hv, hB, hg, h3⟩
  · exact .inl h0
  · exact .inr ⟨g, cap, cur, hv, hB, (hb.block g (Array.getElem?_eq_some_iff.1 hg).1).trans hg, h3⟩
theorem cell_block' {w : World} {a : Addr} {v : Value} (h : w.cell? a = some v) : a.block < w.heap.size := by
  rcases Nat.lt_or_ge a.block w.heap.size with h1 | h1
  · exact h1
  · exfalso
    unfold World.cell? at h
    rw [Array.getElem?_eq_none h1] at h
    simp at h
theorem cstep_sep' (sep : UInt8) (ps : List (List UInt8)) (cur : List UInt8) (cn : Bool) (c : UInt8) (hc : c = sep) : cstep sep ⟨ps, cur, false, cn⟩ c = ⟨ps ++ [cur], [], false, cn⟩ := by
  simp [cstep, hc]

/-- What the second loop has done after k rounds. -/
def half (P : List (List UInt8)) (k : Nat) : List (List UInt8) := (P.take k).map trimL ++ P.drop k
theorem half_len (P : List (List UInt8)) (k : Nat) (h : k ≤ P.length) : (half P k).length = P.length := by
  simp [half]; omega
theorem half_get (P : List (List UInt8)) (k : Nat) (h : k < P.length) : (strs (half P k))[k]? = some (.string ⟨P[k].toArray⟩) := by
  have hl : (half P k)[k]? = some P[k] := by
    unfold half
    rw [List.getElem?_append_right (by simp; omega)]
    simp [List.length_take, Nat.min_eq_left (Nat.le_of_lt h), h]
  unfold strs
  rw [List.getElem?_map, hl]; rfl
theorem half_at (P : List (List UInt8)) (k : Nat) (h : k < P.length) : half P k = (P.take k).map trimL ++ P[k] :: P.drop (k + 1) ∧ half P (k + 1) = (P.take k).map trimL ++ trimL P[k] :: P.drop (k + 1) := by
  refine ⟨by unfold half; rw [List.drop_eq_getElem_cons h], ?_⟩
  unfold half
  rw [List.take_succ_eq_append_getElem h, List.map_append, List.append_assoc]; rfl
theorem half_set (P : List (List UInt8)) (k : Nat) (h : k < P.length) : (strs (half P k)).set k (.string ⟨(trimL P[k]).toArray⟩) = strs (half P (k + 1)) := by
  obtain ⟨e1, e2⟩ := half_at P k h
  have hl : (strs ((P.take k).map trimL)).length = k := by simp [strs]; omega
  have ea : strs (half P k) = strs ((P.take k).map trimL) ++ Value.string ⟨P[k].toArray⟩ :: strs (P.drop (k + 1)) := by rw [e1]; unfold strs; rw [List.map_append, List.map_cons]
  have eb : strs (half P (k + 1)) = strs ((P.take k).map trimL) ++ Value.string ⟨(trimL P[k]).toArray⟩ :: strs (P.drop (k + 1)) := by rw [e2]; unfold strs; rw [List.map_append, List.map_cons]
  rw [ea, eb, List.set_append_right _ _ (by omega), hl, Nat.sub_self, List.set_cons_zero]
theorem half_all (P : List (List UInt8)) : half P P.length = P.map trimL := by simp [half]

set_option maxHeartbeats 4000000 in
set_option maxRecDepth 100000 in
theorem rparts_any (s : ByteArray) (sep : UInt8) (w : World) (hs : s.size ≤ 1000) :
    Calls Tryz.prog 100 #[.string s, .string ⟨#[sep]⟩] w fun e w' => ∃ v, e = .returned (.tuple #[v, .bool (ends sep s.data.toList)]) ∧
      w'.ownsRow w.heap.size 9 1 v (pieces sep s.data.toList).length (strs ((pieces sep s.data.toList).map trimL)) ∧ Below w.heap.size w w' := by
  obtain ⟨i0, hi, hz0, hz1, hz2⟩ := info_parts info9
  have hst : (w.alloc (.cells #[.string ⟨#[]⟩] 9)).ownsRow w.heap.size 9 1 (.slice (some ⟨w.heap.size, 0, none⟩) 1 1) (0 + 1) (strs ([] ++ [([] : List UInt8)])) :=
    World.ownsRow_lit w #[.string ⟨#[]⟩] 1 (Nat.le_refl _) (by unfold maxLen; omega) rfl
  go_enter Tryz.func100, Tryz.ntmps100
  go_wp2_with fail
  go_loopw [6, 7, 8, 15] (fun v qv cv i wr => ∃ (k : Nat) (ps : List (List UInt8)) (cur : List UInt8) (q cn : Bool) , k ≤ s.size ∧ i = .int .i64 k ∧ qv = .bool q ∧ cv = .bool cn ∧
      cutS sep (s.data.toList.take k) = ⟨ps, cur, q, cn⟩ ∧ wr.ownsRow w.heap.size 9 1 v (ps.length + 1) (strs (ps ++ [cur])) ∧ Below w.heap.size w wr) (fun _ _ _ i _ => s.size - (intOf i).toNat)
  case atStart => exact ⟨0, [], [], false, false, by omega, rfl, rfl, rfl, rfl, hst, (Below.refl _ w).alloc (Nat.le_refl _) _⟩
  case round =>
    obtain ⟨k, ps, cur, q, cn, hk, rfl, rfl, rfl, hcut, hown, hw⟩ := hrel
    clear hst
    have hpl : ps.length ≤ 1000 ∧ cur.length ≤ 1000 := by
      have h1 := cutS_len sep (s.data.toList.take k)
      have h1' := cur_len sep (s.data.toList.take k)
      have h2 := List.length_take_le k s.data.toList
      rw [hcut] at h1 h1'
      simp only at h1 h1'
      omega
    obtain ⟨hpl, hcl⟩ := hpl
    have hsz := hw.size
    have HC : Hid (cutS sep (s.data.toList.take k) = ⟨ps, cur, q, cn⟩) := hcut
    clear hcut
    obtain ⟨g, cap, hv, hgB, hgs, hnc, hcm⟩ := own_form hown (by omega)
    have hcell : wr.cell? ⟨g, ps.length, none⟩ = some (.string ⟨cur.toArray⟩) := by
      rw [hv] at hown
      rw [hown.cellAt ps.length (by omega)]
      exact get_last ps cur
    have hfz : wr.frozen? ⟨g, ps.length, none⟩ = false := by
      rw [hv] at hown
      exact hown.frozenAt ps.length
    obtain ⟨t, ht⟩ : ∃ t : ByteArray, t = ⟨cur.toArray⟩ := ⟨_, rfl⟩
    have hts : t.size ≤ 1000 := by rw [ht, ← size_list]; exact hcl
    rw [← ht] at hcell
    have HT : Hid (t = ⟨cur.toArray⟩) := ht
    subst hv
    unfold maxLen at hcm
    clear ht
    by_cases hlt : k < s.size
    · have hc1 : (s[k].toNat : Int) < 256 := by have := s[k].toNat_lt; omega
      have HSN : Hid (∀ x, cstep sep ⟨ps, cur, q, cn⟩ s[k] = x → cutS sep (s.data.toList.take (k + 1)) = x) := by
        intro x hx
        rw [take_snoc s k hlt, cutS_snoc, HC.out, hx]
      have HST : Hid ((wr.setCell ⟨g, ps.length, none⟩ (.string (t ++ s.extract k (k + 1)))).ownsRow w.heap.size 9 1 (.slice (some ⟨g, 0, none⟩) (ps.length + 1) cap) (ps.length + 1) (strs (ps ++ [cur ++ [s[k]]])) ∧ Below w.heap.size w (wr.setCell ⟨g, ps.length, none⟩ (.string (t ++ s.extract k (k + 1))))) := by
        refine ⟨?_, hw.setCell (p := ⟨g, ps.length, none⟩) hgB _⟩
        have h := (hown.stored ps.length (.string (t ++ s.extract k (k + 1)))).1
        have e : t ++ s.extract k (k + 1) = ⟨(cur ++ [s[k]]).toArray⟩ := by rw [HT.out, extract_one s k hlt, app_cur]
        rw [e, set_last] at h
        rw [e]
        exact h
      by_cases hsep : (s[k].toNat : Int) = (sep.toNat : Int)
      · have hd1 := one_eq s k hlt sep true (decide_eq_true hsep)
        have hd1' := one_eq2 s k hlt sep true (decide_eq_true hsep)
        have HSP : Hid (s[k] = sep) := eq_of_int _ _ hsep
        cases q
        · clear hsep
          go_wp2_with (at_builtin; refine wpList_append_own _ rfl _ _ 68 rfl w.heap.size 9 i0 (.string ⟨#[]⟩) 1 16 Tryz.underlying68 hi hz0 hz1 hz2 rfl (by decide) _ _ _ rfl (hown.alloc _) ⟨wr.heap.size, 0, none⟩ 1 1 [.string ⟨#[]⟩] rfl rfl ?c1 ?c2 ?c3 ?c4 ?c5 ?_)
          case c1 => exact one_cell _ _ _
          case c2 => intro u hu; simp at hu; subst hu; rfl
          case c3 => unfold maxLen; omega
          case c4 => omega
          case c5 => simp; omega
          · intro v' w1 hown' hgrow _
            have hB : Below w.heap.size w w1 := (hw.alloc (by omega) _).grown hgrow (by simp; omega) (fun b hb => ((hown.alloc (.cells #[.string ⟨#[]⟩] 9)).lt b hb).1)
            have hown2 : w1.ownsRow w.heap.size 9 1 v' ((ps ++ [cur]).length + 1) (strs (ps ++ [cur] ++ [[]])) := by
              rw [← strs_snoc, List.length_append]; exact hown'
            clear hown' hgrow hown hw HST
            go_wp2_with fail
            go_roundw
            case rel => exact ⟨k + 1, ps ++ [cur], [], false, cn, by omega, by go_num, rfl, rfl, HSN.out _ (cstep_sep' sep _ _ _ _ HSP.out), hown2, hB⟩
            case measure => simp [intOf]; omega
        · have HE := HSN.out _ (cstep_else' sep ps cur true cn s[k] (fun h => by cases h.2))
          have HEE : Hid (cutS sep (s.data.toList.take (k + 1)) = _) := HE
          clear HE hsep HSN hown hw
          cases cn
          · by_cases h34 : (s[k].toNat : Int) = 34
            · have hd2 := one_eq s k hlt 34 true (decide_eq_true h34)
              have H34 : Hid (s[k] = 34) := eq_of_int _ 34 h34
              clear h34
              go_wp2_with fail
              go_roundw
              case rel => exact ⟨k + 1, ps, cur ++ [s[k]], false, false, by omega, by go_num, rfl, rfl, by rw [HEE.out, H34.out]; rfl, HST.out.1, HST.out.2⟩
              case measure => simp [intOf]; omega
            · have hd2 := one_eq s k hlt 34 false (decide_eq_false h34)
              have H34 : Hid (s[k] ≠ 34) := ne_of_int _ 34 h34
              clear h34
              by_cases h92 : (s[k].toNat : Int) = 92
              · have hd3 := one_eq s k hlt 92 true (decide_eq_true h92)
                have H92 : Hid (s[k] = 92) := eq_of_int _ 92 h92
                clear h92
                go_wp2_with fail
                go_roundw
                case rel => exact ⟨k + 1, ps, cur ++ [s[k]], true, true, by omega, by go_num, rfl, rfl, by rw [HEE.out, H92.out]; rfl, HST.out.1, HST.out.2⟩
                case measure => simp [intOf]; omega
              · have hd3 := one_eq s k hlt 92 false (decide_eq_false h92)
                have H92 : Hid (s[k] ≠ 92) := ne_of_int _ 92 h92
                clear h92
                go_wp2_with fail
                go_roundw
                case rel => exact ⟨k + 1, ps, cur ++ [s[k]], true, false, by omega, by go_num, rfl, rfl, by rw [HEE.out, if_neg H34.out, if_neg H34.out, if_neg H92.out]; rfl, HST.out.1, HST.out.2⟩
                case measure => simp [intOf]; omega
          · go_wp2_with fail
            go_roundw
            case rel => exact ⟨k + 1, ps, cur ++ [s[k]], true, false, by omega, by go_num, rfl, rfl, HEE.out, HST.out.1, HST.out.2⟩
            case measure => simp [intOf]; omega
      · have hd1 := one_eq s k hlt sep false (decide_eq_false hsep)
        have hd1' := one_eq2 s k hlt sep false (decide_eq_false hsep)
        have HE := HSN.out _ (cstep_else' sep ps cur q cn s[k] (fun h => ne_of_int _ _ hsep h.1))
        have HEE : Hid (cutS sep (s.data.toList.take (k + 1)) = _) := HE
        clear HE hsep HSN hown hw
        cases cn
        · by_cases h34 : (s[k].toNat : Int) = 34
          · have hd2 := one_eq s k hlt 34 true (decide_eq_true h34)
            have H34 : Hid (s[k] = 34) := eq_of_int _ 34 h34
            clear h34
            cases q
            all_goals
              go_wp2_with fail
              go_roundw
              case rel => exact ⟨k + 1, ps, cur ++ [s[k]], _, false, by omega, by go_num, rfl, rfl, by rw [HEE.out, H34.out]; rfl, HST.out.1, HST.out.2⟩
              case measure => simp [intOf]; omega
          · have hd2 := one_eq s k hlt 34 false (decide_eq_false h34)
            have H34 : Hid (s[k] ≠ 34) := ne_of_int _ 34 h34
            clear h34
            by_cases h92 : (s[k].toNat : Int) = 92
            · have hd3 := one_eq s k hlt 92 true (decide_eq_true h92)
              have H92 : Hid (s[k] = 92) := eq_of_int _ 92 h92
              clear h92
              cases q
              all_goals
                go_wp2_with fail
                go_roundw
                case rel => exact ⟨k + 1, ps, cur ++ [s[k]], _, _, by omega, by go_num, rfl, rfl, by rw [HEE.out, H92.out]; rfl, HST.out.1, HST.out.2⟩
                case measure => simp [intOf]; omega
            · have hd3 := one_eq s k hlt 92 false (decide_eq_false h92)
              have H92 : Hid (s[k] ≠ 92) := ne_of_int _ 92 h92
              clear h92
              cases q
              all_goals
                go_wp2_with fail
                go_roundw
                case rel => exact ⟨k + 1, ps, cur ++ [s[k]], _, false, by omega, by go_num, rfl, rfl, by rw [HEE.out, if_neg H34.out, if_neg H34.out, if_neg H92.out]; rfl, HST.out.1, HST.out.2⟩
                case measure => simp [intOf]; omega
        · cases q
          all_goals
            go_wp2_with fail
            go_roundw
            case rel => exact ⟨k + 1, ps, cur ++ [s[k]], _, false, by omega, by go_num, rfl, rfl, HEE.out, HST.out.1, HST.out.2⟩
            case measure => simp [intOf]; omega
    · have HE : Hid (cutS sep s.data.toList = ⟨ps, cur, q, cn⟩) := by
        show cutS sep s.data.toList = _
        have h := HC.out
        rw [List.take_of_length_le (by rw [size_list]; omega)] at h
        exact h
      have HEN : Hid (ends sep s.data.toList = !q) := by show _ = _; unfold ends; rw [HE.out]
      have HPI : Hid (pieces sep s.data.toList = ps ++ [cur]) := by show _ = _; unfold pieces; rw [HE.out]
      obtain ⟨wo, rfl⟩ : ∃ wo : World, wo = wr := ⟨_, rfl⟩
      clear hcell hfz HC hcl
      go_wp2_with fail
      go_loopw [56] (fun i wr => ∃ j : Nat, j ≤ ps.length + 1 ∧ i = .int .i64 j ∧ wr.ownsRow w.heap.size 9 1 (.slice (some ⟨g, 0, none⟩) (ps.length + 1) cap) (ps.length + 1) (strs (half (ps ++ [cur]) j)) ∧ Below w.heap.size w wr) (fun i _ => ps.length + 1 - (intOf i).toNat)
      case atStart => exact ⟨0, by omega, rfl, by simpa [half] using hown, hw⟩
      case round =>
        obtain ⟨j, hj, rfl, hown2, hw2⟩ := hrel
        clear hown hw
        have hsz2 := hw2.size
        by_cases hjt : j < ps.length + 1
        · have hjP : j < (ps ++ [cur]).length := by simp; omega
          have hcell : wr.cell? ⟨g, j, none⟩ = some (.string ⟨((ps ++ [cur])[j]).toArray⟩) := by
            rw [hown2.cellAt j (by omega)]
            exact half_get _ j hjP
          obtain ⟨u, hu⟩ : ∃ u : ByteArray, u = ⟨((ps ++ [cur])[j]).toArray⟩ := ⟨_, rfl⟩
          rw [← hu] at hcell
          obtain ⟨u', hu'⟩ : ∃ u' : ByteArray, u' = ⟨(trimL (ps ++ [cur])[j]).toArray⟩ := ⟨_, rfl⟩
          have hus : u.size ≤ 1000 := by
            rw [hu, ← size_list]
            have := pieces_len sep s.data.toList (ps ++ [cur])[j] (by rw [HPI.out]; exact List.getElem_mem hjP)
            rw [size_list] at this
            show ((ps ++ [cur])[j]).length ≤ 1000
            omega
          have HU : Hid (u'.data.toList = trimL u.data.toList) := by show _ = _; rw [hu, hu']
          have HU' : Hid (u' = ⟨(trimL (ps ++ [cur])[j]).toArray⟩) := hu'
          clear hu hu'
          go_wp2_with fail
          refine (rtrim_at 1000 _ u' _ hus (by omega) HU.out).mono ?_
          rintro e w1 ⟨rfl, hb⟩
          have hown3 := own_below hown2 hb
          have hcell3 : w1.cell? ⟨g, j, none⟩ = some (.string u) := (hb.cell (cell_block' hcell)).trans hcell
          have hfz3 := hown3.frozenAt j
          have hw3 := hw2.trans (hb.mono hw2.size)
          have HST : Hid ((w1.setCell ⟨g, j, none⟩ (.string u')).ownsRow w.heap.size 9 1 (.slice (some ⟨g, 0, none⟩) (ps.length + 1) cap) (ps.length + 1) (strs (half (ps ++ [cur]) (j + 1))) ∧ Below w.heap.size w (w1.setCell ⟨g, j, none⟩ (.string u'))) := by
            refine ⟨?_, hw3.setCell (p := ⟨g, j, none⟩) hgB _⟩
            have h := (hown3.stored j (.string u')).1
            rw [HU'.out, half_set _ j hjP] at h
            rw [HU'.out]
            exact h
          clear hown3 hown2 hw2 hw3 hb hcell
          go_wp2_with fail
          go_roundw
          case rel => exact ⟨j + 1, by omega, by go_num, HST.out.1, HST.out.2⟩
          case measure => simp [intOf]; omega
        · obtain rfl : j = ps.length + 1 := by omega
          go_wp2_with fail
          go_ret2
          refine ⟨.slice (some ⟨g, 0, none⟩) (ps.length + 1) cap, by rw [HEN.out]; rfl, ?_, hw2⟩
          rw [HPI.out, ← half_all]
          have e : (ps ++ [cur]).length = ps.length + 1 := by simp
          rw [e]
          exact hown2
end Go.Proofs.YtigbjhkkbgdkcabGreatDoor

/-
  What Split of the document's answers computes; the text is no longer than Go allows.
-/
namespace Go.Proofs.YtigbjhkkbgdkcabGreatDoor
open Go.RowKit

def full (P : List (List UInt8)) : List (List UInt8) := P.filter (fun p => !p.isEmpty)
theorem full_snoc (P : List (List UInt8)) (p : List UInt8) : full (P ++ [p]) = if p.isEmpty = true then full P else full P ++ [p] := by
  unfold full
  rw [List.filter_append]
  cases h : p.isEmpty <;> simp [h]
theorem full_len (P : List (List UInt8)) : (full P).length ≤ P.length := List.length_filter_le _ _
theorem full_kept (P : List (List UInt8)) : full (P.map trimL) = kept P := rfl

set_option maxHeartbeats 4000000 in
set_option maxRecDepth 100000 in
theorem rsplit_any (s : ByteArray) (w : World) :
    Calls Tryz.prog 76 #[.string s] w fun e w' => ∃ v, e = .returned (.tuple #[v, .int .i64 (splitS s.data.toList).2]) ∧
      w'.ownsRow w.heap.size 9 1 v (splitS s.data.toList).1.length (strs (splitS s.data.toList).1) ∧ Below w.heap.size w w' := by
  obtain ⟨i0, hi, hz0, hz1, hz2⟩ := info_parts info9
  by_cases h1 : 1000 < (s.size : Int)
  · have HL : Hid (splitS s.data.toList = ([], 2)) := by show _ = _; unfold splitS; rw [if_pos (by rw [size_list]; omega)]
    go_enter Tryz.func76, Tryz.ntmps76
    go_wp2_with fail
    go_ret2
    exact ⟨.slice none 0 0, by rw [HL.out]; rfl, by rw [HL.out]; exact World.ownsRow_nil _ _ _ _, Below.refl _ _⟩
  · have hs : s.size ≤ 1000 := by omega
    have HL : Hid (¬ 1000 < s.data.toList.length) := by show ¬ _; rw [size_list]; omega
    clear h1
    cases he : ends 44 s.data.toList
    · have HE : Hid (ends 44 s.data.toList = false) := he
      have HS : Hid (splitS s.data.toList = ([], 3)) := by show _ = _; unfold splitS; rw [if_neg HL.out, if_pos he]
      clear he
      go_enter Tryz.func76, Tryz.ntmps76
      go_wp2_with fail
      refine (rparts_any s 44 _ hs).mono ?_
      rintro e w1 ⟨v, rfl, hown, hb⟩
      rw [HE.out]
      go_wp2_with fail
      go_ret2
      exact ⟨.slice none 0 0, by rw [HS.out]; rfl, by rw [HS.out]; exact World.ownsRow_nil _ _ _ _, hb⟩
    · have HE : Hid (ends 44 s.data.toList = true) := he
      have HS : Hid (splitS s.data.toList = if 20 < (kept (pieces 44 s.data.toList)).length then ([], 2) else (kept (pieces 44 s.data.toList), 0)) := by
        show _ = _; unfold splitS; rw [if_neg HL.out, if_neg (by rw [he]; simp)]
      clear he
      obtain ⟨P, hP⟩ : ∃ P, P = (pieces 44 s.data.toList).map trimL := ⟨_, rfl⟩
      have HP : Hid (P = (pieces 44 s.data.toList).map trimL) := hP
      have HK : Hid (kept (pieces 44 s.data.toList) = full P) := by show _ = _; rw [hP, full_kept]
      have HPL : Hid ((pieces 44 s.data.toList).length = P.length) := by show _ = _; rw [hP]; simp
      have hPl : P.length ≤ 1001 := by
        rw [hP]; unfold pieces
        have := cutS_len 44 s.data.toList
        rw [size_list] at this
        simp; omega
      clear hP
      go_enter Tryz.func76, Tryz.ntmps76
      go_wp2_with fail
      refine (rparts_any s 44 _ hs).mono ?_
      rintro e w1 ⟨v, rfl, hown, hb⟩
      rw [HE.out]
      rw [← HP.out, HPL.out] at hown
      obtain ⟨ad, cap, hv, hcm, hnc, hcells⟩ := own_slice hown
      subst hv
      unfold maxLen at hcm
      have HCL : Hid (0 < P.length → ∃ g, ad = some ⟨g, 0, none⟩ ∧ w.heap.size ≤ g ∧ g < w1.heap.size ∧ ∀ j, j < P.length → w1.cell? ⟨g, j, none⟩ = (strs P)[j]?) := hcells
      have hbs := hb.size
      clear hcells hown
      go_wp2_with fail
      go_loopw [6, 21] (fun v i wr => ∃ k : Nat, k ≤ P.length ∧ i = .int .i64 k ∧ wr.ownsRow w1.heap.size 9 1 v (full (P.take k)).length (strs (full (P.take k))) ∧ Below w1.heap.size w1 wr) (fun _ i _ => P.length - (intOf i).toNat)
      case atStart => exact ⟨0, by omega, rfl, World.ownsRow_nil _ _ _ _, Below.refl _ _⟩
      case round =>
        obtain ⟨k, hk, rfl, hown, hw⟩ := hrel
        have hsz := hw.size
        have hkl : (full (P.take k)).length ≤ 1001 := by
          have h1 := full_len (P.take k)
          have h2 := List.length_take_le k P
          omega
        by_cases hlt : k < P.length
        · obtain ⟨g, rfl, hgB, hgs, hce⟩ := HCL.out (by omega)
          have hcell : wr.cell? ⟨g, k, none⟩ = some (.string ⟨(P[k]).toArray⟩) := by
            rw [hw.cell (p := ⟨g, k, none⟩) hgs, hce k hlt]
            exact strs_get P k hlt
          obtain ⟨u, hu⟩ : ∃ u : ByteArray, u = ⟨(P[k]).toArray⟩ := ⟨_, rfl⟩
          rw [← hu] at hcell
          have HU : Hid (u = ⟨(P[k]).toArray⟩) := hu
          have HKS : Hid (full (P.take (k + 1)) = if (P[k]).isEmpty = true then full (P.take k) else full (P.take k) ++ [P[k]]) := by
            show _ = _; rw [take_one P k hlt, full_snoc]
          clear hce hu
          cases hem : u.toList.isEmpty
          · have HEM : Hid ((P[k]).isEmpty = false) := by
              show _ = _
              rw [ByteArray.toList_eq, HU.out] at hem
              exact hem
            go_wp2_with (at_builtin; refine wpList_append_own _ rfl _ _ 68 rfl w1.heap.size 9 i0 (.string ⟨#[]⟩) 1 16 Tryz.underlying68 hi hz0 hz1 hz2 rfl (by decide) _ _ _ rfl (hown.alloc _) ⟨wr.heap.size, 0, none⟩ 1 1 [.string u] rfl rfl ?c1 ?c2 ?c3 ?c4 ?c5 ?_)
            case c1 => exact one_cell _ _ _
            case c2 => intro x hx; simp at hx; subst hx; rfl
            case c3 => unfold maxLen; omega
            case c4 => omega
            case c5 => simp; omega
            · intro v' w4 hown' hgrow _
              have hB : Below w1.heap.size w1 w4 := (hw.alloc (by omega) _).grown hgrow (by simp; omega) (fun b hb => ((hown.alloc (.cells #[.string u] 9)).lt b hb).1)
              have hown4 : w4.ownsRow w1.heap.size 9 1 v' (full (P.take (k + 1))).length (strs (full (P.take (k + 1)))) := by
                rw [HKS.out, HEM.out]
                simp only [Bool.false_eq_true, if_false]
                rw [← strs_snoc, List.length_append, ← HU.out]; exact hown'
              clear hown' hgrow hown hw
              go_wp2_with fail
              go_roundw
              case rel => exact ⟨k + 1, by omega, by go_num, hown4, hB⟩
              case measure => simp [intOf]; omega
          · have HEM : Hid ((P[k]).isEmpty = true) := by
              show _ = _
              rw [ByteArray.toList_eq, HU.out] at hem
              exact hem
            go_wp2_with fail
            go_roundw
            case rel => exact ⟨k + 1, by omega, by go_num, by rw [HKS.out, if_pos HEM.out]; exact hown, hw⟩
            case measure => simp [intOf]; omega
        · obtain rfl : k = P.length := by omega
          rw [List.take_length] at hown hkl
          obtain ⟨ad2, cap2, hv2, hcm2, hnc2, _⟩ := own_slice hown
          subst hv2
          unfold maxLen at hcm2
          by_cases h20 : 20 < ((full P).length : Int)
          · have HR : Hid (splitS s.data.toList = ([], 2)) := by show _ = _; rw [HS.out, HK.out, if_pos (by omega)]
            go_wp2_with fail
            go_ret2
            exact ⟨.slice none 0 0, by rw [HR.out]; rfl, by rw [HR.out]; exact World.ownsRow_nil _ _ _ _, hb.trans (hw.mono hbs)⟩
          · have HR : Hid (splitS s.data.toList = (full P, 0)) := by show _ = _; rw [HS.out, HK.out, if_neg (by omega)]
            go_wp2_with fail
            go_ret2
            exact ⟨_, by rw [HR.out]; rfl, by rw [HR.out]; exact ownsRow_le' hown hbs, hb.trans (hw.mono hbs)⟩
end Go.Proofs.YtigbjhkkbgdkcabGreatDoor

/-
  What the function outside of the document's answers computes.
-/
namespace Go.Proofs.YtigbjhkkbgdkcabGreatDoor
open Go.RowKit

set_option maxHeartbeats 400000 in
set_option maxRecDepth 100000 in
theorem outside_any (a b c : Int) (w : World) :
    Calls Tryz.prog 107 #[.int .i64 a, .int .i64 b, .int .i64 c] w fun e w' => e = .returned (.bool (decide (a < b ∨ c < a))) ∧ w' = w := by
  by_cases h : a < b
  · rw [decide_eq_true (Or.inl h)]
    go_enter Tryz.func107, Tryz.ntmps107
    go_wp2
    go_ret
    exact ⟨rfl, rfl⟩
  · have hd : decide (a < b) = false := decide_eq_false h
    by_cases h2 : c < a
    · rw [decide_eq_true (Or.inr h2)]
      go_enter Tryz.func107, Tryz.ntmps107
      go_wp2
      go_ret
      exact ⟨ret_bool (by simp), rfl⟩
    · rw [decide_eq_false (by omega)]
      have hd2 : decide (c < a) = false := decide_eq_false h2
      go_enter Tryz.func107, Tryz.ntmps107
      go_wp2
      go_ret
      exact ⟨ret_bool (by simp), rfl⟩
end Go.Proofs.YtigbjhkkbgdkcabGreatDoor

/-
  What the functions plain and outside of the document's answers compute; a string is no longer than Go allows.
-/
namespace Go.Proofs.YtigbjhkkbgdkcabGreatDoor
open Go.RowKit

set_option maxHeartbeats 400000 in
set_option maxRecDepth 100000 in
theorem rplain_any (s : ByteArray) (w : World) (hs : s.size ≤ maxLen) :
    Calls Tryz.prog 102 #[.string s] w fun e w' => e = .returned (.bool (allPlain s.data.toList)) ∧ w' = w := by
  unfold maxLen at hs
  go_enter Tryz.func102, Tryz.ntmps102
  go_wp2_with fail
  go_loop [6] (fun i => ∃ k : Nat, k ≤ s.size ∧ i = .int .i64 k ∧ allPlain (s.data.toList.take k) = true) (fun i => s.size - (intOf i).toNat)
  case atStart => exact ⟨0, Nat.zero_le _, rfl, rfl⟩
  case round =>
    obtain ⟨k, hk, rfl, hall⟩ := hrel
    have HA : Hid (allPlain (s.data.toList.take k) = true) := hall
    clear hall
    by_cases hlt : k < s.size
    · have hc1 : (s[k].toNat : Int) < 256 := by have := s[k].toNat_lt; omega
      by_cases h9 : (s[k].toNat : Int) = 9
      · have hd : ((s[k].toNat : Int) != 9) = false := by simp [h9]
        have HP : Hid (plainB s[k] = true) := by show plainB s[k] = true; rw [plainB_iff]; simp [h9]
        clear h9
        go_wp2_with fail
        go_round
        case rel => exact ⟨k + 1, by omega, by go_num, by rw [take_snoc s k hlt]; exact allPlain_snoc _ _ HA.out HP.out⟩
        case measure => simp [intOf]; omega
      · have hd : ((s[k].toNat : Int) != 9) = true := by simp [h9]
        by_cases ho : (s[k].toNat : Int) < 32 ∨ 126 < (s[k].toNat : Int)
        · have HP : Hid (plainB s[k] = false) := by show plainB s[k] = false; rw [plainB_iff, decide_eq_false]; omega
          have HO : Hid ((s[k].toNat : Int) < 32 ∨ 126 < (s[k].toNat : Int)) := ho
          clear h9 ho
          go_wp2_with fail
          refine (outside_any _ _ _ _).mono ?_
          rintro e w' ⟨rfl, rfl⟩
          rw [decide_eq_true HO.out]
          go_wp2_with fail
          go_ret
          exact ⟨ret_bool (allPlain_dead s k hlt HP.out).symm, rfl⟩
        · have HP : Hid (plainB s[k] = true) := by show plainB s[k] = true; rw [plainB_iff, decide_eq_true]; omega
          have HO : Hid (¬ ((s[k].toNat : Int) < 32 ∨ 126 < (s[k].toNat : Int))) := ho
          clear h9 ho
          go_wp2_with fail
          refine (outside_any _ _ _ _).mono ?_
          rintro e w' ⟨rfl, rfl⟩
          rw [decide_eq_false HO.out]
          go_wp2_with fail
          go_round
          case rel => exact ⟨k + 1, by omega, by go_num, by rw [take_snoc s k hlt]; exact allPlain_snoc _ _ HA.out HP.out⟩
          case measure => simp [intOf]; omega
    · obtain rfl : k = s.size := by omega
      go_wp2_with fail
      go_ret
      have h := HA.out
      rw [take_all] at h
      exact ⟨ret_bool h.symm, rfl⟩
end Go.Proofs.YtigbjhkkbgdkcabGreatDoor

/-
  What Unquote of the document's answers computes; the string fits in Go's limits.
-/
namespace Go.Proofs.YtigbjhkkbgdkcabGreatDoor
open Go.RowKit

theorem one_list (s : ByteArray) (k : Nat) (h : k < s.size) : (s.extract k (k + 1)).toList = [s[k]] := by
  rw [extract_one s k h, ByteArray.toList_eq]
theorem first_eq (s : ByteArray) (h : 0 < s.size) (b : Bool) (hb : decide ((s[0].toNat : Int) = 34) = b) : ((s.extract 0 1).toList == [34]) = b := by
  rw [one_list s 0 h, ← hb, Bool.eq_iff_iff]
  simp
  constructor
  · intro e; rw [e]; rfl
  · intro e; exact eq_of_int _ 34 (by simpa using e)
theorem last_eq (s : ByteArray) (h : s.size - 1 < s.size) (b : Bool) (hb : decide ((s[s.size - 1].toNat : Int) = 34) = b) : ((s.extract (s.size - 1) s.size).toList == [34]) = b := by
  have e : s.extract (s.size - 1) s.size = s.extract (s.size - 1) (s.size - 1 + 1) := by congr 1; omega
  rw [e, one_list s (s.size - 1) h, ← hb, Bool.eq_iff_iff]
  simp
  constructor
  · intro e; rw [e]; rfl
  · intro e; exact eq_of_int _ 34 (by simpa using e)

theorem unesc_plain (l : List UInt8) (h : unesc l ≠ none) : allPlain l = true := by
  have gen : ∀ (l : List UInt8) x, l.foldl ustep x ≠ none → allPlain l = true := by
    intro l
    induction l with
    | nil => intro x h; rfl
    | cons c l ih =>
      intro x h
      rw [List.foldl_cons] at h
      cases hp : plainB c
      · rw [ustep_bad _ _ hp, ustep_none] at h
        exact absurd rfl h
      · have := ih _ h
        unfold allPlain at *
        rw [List.all_cons, hp, this]; rfl
  exact gen l _ h

theorem mid_plain (s : ByteArray) (hq : quoted s.data.toList = true) (h : allPlain s.data.toList = false) : allPlain (mid s.data.toList) = false := by
  unfold quoted at hq
  simp only [Bool.and_eq_true, decide_eq_true_eq, beq_iff_eq] at hq
  obtain ⟨⟨h2, h0⟩, h1⟩ := hq
  generalize s.data.toList = l at *
  cases hm : allPlain (mid l)
  · rfl
  · exfalso
    have e : l = 34 :: (mid l ++ [34]) := by
      match l, h2 with
      | a :: b :: r, _ =>
        simp only [List.getElem?_cons_zero, Option.some.injEq] at h0
        subst h0
        have hd : mid (34 :: b :: r) ++ [34] = b :: r := by
          have hne : (b :: r) ≠ [] := by simp
          have hl := List.dropLast_concat_getLast hne
          have hg : (b :: r).getLast hne = 34 := by
            rw [List.getLast_eq_getElem]
            have h1' : (34 :: b :: r)[(34 :: b :: r).length - 1]? = some 34 := h1
            simp only [List.length_cons, Nat.add_sub_cancel] at h1' ⊢
            rw [List.getElem?_cons_succ] at h1'
            exact (List.getElem?_eq_some_iff.1 h1').2
          rw [hg] at hl
          rw [← hl]
          congr 1
          simp [mid, List.dropLast_eq_take]
        rw [hd]
    rw [e] at h
    unfold allPlain at *
    rw [List.all_cons, List.all_append, hm] at h
    revert h
    decide

theorem unq_unplain (s : ByteArray) (h : allPlain s.data.toList = false) : unq s.data.toList = ([], 3) := by
  cases hq : quoted s.data.toList
  · exact unq_no _ hq
  · apply unq_bad
    have hm := mid_plain s hq h
    unfold unescOk
    cases hu : unesc (mid s.data.toList) with
    | none => rfl
    | some x => rw [unesc_plain _ (by rw [hu]; simp)] at hm; cases hm

theorem unq_dead (l : List UInt8) (h : unesc (mid l) = none) : unq l = ([], 3) := by
  apply unq_bad; unfold unescOk; rw [h]
theorem unq_open (l acc : List UInt8) (h : unesc (mid l) = some (acc, true)) : unq l = ([], 3) := by
  apply unq_bad; unfold unescOk; rw [h]; rfl
theorem unq_large (l acc : List UInt8) (hq : quoted l = true) (h : unesc (mid l) = some (acc, false)) (hl : 1000 < acc.length) : unq l = ([], 2) := by
  apply unq_long l hq
  · unfold unescOk; rw [h]; rfl
  · unfold unescT; rw [h]; exact hl
theorem unq_fine (l acc : List UInt8) (hq : quoted l = true) (h : unesc (mid l) = some (acc, false)) (hl : ¬ 1000 < acc.length) : unq l = (acc, 0) := by
  rw [unq_ok l hq]
  · unfold unescT; rw [h]
  · unfold unescOk; rw [h]; rfl
  · unfold unescT; rw [h]; exact hl

theorem mid_size (s : ByteArray) : (s.extract 1 (s.size - 1)).size = s.size - 2 := by rw [ByteArray.size_extract]; omega
theorem mid_get (s : ByteArray) (m : Nat) (h : m + 1 < s.size) (h' : m < (s.extract 1 (s.size - 1)).size) : (s.extract 1 (s.size - 1))[m] = s[m + 1] := by
  have e := unq_get (s.extract 1 (s.size - 1)) m h'
  rw [Lib.extract_data, List.getElem?_take_of_lt (by rw [mid_size] at h'; omega), List.getElem?_drop, Nat.add_comm, unq_get s (m + 1) h] at e
  exact (Option.some.inj e).symm
theorem plain_at (s : ByteArray) (h : allPlain s.data.toList = true) (k : Nat) (hk : k < s.size) : plainB s[k] = true := by
  cases hp : plainB s[k]
  · rw [allPlain_dead s k hk hp] at h; cases h
  · rfl

theorem app_one (t : ByteArray) (c : UInt8) : (t ++ ⟨#[c]⟩ : ByteArray).data.toList = t.data.toList ++ [c] := by
  rw [ByteArray.data_append, Array.toList_append]

set_option maxHeartbeats 4000000 in
set_option maxRecDepth 100000 in
theorem runquote_at (s t : ByteArray) (n : Int) (hu : unq s.data.toList = (t.data.toList, n)) (w : World) (hs : s.size ≤ 140737488351232) :
    Calls Tryz.prog 79 #[.string s] w fun e w' => e = .returned (.tuple #[.string t, .int .i64 n]) ∧ w' = w := by
  have fin : ∀ t' : ByteArray, ∀ n' : Int, unq s.data.toList = (t'.data.toList, n') → (t' = t ∧ n' = n) := by
    intro t' n' h
    rw [hu, Prod.mk.injEq] at h
    refine ⟨?_, h.2.symm⟩
    apply ByteArray.ext
    apply Array.ext'
    exact h.1.symm
  have HF : Hid (∀ t' : ByteArray, ∀ n' : Int, unq s.data.toList = (t'.data.toList, n') → (t' = t ∧ n' = n)) := fin
  have HM : Hid (s.size ≤ maxLen) := by show s.size ≤ maxLen; unfold maxLen; omega
  clear fin hu
  by_cases h2 : s.size < 2
  · have HQ : Hid (quoted s.data.toList = false) := quoted_short s h2
    go_enter Tryz.func79, Tryz.ntmps79
    go_wp2_with fail
    go_ret2
    obtain ⟨e1, e2⟩ := HF.out ⟨#[]⟩ 3 (unq_no _ HQ.out)
    exact ⟨ret_err e1 e2, rfl⟩
  · have hl : s.size - 1 < s.size := by omega
    have h0 : 0 < s.size := by omega
    have hz : decide ((s.size : Int) < 2) = false := by simp; omega
    have h2' : 2 ≤ (s.size : Int) := by omega
    clear h2
    by_cases hq : (s[0].toNat : Int) = 34
    · have hd := first_eq s h0 true (decide_eq_true hq)
      by_cases hq1 : (s[s.size - 1].toNat : Int) = 34
      · have hd1 := last_eq s hl true (decide_eq_true hq1)
        have HQ : Hid (quoted s.data.toList = true) := quoted_yes s (by omega) hq hq1
        clear hq hq1
        cases hp : allPlain s.data.toList
        · have HP : Hid (allPlain s.data.toList = false) := hp
          clear hp
          go_enter Tryz.func79, Tryz.ntmps79
          go_wp2_with fail
          refine (rplain_any _ _ HM.out).mono ?_
          rintro e w' ⟨rfl, rfl⟩
          rw [HP.out]
          go_wp2_with fail
          go_ret2
          obtain ⟨e1, e2⟩ := HF.out ⟨#[]⟩ 3 (unq_unplain _ HP.out)
          exact ⟨ret_err e1 e2, rfl⟩
        · have HP : Hid (allPlain s.data.toList = true) := hp
          clear hp
          go_enter Tryz.func79, Tryz.ntmps79
          go_wp2_with fail
          refine (rplain_any _ _ HM.out).mono ?_
          rintro e w' ⟨rfl, rfl⟩
          rw [HP.out]
          go_wp2_with fail
          clear hd hd1
          go_loop [4, 5, 6] (fun o c i => ∃ (m : Nat) (u : ByteArray) (cnt : Bool), m + 2 ≤ s.size ∧ i = .int .i64 ((m : Int) + 1) ∧ o = .string u ∧ c = .bool cnt ∧ unesc ((s.extract 1 (s.size - 1)).data.toList.take m) = some (u.data.toList, cnt)) (fun _ _ i => s.size - (intOf i).toNat)
          case atStart => exact ⟨0, ⟨#[]⟩, false, by omega, rfl, rfl, rfl, rfl⟩
          case round =>
            obtain ⟨m, u, cnt, hm, rfl, rfl, rfl, hu⟩ := hrel
            have hul : u.size ≤ 140737488351232 := by
              have h1 := unesc_len _ _ _ hu
              have h2 := List.length_take_le m (s.extract 1 (s.size - 1)).data.toList
              rw [size_list] at h1
              omega
            have HU : Hid (unesc ((s.extract 1 (s.size - 1)).data.toList.take m) = some (u.data.toList, cnt)) := hu
            clear hu
            by_cases hlt : m + 2 < s.size
            · have hlt1 : m + 1 < s.size := by omega
              have hmm : m < (s.extract 1 (s.size - 1)).size := by rw [mid_size]; omega
              have HG : Hid ((s.extract 1 (s.size - 1))[m] = s[m + 1]) := mid_get s m hlt1 hmm
              have HPL : Hid (plainB s[m + 1] = true) := plain_at s HP.out (m + 1) hlt1
              have HMM : Hid (m < (s.extract 1 (s.size - 1)).size) := hmm
              have HE : Hid (s.extract (m + 1) (m + 1 + 1) = ⟨#[s[m + 1]]⟩) := extract_one s (m + 1) hlt1
              have hc1 : (s[m + 1].toNat : Int) < 256 := by have := s[m + 1].toNat_lt; omega
              have HS : Hid (∀ x, ustep (some (u.data.toList, cnt)) s[m + 1] = x → unesc ((s.extract 1 (s.size - 1)).data.toList.take (m + 1)) = x) := by
                intro x hx
                rw [take_snoc _ m HMM.out, unesc_snoc, HU.out, HG.out, hx]
              cases cnt
              · by_cases h92 : (s[m + 1].toNat : Int) = 92
                · have hd2 : ((s[m + 1].toNat : Int) == 92) = true := by simp [h92]
                  have H92 : Hid ((s[m + 1].toNat : Int) = 92) := h92
                  clear h92
                  go_wp2_with fail
                  go_round
                  case rel => exact ⟨m + 1, u, true, by omega, by go_num, rfl, rfl, HS.out _ (ustep_back _ _ (eq_of_int _ 92 H92.out))⟩
                  case measure => simp [intOf]; omega
                · have hd2 : ((s[m + 1].toNat : Int) == 92) = false := by simp [h92]
                  have H92 : Hid ((s[m + 1].toNat : Int) ≠ 92) := h92
                  clear h92
                  by_cases h34 : (s[m + 1].toNat : Int) = 34
                  · have hd3 : ((s[m + 1].toNat : Int) == 34) = true := by simp [h34]
                    have H34 : Hid ((s[m + 1].toNat : Int) = 34) := h34
                    clear h34
                    go_wp2_with fail
                    go_ret2
                    have hn := unesc_dead _ m HMM.out _ HU.out (by rw [HG.out]; exact ustep_quote _ _ (eq_of_int _ 34 H34.out))
                    rw [mid_extract] at hn
                    obtain ⟨e1, e2⟩ := HF.out ⟨#[]⟩ 3 (unq_dead _ hn)
                    exact ⟨ret_err e1 e2, rfl⟩
                  · have hd3 : ((s[m + 1].toNat : Int) == 34) = false := by simp [h34]
                    have H34 : Hid ((s[m + 1].toNat : Int) ≠ 34) := h34
                    clear h34
                    go_wp2_with fail
                    go_round
                    case rel => exact ⟨m + 1, _, false, by omega, by go_num, rfl, rfl, by rw [HE.out, app_one]; exact HS.out _ (ustep_else _ _ HPL.out (ne_of_int _ 34 H34.out) (ne_of_int _ 92 H92.out))⟩
                    case measure => simp [intOf]; omega
              · go_wp2_with fail
                go_round
                case rel => exact ⟨m + 1, _, false, by omega, by go_num, rfl, rfl, by rw [HE.out, app_one]; exact HS.out _ (ustep_took _ _ HPL.out)⟩
                case measure => simp [intOf]; omega
            · have hn := HU.out
              rw [List.take_of_length_le (by rw [size_list, mid_size]; omega), mid_extract] at hn
              have HN : Hid (unesc (mid s.data.toList) = some (u.data.toList, cnt)) := hn
              clear hn
              cases cnt
              · by_cases hlen : 1000 < (u.size : Int)
                · go_wp2_with fail
                  go_ret2
                  obtain ⟨e1, e2⟩ := HF.out ⟨#[]⟩ 2 (unq_large _ _ HQ.out HN.out (by rw [size_list]; omega))
                  exact ⟨ret_err e1 e2, rfl⟩
                · go_wp2_with fail
                  go_ret2
                  obtain ⟨e1, e2⟩ := HF.out u 0 (unq_fine _ _ HQ.out HN.out (by rw [size_list]; omega))
                  exact ⟨ret_err e1 e2, rfl⟩
              · go_wp2_with fail
                go_ret2
                obtain ⟨e1, e2⟩ := HF.out ⟨#[]⟩ 3 (unq_open _ _ HN.out)
                exact ⟨ret_err e1 e2, rfl⟩
      · have hd1 := last_eq s hl false (decide_eq_false hq1)
        have HQ : Hid (quoted s.data.toList = false) := quoted_last s hl hq1
        clear hq hq1
        go_enter Tryz.func79, Tryz.ntmps79
        go_wp2_with fail
        go_ret2
        obtain ⟨e1, e2⟩ := HF.out ⟨#[]⟩ 3 (unq_no _ HQ.out)
        exact ⟨ret_err e1 e2, rfl⟩
    · have hd := first_eq s h0 false (decide_eq_false hq)
      have HQ : Hid (quoted s.data.toList = false) := quoted_first s h0 hq
      clear hq
      go_enter Tryz.func79, Tryz.ntmps79
      go_wp2_with fail
      go_ret2
      obtain ⟨e1, e2⟩ := HF.out ⟨#[]⟩ 3 (unq_no _ HQ.out)
      exact ⟨ret_err e1 e2, rfl⟩
end Go.Proofs.YtigbjhkkbgdkcabGreatDoor

/-
  Parts of a text, as laws of the slice operation.
-/
namespace Go.Proofs.YtigbjhkkbgdkcabGreatDoor
open Go.RowKit

theorem slice_from (s : ByteArray) (a : Nat) (ha : a ≤ s.size) : ∃ r : ByteArray, r.data.toList = s.data.toList.drop a ∧ r.size = s.size - a ∧ ∀ w, (Instr.slice 9 (.string s) (some (.int .i64 (a : Int))) none none).run Tryz.prog w = .ok (.string r) w := by
  refine ⟨s.extract a s.size, ?_, ?_, fun w => ?_⟩
  · rw [Lib.extract_data, List.take_of_length_le (by rw [List.length_drop, size_list]; omega)]
  · rw [ByteArray.size_extract]; omega
  · rw [run_slice_string_l w 9 s Tryz.underlying9 .i64 (a : Int) (by omega) (by omega)]; rfl
theorem slice_part (s : ByteArray) (a b : Nat) (ha : a ≤ b) (hb : b ≤ s.size) : ∃ r : ByteArray, r.data.toList = (s.data.toList.drop a).take (b - a) ∧ r.size = b - a ∧ ∀ w, (Instr.slice 9 (.string s) (some (.int .i64 (a : Int))) (some (.int .i64 (b : Int))) none).run Tryz.prog w = .ok (.string r) w := by
  refine ⟨s.extract a b, ?_, ?_, fun w => ?_⟩
  · rw [Lib.extract_data]
  · rw [ByteArray.size_extract]; omega
  · rw [run_slice_string w 9 s .i64 .i64 _ _ Tryz.underlying9 (by omega) (by omega) (by omega)]; rfl
theorem slice_to (s : ByteArray) (b : Nat) (hb : b ≤ s.size) : ∃ r : ByteArray, r.data.toList = s.data.toList.take b ∧ r.size = b ∧ ∀ w, (Instr.slice 9 (.string s) none (some (.int .i64 (b : Int))) none).run Tryz.prog w = .ok (.string r) w := by
  refine ⟨s.extract 0 b, ?_, ?_, fun w => ?_⟩
  · rw [Lib.extract_data]; simp
  · rw [ByteArray.size_extract]; omega
  · rw [run_slice_string_h w 9 s Tryz.underlying9 .i64 (b : Int) (by omega) (by omega)]; rfl
end Go.Proofs.YtigbjhkkbgdkcabGreatDoor
