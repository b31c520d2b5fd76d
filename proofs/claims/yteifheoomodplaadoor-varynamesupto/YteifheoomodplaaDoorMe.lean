/-
  The walk through VaryMore: it answers true and turns nothing that was there.
-/
import Derived.Test.YteifheoomodplaaDoorMd
import Derived.Lib.Case
namespace Go.Proofs.YteifheoomodplaaDoor
open Go.RowKit

theorem vM_first (l a b : List Fld) (h : (vV l).2.2 = 0) : (vM l a b).2 = 0 := by
  unfold vM
  rw [if_neg (by rw [h]; simp)]
set_option maxHeartbeats 4000000 in
set_option maxRecDepth 100000 in
theorem walkVaryMore (a0 : Value) (l0 : List Fld) (a1 : Value) (l1 : List Fld) (a2 : Value) (l2 : List Fld) (a3 a4 : ByteArray) (w : World) (z0 : Fl w a0 l0) (b0 : bulkF l0 ≤ 1048576) (z1 : Fl w a1 l1) (b1 : bulkF l1 ≤ 1048576) (z2 : Fl w a2 l2) (b2 : bulkF l2 ≤ 1048576) (z3 : a3.size ≤ 1048576) (z4 : a4.size ≤ 1048576) :
    Calls Tryd.prog 5 #[a0, a1, a2, .string a3, .string a4] w fun e w' => e = .returned (.bool true) ∧ Below w.heap.size w w' := by
  have s3 := size_list a3
  have s4 := size_list a4
  have H0 : Hid (Fl w a0 l0) := z0
  have H1 : Hid (Fl w a1 l1) := z1
  have H2 : Hid (Fl w a2 l2) := z2
  have W0 : Hid (Wide l0) := wide_bulk l0 b0
  have W1 : Hid (Wide l1) := wide_bulk l1 b1
  have W2 : Hid (Wide l2) := wide_bulk l2 b2
  have J0 : Hid (JoinsV l0) := joins_bulk' l0 (by omega)
  have J1 : Hid (JoinsV l1) := joins_bulk' l1 (by omega)
  have J2 : Hid (JoinsV l2) := joins_bulk' l2 (by omega)
  obtain ⟨N, hN⟩ : ∃ N, vV l0 = N := ⟨_, rfl⟩
  obtain ⟨ns, st, c⟩ := N
  obtain ⟨X, hX⟩ : ∃ X, vM l0 l1 l2 = X := ⟨_, rfl⟩
  obtain ⟨x, f0⟩ := X
  obtain ⟨A, hA⟩ : ∃ A, setS a3.data.toList a4.data.toList l1 = A := ⟨_, rfl⟩
  obtain ⟨Y, hY⟩ : ∃ Y, vM l0 A l2 = Y := ⟨_, rfl⟩
  obtain ⟨y, f⟩ := Y
  obtain ⟨low, hlow⟩ : ∃ low : ByteArray, low.data.toList = lower a3.data.toList := ⟨⟨(lower a3.data.toList).toArray⟩, rfl⟩
  obtain ⟨hs, hhs⟩ : ∃ hs, ns.contains low.data.toList = hs := ⟨_, rfl⟩
  obtain ⟨s, hss⟩ : ∃ s : ByteArray, s.data.toList = jn (vals l0 nVary) := ⟨⟨(jn (vals l0 nVary)).toArray⟩, rfl⟩
  obtain ⟨p, hp⟩ : ∃ p, (!(vals l0 nVary).isEmpty) = p := ⟨_, rfl⟩
  have ssz : s.size ≤ 1048576 := by rw [← size_list, hss]; exact Nat.le_trans (jn_bulk _ _) b0
  obtain ⟨q, hq⟩ : ∃ q : ByteArray, q = if p = true then s ++ (⟨#[44]⟩ : ByteArray) ++ a3 else a3 := ⟨_, rfl⟩
  have hql : q.data.toList = if p = true then s.data.toList ++ 44 :: a3.data.toList else a3.data.toList := by
    rw [hq]
    cases p <;> simp
  have qsz : q.data.toList.length ≤ 2097153 := by
    rw [hql]
    have := size_list s
    split
    · simp only [List.length_append, List.length_cons]; omega
    · omega
  obtain ⟨L, hL⟩ : ∃ L, setS nVary q.data.toList l0 = L := ⟨_, rfl⟩
  obtain ⟨Z, hZ⟩ : ∃ Z, vM L l1 l2 = Z := ⟨_, rfl⟩
  obtain ⟨z, g⟩ := Z
  have bA : bulkF A ≤ 4194304 := by
    have := bulk_set a3.data.toList a4.data.toList l1
    rw [hA] at this
    omega
  have bL : bulkF L ≤ 4194304 := by
    have := bulk_set nVary q.data.toList l0
    rw [hL] at this
    have h4 : nVary.length = 4 := rfl
    omega
  have WA : Hid (Wide A) := wide_bulk4 A bA
  have JA : Hid (JoinsV A) := joins_bulk' A (by omega)
  have WL : Hid (Wide L) := wide_bulk4 L bL
  have JL : Hid (JoinsV L) := joins_bulk' L (by omega)
  have HF1 : Hid (c = 0 → hs = false → y = x ∧ f = 0) := by
    show _ → _ → _
    intro hc hh
    have e1 : (vV l0).1.contains (lower a3.data.toList) = false := by rw [hN, ← hlow, hhs, hh]
    have e2 := vM_other l0 l1 l2 a3.data.toList a4.data.toList e1
    have e3 := vM_first l0 l1 l2 (by rw [hN]; exact hc)
    rw [hA, hY, hX] at e2
    rw [hX] at e3
    exact ⟨(Prod.mk.inj e2).1, (Prod.mk.inj e2).2.trans e3⟩
  have HF2 : Hid (c = 0 → token a3.data.toList = true → z = true → g = 0 → x = true) := by
    show _ → _ → _ → _ → _
    intro hc ht hz hg
    have e2 := vM_more l0 l1 l2 a3.data.toList q.data.toList ht (by rw [hql, hss, hp]) (by rw [hN]; exact hc) (by rw [hL, hZ, hz, hg])
    rw [hX] at e2
    exact e2
  have HN : Hid (vV l0 = (ns, st, c)) := hN
  have HX : Hid (vM l0 l1 l2 = (x, f0)) := hX
  have HA : Hid (setS a3.data.toList a4.data.toList l1 = A) := hA
  have HY : Hid (vM l0 A l2 = (y, f)) := hY
  have HLOW : Hid (low.data.toList = lower a3.data.toList) := hlow
  have HHS : Hid (ns.contains low.data.toList = hs) := hhs
  have HS : Hid (s.data.toList = jn (vals l0 (⟨#[86, 97, 114, 121]⟩ : ByteArray).data.toList)) := hss
  have HP : Hid (p = (!(vals l0 (⟨#[86, 97, 114, 121]⟩ : ByteArray).data.toList).isEmpty)) := hp.symm
  have HQ : Hid (q = if p = true then s ++ (⟨#[44]⟩ : ByteArray) ++ a3 else a3) := hq
  have HL : Hid (setS (⟨#[86, 97, 114, 121]⟩ : ByteArray).data.toList q.data.toList l0 = L) := hL
  have HZ : Hid (vM L l1 l2 = (z, g)) := hZ
  have qs : q.size ≤ 2097153 := by rw [← size_list]; exact qsz
  clear z0 z1 z2 hN hX hA hY hlow hhs hss hp hq hql qsz hL hZ bA bL s3 s4
  go_enter Tryd.func5, Tryd.ntmps5
  go_wp2_with fail
  refine (vnames_at a0 l0 _ H0.out W0.out (J0.out _)).mono ?_
  rintro e w1 ⟨v1, rfl, hown1, hb1⟩
  rw [HN.out] at hown1 ⊢
  have HO1 : Hid (w1.ownsRow w.heap.size 9 1 v1 ns.length (strs ns)) := hown1
  have HB1 : Hid (Below w.heap.size w w1) := hb1
  clear hown1 hb1
  go_wp2_with fail
  refine (vmatch_nil _).mono ?_
  rintro e w2 ⟨rfl, hb2⟩
  have HO2 : Hid (w2.ownsRow w.heap.size 9 1 v1 ns.length (strs ns)) := own_below2 HO1.out hb2
  have HB2 : Hid (Below w.heap.size w w2) := HB1.out.trans (hb2.mono HB1.out.size)
  clear hb2 HO1 HB1
  by_cases hc : c = 0
  case neg =>
    have hcb : (c == 0) = false := beq_eq_false_iff_ne.2 hc
    clear HF1 HF2
    go_wp2_with fail
    go_ret
    exact ⟨by simp, HB2.out⟩
  subst hc
  cases st
  case true =>
    clear HF1 HF2
    go_wp2_with fail
    go_ret
    exact ⟨by simp, HB2.out⟩
  cases htk : token a3.data.toList
  · have HTK : Hid (token a3.data.toList = false) := htk
    clear htk HF1 HF2
    go_wp2_with fail
    refine (isToken_any a3 _ (by unfold maxLen; omega)).mono ?_
    rintro e w' ⟨rfl, rfl⟩
    rw [HTK.out]
    go_wp2_with fail
    go_ret
    exact ⟨by simp, HB2.out⟩
  have HTK : Hid (token a3.data.toList = true) := htk
  clear htk
  cases hse : (a3.toList == [42])
  case true =>
    clear HF1 HF2
    go_wp2_with fail
    refine (isToken_any a3 _ (by unfold maxLen; omega)).mono ?_
    rintro e w' ⟨rfl, rfl⟩
    rw [HTK.out]
    go_wp2_with fail
    go_ret
    exact ⟨by simp, HB2.out⟩
  go_wp2_with fail
  refine (isToken_any a3 _ (by unfold maxLen; omega)).mono ?_
  rintro e w' ⟨rfl, rfl⟩
  rw [HTK.out]
  go_wp2_with fail
  refine (vmatch_at a0 a1 a2 l0 l1 l2 _ (H0.out.below HB2.out) (H1.out.below HB2.out) (H2.out.below HB2.out) W0.out W1.out W2.out J0.out J1.out J2.out).mono ?_
  rintro e w3 ⟨rfl, hb3⟩
  rw [HX.out]
  have HO3 : Hid (w3.ownsRow w.heap.size 9 1 v1 ns.length (strs ns)) := own_below2 HO2.out hb3
  have HB3 : Hid (Below w.heap.size w w3) := HB2.out.trans (hb3.mono HB2.out.size)
  clear hb3 HO2 HB2
  go_wp2_with fail
  refine (set_any a1 l1 a3 a4 _ (H1.out.below HB3.out) W1.out (by omega) (by omega)).mono ?_
  rintro e w4 ⟨v4, rfl, hown4, hb4⟩
  rw [HA.out] at hown4
  have HFA : Hid (Fl w4 v4 A) := Fl.own hown4
  have HO4 : Hid (w4.ownsRow w.heap.size 9 1 v1 ns.length (strs ns)) := own_below2 HO3.out hb4
  have HB4 : Hid (Below w.heap.size w w4) := HB3.out.trans (hb4.mono HB3.out.size)
  clear hown4 hb4 HO3 HB3
  go_wp2_with fail
  refine (vmatch_at a0 v4 a2 l0 A l2 _ (H0.out.below HB4.out) HFA.out (H2.out.below HB4.out) W0.out WA.out W2.out J0.out JA.out J2.out).mono ?_
  rintro e w5 ⟨rfl, hb5⟩
  rw [HY.out]
  have HO5 : Hid (w5.ownsRow w.heap.size 9 1 v1 ns.length (strs ns)) := own_below2 HO4.out hb5
  have HB5 : Hid (Below w.heap.size w w5) := HB4.out.trans (hb5.mono HB4.out.size)
  clear hb5 HO4 HB4 HFA
  go_wp2_with fail
  refine (lower_at a3 low HLOW.out _ (by omega)).mono ?_
  rintro e w6 ⟨rfl, hb6⟩
  have HO6 : Hid (w6.ownsRow w.heap.size 9 1 v1 ns.length (strs ns)) := own_below2 HO5.out hb6
  have HB6 : Hid (Below w.heap.size w w6) := HB5.out.trans (hb6.mono HB5.out.size)
  clear hb6 HO5 HB5
  go_wp2_with fail
  refine (rhasS_at v1 ns ns.length _ low rfl _ HO6.out).mono ?_
  rintro e w' ⟨rfl, rfl⟩
  rw [HHS.out]
  have hgo : hs = true ∨ hs = false ∧ y = x ∧ f = 0 := by
    cases hs
    · exact .inr ⟨rfl, HF1.out trivial rfl⟩
    · exact .inl rfl
  clear HF1 HHS HO6
  rcases hgo with rfl | ⟨rfl, rfl, rfl⟩
  all_goals
    have hxx : (y == y) = true := by cases y <;> rfl
    go_wp2_with fail
    refine (get_at a0 l0 _ s p HS.out HP.out _ (H0.out.below HB6.out) W0.out (by decide) (by omega)).mono ?_
    rintro e w7 ⟨rfl, hb7⟩
    have HB7 : Hid (Below w.heap.size w w7) := HB6.out.trans (hb7.mono HB6.out.size)
    clear hb7 hxx HS HP
    cases p
    case' true =>
      obtain rfl : q = s ++ (⟨#[44]⟩ : ByteArray) ++ a3 := HQ.out
      clear HQ
    case' false =>
      obtain rfl : q = a3 := HQ.out
      clear HQ
    all_goals
      go_wp2_with fail
      refine (set_any a0 l0 _ _ _ (H0.out.below HB7.out) W0.out (by decide) (by omega)).mono ?_
      rintro e w8 ⟨v8, rfl, hown8, hb8⟩
      rw [HL.out] at hown8
      have HFL : Hid (Fl w8 v8 L) := Fl.own hown8
      have HB8 : Hid (Below w.heap.size w w8) := HB7.out.trans (hb8.mono HB7.out.size)
      clear hown8 hb8
      go_wp2_with fail
      refine (vmatch_at v8 a1 a2 L l1 l2 _ HFL.out (H1.out.below HB8.out) (H2.out.below HB8.out) WL.out W1.out W2.out JL.out J1.out J2.out).mono ?_
      rintro e w9 ⟨rfl, hb9⟩
      rw [HZ.out]
      have HB9 : Hid (Below w.heap.size w w9) := HB8.out.trans (hb9.mono HB8.out.size)
      have hf2 := HF2.out trivial HTK.out
      clear hb9 HF2 HL HZ HFL HB8
      by_cases hg : g = 0
      · subst hg
        cases z
        · clear hf2
          go_wp2_with fail
          go_ret
          exact ⟨by simp, HB9.out⟩
        · obtain rfl := hf2 rfl rfl
          go_wp2_with fail
          go_ret
          exact ⟨by simp, HB9.out⟩
      · have hgb : (g == 0) = false := beq_eq_false_iff_ne.2 hg
        clear hf2
        go_wp2_with fail
        go_ret
        exact ⟨by simp, HB9.out⟩
end Go.Proofs.YteifheoomodplaaDoor

/-
  A list of tokens that is written in capitals, and again behind a comma: the same names; over plain lists, no program is named here.
-/
namespace Go.Proofs.YteifheoomodplaaDoor
open Go.RowKit

def upT (l : Txt) : Txt := Lib.toUpperA l
theorem up_low (c : UInt8) : low (Lib.upperB c) = low c := by
  have := byAll (fun c => low (Lib.upperB c) == low c) (by decide +kernel) c
  simpa using this
theorem up_blank (c : UInt8) : blank (Lib.upperB c) = blank c := by
  have := byAll (fun c => blank (Lib.upperB c) == blank c) (by decide +kernel) c
  simpa using this
theorem up_at (c : UInt8) : (Lib.upperB c = 44 ↔ c = 44) ∧ (Lib.upperB c = 34 ↔ c = 34) ∧ (Lib.upperB c = 42 ↔ c = 42) := by
  have := byAll (fun c => (decide (Lib.upperB c = 44) == decide (c = 44)) && (decide (Lib.upperB c = 34) == decide (c = 34)) && (decide (Lib.upperB c = 42) == decide (c = 42))) (by decide +kernel) c
  simp only [Bool.and_eq_true, beq_iff_eq, decide_eq_decide] at this
  exact ⟨this.1.1, this.1.2, this.2⟩
theorem tok_ascii (c : UInt8) (h : isTok c = true) : c.toNat < 128 := by
  have := byAll (fun c => !isTok c || decide (c.toNat < 128)) (by decide +kernel) c
  rw [h] at this
  simpa using this
theorem low_upT (l : Txt) : lower (upT l) = lower l := by
  unfold lower upT Lib.toUpperA
  rw [List.map_map]
  apply List.map_congr_left
  intro c _
  exact up_low c
theorem star_upT (l : Txt) : (upT l == [42]) = (l == [42]) := by
  unfold upT Lib.toUpperA
  match l with
  | [] => rfl
  | [c] =>
    have := (up_at c).2.2
    rw [Bool.eq_iff_iff]
    simp [this]
  | a :: b :: r => rw [Bool.eq_iff_iff]; simp
theorem drop_map (l : Txt) : (l.map Lib.upperB).dropWhile blank = (l.dropWhile blank).map Lib.upperB := by
  induction l with
  | nil => rfl
  | cons c l ih =>
    rw [List.map_cons, List.dropWhile_cons, List.dropWhile_cons, up_blank]
    split
    · exact ih
    · rfl
theorem trim_upT (l : Txt) : trimL (upT l) = upT (trimL l) := by
  rw [trimL_eq, trimL_eq]
  unfold upT Lib.toUpperA
  rw [← List.map_reverse, drop_map, ← List.map_reverse, drop_map]
theorem kept_app (P Q : List Txt) : kept (P ++ Q) = kept P ++ kept Q := by simp [kept]
theorem kept_upT (P : List Txt) : kept (P.map upT) = (kept P).map upT := by
  induction P with
  | nil => rfl
  | cons p P ih =>
    have e : ∀ (q : Txt) (R : List Txt), kept (q :: R) = (if (trimL q).isEmpty = true then [] else [trimL q]) ++ kept R := by
      intro q R
      unfold kept
      rw [List.map_cons, List.filter_cons]
      cases (trimL q).isEmpty <;> simp
    rw [List.map_cons, e, e, ih, trim_upT, List.map_append]
    congr 1
    have : (upT (trimL p)).isEmpty = (trimL p).isEmpty := by unfold upT Lib.toUpperA; cases trimL p <;> rfl
    rw [this]
    split <;> rfl

/-- A text with no quote, cut at each comma. -/
def csV (x : List Txt × Txt) (c : UInt8) : List Txt × Txt := if c = 44 then (x.1 ++ [x.2], []) else (x.1, x.2 ++ [c])
theorem cut_plain (l : Txt) (h : ∀ c ∈ l, c ≠ 34) : ∀ ps cur, l.foldl (cstep 44) ⟨ps, cur, false, false⟩ = ⟨(l.foldl csV (ps, cur)).1, (l.foldl csV (ps, cur)).2, false, false⟩ := by
  induction l with
  | nil => intro ps cur; rfl
  | cons c l ih =>
    intro ps cur
    have hc := h c (List.mem_cons_self ..)
    have hl : ∀ b ∈ l, b ≠ 34 := fun b hb => h b (List.mem_cons_of_mem _ hb)
    rw [List.foldl_cons, List.foldl_cons]
    by_cases h44 : c = 44
    · rw [cstep_sep 44 ps cur c h44, ih hl]
      have : csV (ps, cur) c = (ps ++ [cur], []) := by unfold csV; rw [if_pos h44]
      rw [this]
    · rw [cstep_else 44 ps cur false c (fun e => h44 e.1) hc (fun e => by cases e.2), ih hl]
      have : csV (ps, cur) c = (ps, cur ++ [c]) := by unfold csV; rw [if_neg h44]
      rw [this]
theorem cs_shift (l : Txt) : ∀ (X ps : List Txt) (cur : Txt), l.foldl csV (X ++ ps, cur) = (X ++ (l.foldl csV (ps, cur)).1, (l.foldl csV (ps, cur)).2) := by
  induction l with
  | nil => intro X ps cur; rfl
  | cons c l ih =>
    intro X ps cur
    rw [List.foldl_cons, List.foldl_cons]
    by_cases h44 : c = 44
    · have e1 : csV (X ++ ps, cur) c = (X ++ (ps ++ [cur]), []) := by unfold csV; rw [if_pos h44, List.append_assoc]
      have e2 : csV (ps, cur) c = (ps ++ [cur], []) := by unfold csV; rw [if_pos h44]
      rw [e1, e2, ih]
    · have e1 : csV (X ++ ps, cur) c = (X ++ ps, cur ++ [c]) := by unfold csV; rw [if_neg h44]
      have e2 : csV (ps, cur) c = (ps, cur ++ [c]) := by unfold csV; rw [if_neg h44]
      rw [e1, e2, ih]
theorem cs_up (l : Txt) : ∀ (ps : List Txt) (cur : Txt), (upT l).foldl csV (ps.map upT, upT cur) = ((l.foldl csV (ps, cur)).1.map upT, upT (l.foldl csV (ps, cur)).2) := by
  induction l with
  | nil => intro ps cur; rfl
  | cons c l ih =>
    intro ps cur
    have hu : upT (c :: l) = Lib.upperB c :: upT l := rfl
    rw [hu, List.foldl_cons, List.foldl_cons]
    by_cases h44 : c = 44
    · have e1 : csV (ps.map upT, upT cur) (Lib.upperB c) = ((ps ++ [cur]).map upT, upT []) := by unfold csV; rw [if_pos ((up_at c).1.2 h44)]; simp [upT, Lib.toUpperA]
      have e2 : csV (ps, cur) c = (ps ++ [cur], []) := by unfold csV; rw [if_pos h44]
      rw [e1, e2, ih]
    · have e1 : csV (ps.map upT, upT cur) (Lib.upperB c) = (ps.map upT, upT (cur ++ [c])) := by unfold csV; rw [if_neg (fun e => h44 ((up_at c).1.1 e))]; simp [upT, Lib.toUpperA]
      have e2 : csV (ps, cur) c = (ps, cur ++ [c]) := by unfold csV; rw [if_neg h44]
      rw [e1, e2, ih]

/-- A byte that is no comma stands in a piece. -/
theorem byte_in (c : UInt8) (l : Txt) : ∀ x : Cut, (c ∈ l ∧ c ≠ 44) ∨ (∃ p ∈ x.ps, c ∈ p) ∨ c ∈ x.cur → (∃ p ∈ (l.foldl (cstep 44) x).ps, c ∈ p) ∨ c ∈ (l.foldl (cstep 44) x).cur := by
  induction l with
  | nil =>
    intro x h
    rcases h with h | h
    · simp at h
    · exact h
  | cons d l ih =>
    intro x h
    rw [List.foldl_cons]
    apply ih
    have hk : (∃ p ∈ x.ps, c ∈ p) ∨ c ∈ x.cur → (∃ p ∈ (cstep 44 x d).ps, c ∈ p) ∨ c ∈ (cstep 44 x d).cur := by
      intro h
      unfold cstep
      split
      · rcases h with ⟨p, hp, hc⟩ | h
        · exact .inl ⟨p, List.mem_append_left _ hp, hc⟩
        · exact .inl ⟨x.cur, by simp, h⟩
      · rcases h with h | h
        · exact .inl h
        · exact .inr (List.mem_append_left _ h)
    rcases h with ⟨h, hne⟩ | h
    · rcases List.mem_cons.1 h with e | h
      · right; right
        subst e
        unfold cstep
        rw [if_neg (fun e => hne e.1)]
        simp
      · exact .inl ⟨h, hne⟩
    · exact .inr (hk h)
theorem drop_in (c : UInt8) (h : blank c = false) (l : Txt) (hl : c ∈ l) : c ∈ l.dropWhile blank := by
  induction l with
  | nil => simp at hl
  | cons d l ih =>
    rw [List.dropWhile_cons]
    split
    · rename_i hd
      rcases List.mem_cons.1 hl with e | hl
      · subst e; rw [h] at hd; cases hd
      · exact ih hl
    · exact hl
theorem trim_in (c : UInt8) (h : blank c = false) (l : Txt) (hl : c ∈ l) : c ∈ trimL l := by
  rw [trimL_eq]
  apply drop_in c h
  rw [List.mem_reverse]
  apply drop_in c h
  rw [List.mem_reverse]
  exact hl
/-- A byte of a text whose pieces are tokens: a comma, a blank or of a token. -/
theorem byte_tok (s : Txt) (ht : (kept (pieces 44 s)).all token = true) (c : UInt8) (hc : c ∈ s) : c = 44 ∨ blank c = true ∨ isTok c = true := by
  by_cases h44 : c = 44
  · exact .inl h44
  · cases hb : blank c
    · refine .inr (.inr ?_)
      have h := byte_in c s ⟨[], [], false, false⟩ (.inl ⟨hc, h44⟩)
      have : ∃ p ∈ pieces 44 s, c ∈ p := by
        unfold pieces cutS
        rcases h with ⟨p, hp, h⟩ | h
        · exact ⟨p, List.mem_append_left _ hp, h⟩
        · exact ⟨_, List.mem_append_right _ (by simp), h⟩
      obtain ⟨p, hp, hcp⟩ := this
      have hct := trim_in c hb p hcp
      have hk : trimL p ∈ kept (pieces 44 s) := by
        unfold kept
        rw [List.mem_filter]
        refine ⟨List.mem_map_of_mem hp, ?_⟩
        cases he : trimL p
        · rw [he] at hct; simp at hct
        · rfl
      have := List.all_eq_true.1 ht _ hk
      exact List.all_eq_true.1 (token_parts _ this).2 c hct
    · exact .inr (.inl rfl)
theorem byte_clear (s : Txt) (ht : (kept (pieces 44 s)).all token = true) (c : UInt8) (hc : c ∈ s) : c ≠ 34 ∧ c.toNat < 128 := by
  rcases byte_tok s ht c hc with h | h | h
  · subst h; decide
  · have := byAll (fun c => !blank c || (decide (c ≠ 34) && decide (c.toNat < 128))) (by decide +kernel) c
    rw [h] at this
    simpa using this
  · exact ⟨(tok_ne c h).1, tok_ascii c h⟩

theorem pieces_twice (s : Txt) (h : ∀ c ∈ s, c ≠ 34) : kept (pieces 44 (upT s ++ 32 :: 44 :: s)) = (kept (pieces 44 s)).map upT ++ kept (pieces 44 s) := by
  have hu : ∀ c ∈ upT s ++ 32 :: 44 :: s, c ≠ 34 := by
    intro c hc
    rcases List.mem_append.1 hc with hc | hc
    · unfold upT Lib.toUpperA at hc
      obtain ⟨d, hd, rfl⟩ := List.mem_map.1 hc
      exact fun e => h d hd ((up_at d).2.1.1 e)
    · rcases List.mem_cons.1 hc with e | hc
      · subst e; decide
      · rcases List.mem_cons.1 hc with e | hc
        · subst e; decide
        · exact h c hc
  obtain ⟨A, B, hA⟩ : ∃ A B, s.foldl csV ([], []) = (A, B) := ⟨_, _, rfl⟩
  have e1 : (upT s).foldl csV ([], []) = (A.map upT, upT B) := by
    have := cs_up s [] []
    rw [hA] at this
    exact this
  have e2 : (upT s ++ 32 :: 44 :: s).foldl csV ([], []) = (A.map upT ++ [upT B ++ [32]] ++ A, B) := by
    rw [List.foldl_append, e1, List.foldl_cons, List.foldl_cons]
    have e3 : csV (csV (A.map upT, upT B) 32) 44 = (A.map upT ++ [upT B ++ [32]] ++ [], []) := by simp [csV]
    rw [e3, cs_shift, hA]
  have f1 : pieces 44 s = A ++ [B] := by unfold pieces cutS; rw [cut_plain s h [] [], hA]
  have f2 : pieces 44 (upT s ++ 32 :: 44 :: s) = A.map upT ++ [upT B ++ [32]] ++ (A ++ [B]) := by unfold pieces cutS; rw [cut_plain _ hu [] [], e2]; simp
  have f3 : kept [upT B ++ [32]] = kept [upT B] := by unfold kept; rw [List.map_cons, List.map_cons, trimL_last _ 32 (by decide)]
  rw [f1, f2, kept_app, kept_app, f3, ← kept_app, ← kept_upT, List.map_append]
  rfl
theorem lows_upT (P : List Txt) : lowsV (P.map upT) = lowsV P := by
  induction P with
  | nil => rfl
  | cons p P ih =>
    have e : ∀ (q : Txt) (R : List Txt), lowsV (q :: R) = (if (q == [42]) = true then [] else [lower q]) ++ lowsV R := by
      intro q R
      unfold lowsV
      rw [List.filter_cons]
      cases (q == [42]) <;> simp
    rw [List.map_cons, e, e, ih, star_upT, low_upT]
theorem star_upL (P : List Txt) : starV (P.map upT) = starV P := by
  induction P with
  | nil => rfl
  | cons p P ih =>
    unfold starV at ih ⊢
    rw [List.map_cons, List.any_cons, List.any_cons, ih, star_upT]
theorem nms_two (P : List Txt) : nmsV (P.map upT ++ P) = nmsV P ∧ starV (P.map upT ++ P) = starV P := by
  constructor
  · refine rising_same _ _ (nms_rising _) (nms_rising _) fun x => ?_
    rw [nms_mem, nms_mem]
    have : lowsV (P.map upT ++ P) = lowsV P ++ lowsV P := by
      rw [← lows_upT P]
      unfold lowsV
      rw [List.filter_append, List.map_append]
      congr 1
      exact (lows_upT P).symm
    rw [this, List.mem_append, or_self]
  · unfold starV
    rw [List.any_append]
    have := star_upL P
    unfold starV at this
    rw [this, Bool.or_self]
/-- What was answered of s, is answered of s in capitals and once more, where anything is. -/
theorem vN_parts (s : Txt) (h : (vN s).2.2 = 0) : (kept (pieces 44 s)).all token = true ∧ vN s = (nmsV (kept (pieces 44 s)), starV (kept (pieces 44 s)), 0) := by
  have hs : (splitS s).2 = 0 → (splitS s).1 = kept (pieces 44 s) := by
    unfold splitS
    split
    · intro h; cases h
    · split
      · intro h; cases h
      · split
        · intro h; cases h
        · intro _; rfl
  unfold vN at h ⊢
  by_cases hc : (splitS s).2 = 0
  · rw [if_neg (by rw [hc]; simp)] at h ⊢
    rw [hs hc] at h ⊢
    by_cases ht : (kept (pieces 44 s)).all token = true
    · rw [if_pos ht] at h ⊢
      exact ⟨ht, rfl⟩
    · rw [if_neg ht] at h; cases h
  · rw [if_pos hc] at h
    exact absurd h hc
theorem vN_twice (s : Txt) (h : (vN s).2.2 = 0) (h2 : (vN (upT s ++ 32 :: 44 :: s)).2.2 = 0) : (vN (upT s ++ 32 :: 44 :: s)) = vN s := by
  obtain ⟨h3, h4⟩ := vN_parts s h
  obtain ⟨_, h5⟩ := vN_parts _ h2
  rw [h5, h4, pieces_twice s (fun c hc => (byte_clear s h3 c hc).1), (nms_two _).1, (nms_two _).2]
theorem vN_ascii (s : Txt) (h : (vN s).2.2 = 0) : ∀ (j : Nat) (b : UInt8), s[j]? = some b → b.toNat < 128 := fun _ b hb => (byte_clear s (vN_parts s h).1 b (List.mem_of_getElem? hb)).2
theorem vN_rising (s : Txt) : Rising (vN s).1 := by
  unfold vN
  split
  · exact List.Pairwise.nil
  · split
    · exact nms_rising _
    · exact List.Pairwise.nil
theorem vN_bad (s : Txt) (h : (vN s).2.2 ≠ 0) : (vN s).1 = [] ∧ (vN s).2.1 = false := by
  unfold vN at h ⊢
  split
  · exact ⟨rfl, rfl⟩
  · rename_i h1
    rw [if_neg h1] at h
    split
    · rename_i h2
      rw [if_pos h2] at h
      exact absurd rfl h
    · exact ⟨rfl, rfl⟩
theorem vN_clear (s : Txt) : ∀ x ∈ (vN s).1, (x == [42]) = false := by
  unfold vN
  split
  · intro x hx; simp at hx
  · split
    · intro x hx
      have hx := (nms_mem _ x).1 hx
      unfold lowsV at hx
      obtain ⟨q, hq, rfl⟩ := List.mem_map.1 hx
      have hq := (List.mem_filter.1 hq).2
      cases hs : (lower q == [42])
      · rfl
      · exfalso
        have e : lower q = [42] := by simpa using hs
        have h0 : q = [42] := by
          match q, e with
          | [], e => cases e
          | [c], e =>
            have h1 : low c = 42 := by simpa [lower] using e
            have := byAll (fun c => !(low c == 42) || (c == 42)) (by decide +kernel) c
            rw [h1] at this
            simp at this
            rw [this]
          | a :: b :: r, e => simp [lower] at e
        rw [h0] at hq
        simp at hq
    · intro x hx; simp at hx
/-- The names of the one field of the row. -/
theorem vN_three : vN [66, 44, 32, 97, 44, 42] = ([[97], [98]], true, 0) := by
  have hs : splitS [66, 44, 32, 97, 44, 42] = ([[66], [97], [42]], 0) := by decide
  have hn : nmsV [[66], [97], [42]] = [[97], [98]] := by
    refine rising_same _ _ (nms_rising _) ?_ fun x => ?_
    · refine List.pairwise_cons.2 ⟨fun y hy => ?_, List.pairwise_singleton _ _⟩
      rw [List.mem_singleton] at hy
      subst hy
      decide
    · rw [nms_mem]
      have : lowsV [[66], [97], [42]] = [[98], [97]] := by decide
      rw [this]
      simp only [List.mem_cons, List.not_mem_nil, or_false]
      exact or_comm
  unfold vN
  rw [hs]
  have ht : ([[66], [97], [42]] : List Txt).all token = true := by decide
  rw [if_neg (by simp), if_pos ht, hn]
  rfl
end Go.Proofs.YteifheoomodplaaDoor

/-
  A list of one field, as a block of two cells; a row of two texts; no program is named here.
-/
namespace Go.Proofs.YteifheoomodplaaDoor
open Go.RowKit

theorem fl_one (w : World) (a b : ByteArray) (t : TypeId) : Fl (w.alloc (.cells #[.string a, .string b] t)) (.slice (some ⟨w.heap.size, 0, none⟩) 1 1) [(a.data.toList, b.data.toList)] := by
  refine ⟨_, 1, rfl, Nat.le_refl _, by unfold maxLen; omega, fun _ => ⟨w.heap.size, 0, rfl, by simp, fun k hk => ?_⟩⟩
  have hk0 : k = 0 := by simpa using hk
  subst hk0
  refine ⟨?_, ?_⟩ <;> simp
theorem own_block2 {w : World} {B g : Nat} {x y : Value} {t : TypeId} (h : w.heap[g]? = some (.cells #[x, y] t (0, 0))) (hB : B ≤ g) : w.ownsRow B t 1 (.slice (some ⟨g, 0, none⟩) 2 2) 2 [x, y] :=
  ⟨rfl, .inr ⟨g, 2, #[x, y], rfl, hB, h, Nat.le_refl _, by unfold maxLen; omega, rfl, rfl⟩⟩
theorem own_two (w : World) (B : Nat) (x y : Value) (t : TypeId) (hB : B ≤ w.heap.size) : (w.alloc (.cells #[x, y] t)).ownsRow B t 1 (.slice (some ⟨w.heap.size, 0, none⟩) 2 2) 2 [x, y] :=
  own_block2 (heap_alloc_new w _) hB
end Go.Proofs.YteifheoomodplaaDoor

/-
  The walk through VaryNames: it answers true and turns nothing that was there.
-/
namespace Go.Proofs.YteifheoomodplaaDoor
open Go.RowKit

def lThree : List Fld := [([118, 97, 114, 121], [66, 44, 32, 97, 44, 42])]
theorem vV_three : vV lThree = ([[97], [98]], true, 0) := by
  have h : vals lThree nVary = [[66, 44, 32, 97, 44, 42]] := by decide
  unfold vV
  rw [h, jn_one]
  exact vN_three
theorem less_rising (ns : List Txt) (h : Rising ns) (m : Nat) (hm : m + 1 < ns.length) (t u : ByteArray) (ht : t.data.toList = ns[m]) (hu : u.data.toList = ns[m + 1]) : Op.bytesLess t.toList u.toList = true := by
  rw [bytesLess_eq, ByteArray.toList_eq, ByteArray.toList_eq, ht, hu, decide_eq_true_eq]
  exact List.pairwise_iff_getElem.1 h m (m + 1) (by omega) hm (by omega)
set_option maxHeartbeats 4000000 in
set_option maxRecDepth 100000 in
theorem walkVaryNames (a0 : Value) (l0 : List Fld) (w : World) (z0 : Fl w a0 l0) (b0 : bulkF l0 ≤ 1048576) :
    Calls Tryd.prog 6 #[a0] w fun e w' => e = .returned (.bool true) ∧ Below w.heap.size w w' := by
  have H0 : Hid (Fl w a0 l0) := z0
  have W0 : Hid (Wide l0) := wide_bulk l0 b0
  have J0 : Hid (JoinsV l0) := joins_bulk' l0 (by omega)
  obtain ⟨N, hN⟩ : ∃ N, vV l0 = N := ⟨_, rfl⟩
  obtain ⟨ns, st, c⟩ := N
  have hnl : ns.length ≤ 20 := by
    have h2 : (vV l0).1.length ≤ 20 := vN_len (jn (vals l0 nVary))
    rwa [hN] at h2
  obtain ⟨s, hss⟩ : ∃ s : ByteArray, s.data.toList = jn (vals l0 nVary) := ⟨⟨(jn (vals l0 nVary)).toArray⟩, rfl⟩
  have hvs : vV l0 = vN s.data.toList := by unfold vV; rw [hss]
  obtain ⟨p, hp⟩ : ∃ p, (!(vals l0 nVary).isEmpty) = p := ⟨_, rfl⟩
  have ssz : s.size ≤ 1048576 := by rw [← size_list, hss]; exact Nat.le_trans (jn_bulk _ _) b0
  have HRI : Hid (Rising ns) := by
    have h2 := vN_rising s.data.toList
    rw [← hvs, hN] at h2; exact h2
  have HBAD : Hid (c ≠ 0 → ns = [] ∧ st = false) := by
    show _ → _
    intro h
    have h2 := vN_bad s.data.toList (by rw [← hvs, hN]; exact h)
    rw [← hvs, hN] at h2; exact h2
  have HCL : Hid (∀ x ∈ ns, (x == [42]) = false) := by
    have h2 := vN_clear s.data.toList
    rw [← hvs, hN] at h2; exact h2
  have HLO : Hid (∀ x ∈ ns, lower x = x) := by
    have h2 := vV_low l0
    rw [hN] at h2; exact h2
  have HSM : Hid (∀ x ∈ ns, x.length ≤ 1000) := by
    have h2 := vN_small s.data.toList
    rw [← hvs, hN] at h2; exact h2
  have HAS : Hid (c = 0 → ∀ (j : Nat) (b : UInt8), s.data.toList[j]? = some b → b.toNat < 128) := by
    show _ → _
    intro h
    exact vN_ascii s.data.toList (by rw [← hvs, hN]; exact h)
  obtain ⟨q, hq⟩ : ∃ q : ByteArray, q = (⟨(Lib.toUpperA s.data.toList).toArray⟩ : ByteArray) ++ (⟨#[32, 44]⟩ : ByteArray) ++ s := ⟨_, rfl⟩
  have hql : q.data.toList = upT s.data.toList ++ 32 :: 44 :: s.data.toList := by
    rw [hq]
    simp [upT]
  have qsz : q.data.toList.length ≤ 2097154 := by
    rw [hql]
    have h1 := size_list s
    have h2 : (upT s.data.toList).length = s.data.toList.length := by simp [upT, Lib.toUpperA]
    simp only [List.length_append, List.length_cons]; omega
  obtain ⟨L, hL⟩ : ∃ L, setS [86, 65, 82, 89] q.data.toList l0 = L := ⟨_, rfl⟩
  have bL : bulkF L ≤ 4194304 := by
    have := bulk_set [86, 65, 82, 89] q.data.toList l0
    rw [hL] at this
    simp only [List.length_cons, List.length_nil] at this
    omega
  have WL : Hid (Wide L) := wide_bulk4 L bL
  have JL : Hid (JoinsV L) := joins_bulk' L (by omega)
  obtain ⟨M, hM⟩ : ∃ M, vV L = M := ⟨_, rfl⟩
  obtain ⟨ms, it, f⟩ := M
  have HSA : Hid (c = 0 → f = 0 → ms = ns ∧ it = st) := by
    show _ → _ → _
    intro h h2
    have e1 : vV L = vN q.data.toList := by
      unfold vV
      rw [← hL, vals_low _ [86, 65, 82, 89] nVary (by decide), vals_set, jn_one]
    have e2 := vN_twice s.data.toList (by rw [← hvs, hN]; exact h) (by rw [← hql, ← e1, hM]; exact h2)
    rw [← hql, ← e1, ← hvs, hM, hN] at e2
    exact ⟨(Prod.mk.inj e2).1, (Prod.mk.inj (Prod.mk.inj e2).2).1⟩
  have HN : Hid (vV l0 = (ns, st, c)) := hN
  have HM : Hid (vV L = (ms, it, f)) := hM
  have HS : Hid (s.data.toList = jn (vals l0 (⟨#[86, 97, 114, 121]⟩ : ByteArray).data.toList)) := hss
  have HP : Hid (p = (!(vals l0 (⟨#[86, 97, 114, 121]⟩ : ByteArray).data.toList).isEmpty)) := hp.symm
  have HQ : Hid (q = (⟨(Lib.toUpperA s.data.toList).toArray⟩ : ByteArray) ++ (⟨#[32, 44]⟩ : ByteArray) ++ s) := hq
  have HL : Hid (setS (⟨#[86, 65, 82, 89]⟩ : ByteArray).data.toList q.data.toList l0 = L) := hL
  have qs : q.size ≤ 2097154 := by rw [← size_list]; exact qsz
  have usz : (⟨(Lib.toUpperA s.data.toList).toArray⟩ : ByteArray).size ≤ 1048576 := by
    rw [← size_list]
    have h1 := size_list s
    simp [Lib.toUpperA]; omega
  have hup : (Lib.toUpperA s.data.toList).length ≤ 1048576 := by
    have h1 := size_list s
    simp [Lib.toUpperA]; omega
  clear z0 hN hss hvs hp hq hql qsz hL bL hM
  go_enter Tryd.func6, Tryd.ntmps6
  go_wp2_with fail
  refine (vnames_at a0 l0 _ H0.out W0.out (J0.out _)).mono ?_
  rintro e w1 ⟨v1, rfl, hown1, hb1⟩
  rw [HN.out] at hown1 ⊢
  replace hown1 : w1.ownsRow w.heap.size 9 1 v1 ns.length (strs ns) := hown1
  obtain ⟨ad, cap, hv1, hcm, hnc, hcells⟩ := own_slice hown1
  subst hv1
  unfold maxLen at hcm
  have HO1 : Hid (w1.ownsRow w.heap.size 9 1 (.slice ad ns.length cap) ns.length (strs ns)) := hown1
  have HCE : Hid (0 < ns.length → ∃ g, ad = some ⟨g, 0, none⟩ ∧ w.heap.size ≤ g ∧ g < w1.heap.size ∧ ∀ j, j < ns.length → w1.cell? ⟨g, j, none⟩ = (strs ns)[j]?) := hcells
  have HB1 : Hid (Below w.heap.size w w1) := hb1
  clear hown1 hb1 hcells
  go_wp2_with fail
  refine (vnames_at _ lThree _ (fl_one w1 ⟨#[118, 97, 114, 121]⟩ ⟨#[66, 44, 32, 97, 44, 42]⟩ _) (wide_bulk lThree (by decide)) (joins_bulk' lThree (by decide) _)).mono ?_
  rintro e w2 ⟨v2, rfl, hown2, hb2⟩
  rw [vV_three] at hown2 ⊢
  replace hown2 : w2.ownsRow (w1.heap.size + 1) 9 1 v2 2 (strs [[97], [98]]) := by simpa using hown2
  have HO2 : Hid (w2.ownsRow (w1.heap.size + 1) 9 1 v2 2 (strs [[97], [98]])) := hown2
  have hb2' : Below w1.heap.size w1 w2 := below_new hb2
  have HB12 : Hid (Below w1.heap.size w1 w2) := hb2'
  clear hown2 hb2 hb2'
  go_wp2_with fail
  refine (eqS_same v2 _ [[97], [98]] 2 _ _ _ (by decide) (own_below2 HO2.out (below_alloc _ _)) (own_two w2 w2.heap.size _ _ 9 (Nat.le_refl _))).mono ?_
  rintro e w' ⟨rfl, rfl⟩
  obtain ⟨w3, hw3⟩ : ∃ w3, w3 = w2.alloc (.cells #[.string ⟨#[97]⟩, .string ⟨#[98]⟩] 9) := ⟨_, rfl⟩
  rw [← hw3]
  have HB13 : Hid (Below w1.heap.size w1 w3) := by
    show Below _ _ _
    rw [hw3]
    exact HB12.out.trans ((below_alloc w2 _).mono HB12.out.size)
  have HB3 : Hid (Below w.heap.size w w3) := HB1.out.trans (HB13.out.mono HB1.out.size)
  have HO3 : Hid (w3.ownsRow w.heap.size 9 1 (.slice ad ns.length cap) ns.length (strs ns)) := own_below2 HO1.out HB13.out
  have HC3 : Hid (0 < ns.length → ∃ g, ad = some ⟨g, 0, none⟩ ∧ g < w3.heap.size ∧ ∀ j, j < ns.length → w3.cell? ⟨g, j, none⟩ = (strs ns)[j]?) := by
    show _ → _
    intro h
    obtain ⟨g, h1, h2, h3, h4⟩ := HCE.out h
    have := HB13.out.size
    exact ⟨g, h1, by omega, fun j hj => (HB13.out.cell (p := ⟨g, j, none⟩) h3).trans (h4 j hj)⟩
  clear hw3 HB12 HB13 HB1 HO1 HO2 HCE
  by_cases hc : c = 0
  case neg =>
    obtain ⟨rfl, rfl⟩ := HBAD.out hc
    have hcb : (c == 0) = false := beq_eq_false_iff_ne.2 hc
    clear HSA HAS HBAD
    go_wp2_with fail
    go_ret
    exact ⟨by simp, HB3.out⟩
  subst hc
  have HSB : Hid (f = 0 → ms = ns ∧ it = st) := HSA.out rfl
  have HAB : Hid (∀ (j : Nat) (b : UInt8), s.data.toList[j]? = some b → b.toNat < 128) := HAS.out rfl
  clear HSA HAS HBAD
  go_wp2_with fail
  go_loopw [52] (fun i wr => ∃ k : Nat, k ≤ ns.length ∧ i = .int .i64 k ∧ Below w3.heap.size w3 wr) (fun i _ => ns.length - (intOf i).toNat)
  case atStart => exact ⟨0, Nat.zero_le _, rfl, Below.refl _ _⟩
  case round =>
    obtain ⟨k, hk, rfl, hw⟩ := hrel
    have hsz := hw.size
    by_cases hlt : k < ns.length
    · obtain ⟨g, rfl, hgs, hce⟩ := HC3.out (by omega)
      have hcell : wr.cell? ⟨g, k, none⟩ = some (.string ⟨(ns[k]).toArray⟩) := by
        rw [hw.cell (p := ⟨g, k, none⟩) hgs, hce k hlt]
        exact strs_get ns k hlt
      obtain ⟨u, hu⟩ : ∃ u : ByteArray, u = ⟨(ns[k]).toArray⟩ := ⟨_, rfl⟩
      rw [← hu] at hcell
      have hul : u.data.toList = ns[k] := by rw [hu]
      have hus : u.size ≤ 1000 := by rw [← size_list, hul]; exact HSM.out _ (List.getElem_mem hlt)
      have HLU : Hid (u.data.toList = lower u.data.toList) := by show _ = _; rw [hul]; exact (HLO.out _ (List.getElem_mem hlt)).symm
      have hse : (u.toList == [42]) = false := by rw [ByteArray.toList_eq, hul]; exact HCL.out _ (List.getElem_mem hlt)
      have hki : (k : Int) < (ns.length : Int) := by omega
      have hk0 : (0 : Int) ≤ (k : Int) := by omega
      have hgr : g < wr.heap.size := by omega
      have huu : (u.toList == u.toList) = true := by simp
      clear hu
      by_cases hz : k = 0
      · subst hz
        clear hce
        go_wp2_with fail
        refine (lower_at u u HLU.out _ (by omega)).mono ?_
        rintro e w4 ⟨rfl, hb4⟩
        have hw4 := hw.trans (hb4.mono hw.size)
        clear hb4 hcell hul
        go_wp2_with fail
        go_roundw
        case rel => exact ⟨0 + 1, by omega, by go_num, hw4⟩
        case measure => simp [intOf]; omega
      · obtain ⟨m, rfl⟩ : ∃ m, k = m + 1 := ⟨k - 1, by omega⟩
        obtain ⟨t, ht⟩ : ∃ t : ByteArray, t = ⟨(ns[m]).toArray⟩ := ⟨_, rfl⟩
        have htl : t.data.toList = ns[m] := by rw [ht]
        have hless : Op.bytesLess t.toList u.toList = true := less_rising ns HRI.out m hlt t u htl hul
        have HCT : Hid (∀ W, Below wr.heap.size wr W → W.cell? ⟨g, m, none⟩ = some (.string t)) := by
          show ∀ _, _ → _
          intro W hW
          rw [hW.cell (p := ⟨g, m, none⟩) hgr, hw.cell (p := ⟨g, m, none⟩) hgs, hce m (by omega), ht]
          exact strs_get ns m (by omega)
        clear hce ht htl hul hz
        go_wp2_with fail
        refine (lower_at u u HLU.out _ (by omega)).mono ?_
        rintro e w4 ⟨rfl, hb4⟩
        have hw4 := hw.trans (hb4.mono hw.size)
        have hct := HCT.out w4 hb4
        have hm0 : (0 : Int) ≤ (m : Int) := by omega
        have hm1 : (m : Int) < (ns.length : Int) := by omega
        have hm2 : (0 : Int) < (m : Int) + 1 := by omega
        clear hb4 hcell HCT
        go_wp2_with fail
        go_roundw
        case rel => exact ⟨m + 1 + 1, by omega, by go_num, hw4⟩
        case measure => simp [intOf]; omega
    · obtain rfl : k = ns.length := by omega
      have HBR : Hid (Below w.heap.size w wr) := HB3.out.trans (hw.mono HB3.out.size)
      have HOR : Hid (wr.ownsRow w.heap.size 9 1 (.slice ad ns.length cap) ns.length (strs ns)) := own_below2 HO3.out hw
      clear hw hsz HB3 HO3 HC3
      go_wp2_with fail
      refine (get_at a0 l0 _ s p HS.out HP.out _ (H0.out.below HBR.out) W0.out (by decide) (by omega)).mono ?_
      rintro e w5 ⟨rfl, hb5⟩
      have HO5 : Hid (w5.ownsRow w.heap.size 9 1 (.slice ad ns.length cap) ns.length (strs ns)) := own_below2 HOR.out hb5
      have HB5 : Hid (Below w.heap.size w w5) := HBR.out.trans (hb5.mono HBR.out.size)
      clear hb5 HBR HOR HS HP
      by_cases hlong : (490 : Int) < (s.size : Int)
      · clear HSB HAB
        go_wp2_with fail
        go_ret
        exact ⟨by simp, HB5.out⟩
      cases p
      · clear HSB HAB
        go_wp2_with fail
        go_ret
        exact ⟨by simp, HB5.out⟩
      by_cases hmany : (9 : Int) < (ns.length : Int)
      · clear HSB HAB
        go_wp2_with fail
        go_ret
        exact ⟨by simp, HB5.out⟩
      go_wp2_with fail
      refine (Tryd.strings_ToUpper_ascii s _ (by omega) HAB.out).mono ?_
      rintro e w6 ⟨rfl, hb6⟩
      have HO6 : Hid (w6.ownsRow w.heap.size 9 1 (.slice ad ns.length cap) ns.length (strs ns)) := own_below2 HO5.out hb6
      have HB6 : Hid (Below w.heap.size w w6) := HB5.out.trans (hb6.mono HB5.out.size)
      clear hb6 HO5 HB5 HAB
      go_wp2_with fail
      obtain rfl : q = (⟨(Lib.toUpperA s.data.toList).toArray⟩ : ByteArray) ++ (⟨#[32, 44]⟩ : ByteArray) ++ s := HQ.out
      clear HQ
      refine (set_any a0 l0 ⟨#[86, 65, 82, 89]⟩ ((⟨(Lib.toUpperA s.data.toList).toArray⟩ : ByteArray) ++ (⟨#[32, 44]⟩ : ByteArray) ++ s) _ (H0.out.below HB6.out) W0.out (by decide) (by omega)).mono ?_
      rintro e w7 ⟨v7, rfl, hown7, hb7⟩
      rw [HL.out] at hown7
      have HFL : Hid (Fl w7 v7 L) := Fl.own hown7
      have HO7 : Hid (w7.ownsRow w.heap.size 9 1 (.slice ad ns.length cap) ns.length (strs ns)) := own_below2 HO6.out hb7
      have HB7 : Hid (Below w.heap.size w w7) := HB6.out.trans (hb7.mono HB6.out.size)
      clear hown7 hb7 HO6 HB6 HL
      go_wp2_with fail
      refine (vnames_at v7 L _ HFL.out WL.out (JL.out _)).mono ?_
      rintro e w8 ⟨v8, rfl, hown8, hb8⟩
      rw [HM.out] at hown8 ⊢
      replace hown8 : w8.ownsRow w7.heap.size 9 1 v8 ms.length (strs ms) := hown8
      have HO8 : Hid (w8.ownsRow w7.heap.size 9 1 v8 ms.length (strs ms)) := hown8
      have HON : Hid (w8.ownsRow w.heap.size 9 1 (.slice ad ns.length cap) ns.length (strs ns)) := own_below2 HO7.out hb8
      have HB8 : Hid (Below w.heap.size w w8) := HB7.out.trans (hb8.mono HB7.out.size)
      clear hown8 hb8 HO7 HB7 HM HFL
      by_cases hf : f = 0
      · obtain ⟨hms, rfl⟩ := HSB.out hf
        subst hf hms
        have hii : (it == it) = true := by cases it <;> rfl
        clear HSB
        go_wp2_with fail
        refine (eqS_same v8 _ _ _ _ _ _ (by omega) HO8.out HON.out).mono ?_
        rintro e w' ⟨rfl, rfl⟩
        go_wp2_with fail
        go_ret
        exact ⟨by simp, HB8.out⟩
      · have hfb : (f == 0) = false := beq_eq_false_iff_ne.2 hf
        clear HSB
        go_wp2_with fail
        go_ret
        exact ⟨by simp, HB8.out⟩
end Go.Proofs.YteifheoomodplaaDoor
