/-
  Plain lemmas: what is printed is parsed as it was, what begins it is not yet, and what is parsed can be printed; no program is named here.
-/
import Derived.Test.YtpkaajjkadillaaDoorSpecPa
namespace Go.Proofs.YtpkaajjkadillaaDoor
open Go.RowKit

/-- The line of a field, without its end. -/
def lnB (x : Fld) : List UInt8 := x.1 ++ 58 :: 32 :: x.2
theorem ln_eq (x : Fld) : ln x = lnB x ++ [13, 10] := by simp [ln, lnB]
theorem lnB_len (x : Fld) : (lnB x).length = x.1.length + x.2.length + 2 := by simp [lnB]; omega
theorem lnB_no13 (x : Fld) (h : chk1 x = 0) : ∀ b ∈ lnB x, b ≠ 13 := by
  obtain ⟨h1, _, _, h4, _⟩ := chk1_is x h
  intro b hb
  unfold lnB at hb
  rcases List.mem_append.1 hb with hb | hb
  · exact tok_not b 13 (by decide) (token_all _ h1 b hb)
  · rcases List.mem_cons.1 hb with rfl | hb
    · decide
    · rcases List.mem_cons.1 hb with rfl | hb
      · decide
      · exact plain_not13 b (List.all_eq_true.1 h4 b hb)
theorem rdF_ln (x : Fld) (h : chk1 x = 0) : rdF (lnB x) = (x, 0) := by
  obtain ⟨h1, _, _, _, h5⟩ := chk1_is x h
  have hi : Lib.index (lnB x) [58] = (x.1.length : Int) := index_colon _ _ fun b hb => tok_not b 58 (by decide) (token_all _ h1 b hb)
  have e1 : (lnB x).take x.1.length = x.1 := by simp [lnB]
  have e2 : (lnB x).drop (x.1.length + 1) = 32 :: x.2 := by
    unfold lnB
    rw [← List.drop_drop, List.drop_left]; rfl
  have e3 : trimL (32 :: x.2) = x.2 := by rw [trimL_first _ 32 rfl, h5]
  have := rdF_ok (lnB x) x.1.length hi (by rw [e1, e2, e3]; exact h)
  rw [this, e1, e2, e3]
theorem par_ln (x : Fld) (t : List UInt8) (acc : List Fld) (h : chk1 x = 0) (hl : acc.length < 30) : parS (ln x ++ t) acc = parS t (acc ++ [x]) := by
  have hc := chk1_is x h
  have e : ln x ++ t = lnB x ++ 13 :: 10 :: t := by rw [ln_eq]; simp
  have hb := lnB_len x
  have hi : Lib.index (ln x ++ t) [13, 10] = ((lnB x).length : Int) := by rw [e]; exact index_at_crlf _ _ (lnB_no13 x h)
  have et : (ln x ++ t).take (lnB x).length = lnB x := by rw [e]; simp
  have ed : (ln x ++ t).drop ((lnB x).length + 2) = t := by rw [e, ← List.drop_drop, List.drop_left]; rfl
  have := par_ok (ln x ++ t) acc (lnB x).length hi (by omega) (by omega) (by rw [et, rdF_ln x h])
  rw [this, et, rdF_ln x h, ed]
theorem par_prt (ls : List Fld) : ∀ (acc : List Fld) (rest : List UInt8), (∀ x ∈ ls, chk1 x = 0) → acc.length + ls.length ≤ 30 → parS (prt ls ++ 13 :: 10 :: rest) acc = (acc ++ ls, rest, 0) := by
  induction ls with
  | nil =>
    intro acc rest _ _
    have hi : Lib.index (13 :: 10 :: rest) [13, 10] = 0 := index_at_crlf [] rest (fun b hb => by cases hb)
    have : prt [] ++ 13 :: 10 :: rest = 13 :: 10 :: rest := rfl
    rw [this, par_end _ _ hi]; simp
  | cons x ls ih =>
    intro acc rest h hl
    rw [List.length_cons] at hl
    rw [prt_cons, List.append_assoc, par_ln x _ acc (h x (List.mem_cons_self ..)) (by omega), ih (acc ++ [x]) rest (fun y hy => h y (List.mem_cons_of_mem _ hy)) (by rw [List.length_append]; simp; omega)]
    simp
theorem par_short1 (x : Fld) (n : Nat) (acc : List Fld) (h : chk1 x = 0) (hn : n < (ln x).length) : parS ((ln x).take n) acc = ([], [], 8) := by
  have hc := chk1_is x h
  have hb := lnB_len x
  have hll := ln_len x
  have hi : Lib.index ((ln x).take n) [13, 10] = -1 := by
    rw [ln_eq, List.take_append]
    by_cases h1 : n ≤ (lnB x).length
    · rw [show n - (lnB x).length = 0 from by omega, List.take_zero, List.append_nil]
      exact index_no_crlf _ fun b hb => lnB_no13 x h b (List.mem_of_mem_take hb)
    · have : n - (lnB x).length = 1 := by omega
      rw [this, List.take_of_length_le (by omega)]
      exact index_no_crlf1 _ (lnB_no13 x h)
  rw [par_none _ _ hi, if_neg]
  rw [List.length_take]; omega
theorem par_short (ls : List Fld) : ∀ (acc : List Fld) (n : Nat), (∀ x ∈ ls, chk1 x = 0) → acc.length + ls.length ≤ 30 → n < (prt ls ++ [13, 10]).length → parS ((prt ls ++ [13, 10]).take n) acc = ([], [], 8) := by
  induction ls with
  | nil =>
    intro acc n _ _ hn
    have : prt [] ++ [13, 10] = [13, 10] := rfl
    rw [this] at hn ⊢
    match n, hn with
    | 0, _ => exact par_none _ _ rfl
    | 1, _ => exact par_none _ _ rfl
  | cons x ls ih =>
    intro acc n h hl hn
    have hx := h x (List.mem_cons_self ..)
    rw [List.length_cons] at hl
    rw [prt_cons, List.append_assoc] at hn ⊢
    by_cases h1 : n < (ln x).length
    · rw [List.take_append_of_le_length (by omega)]
      exact par_short1 x n acc hx h1
    · rw [List.take_append, List.take_of_length_le (by omega), par_ln x _ acc hx (by omega)]
      rw [List.length_append] at hn
      exact ih (acc ++ [x]) (n - (ln x).length) (fun y hy => h y (List.mem_cons_of_mem _ hy)) (by rw [List.length_append]; simp; omega) (by omega)

/-- What a parsing that went well has given; one that did not gives nothing. -/
theorem fpar_is : ∀ (n : Nat) (s : List UInt8) (acc : List Fld) (fs : List Fld) (rest : List UInt8) (e : Int), fpar n s acc = (fs, rest, e) →
    (e ≠ 0 → fs = []) ∧ (e = 0 → (∀ x ∈ acc, chk1 x = 0) → acc.length ≤ 30 → (∀ x ∈ fs, chk1 x = 0) ∧ fs.length ≤ 30 ∧ rest.length + 2 ≤ s.length) := by
  intro n
  induction n with
  | zero =>
    intro s acc fs rest e h
    simp only [fpar, Prod.mk.injEq] at h
    obtain ⟨rfl, rfl, rfl⟩ := h
    exact ⟨fun _ => rfl, fun h => by cases h⟩
  | succ n ih =>
    intro s acc fs rest e h
    unfold fpar at h
    unfold pstep at h
    rcases index_two' s [13, 10] with hi | ⟨k, hi, hk⟩
    · rw [if_pos hi] at h
      simp only [Prod.mk.injEq] at h
      obtain ⟨rfl, rfl, rfl⟩ := h
      exact ⟨fun _ => rfl, fun h => by split at h <;> cases h⟩
    · have ek : (Lib.index s [13, 10]).toNat = k := by rw [hi]; simp
      rw [if_neg (by omega), ek] at h
      replace hk : k + 2 ≤ s.length := by simpa using hk
      by_cases h0 : k = 0
      · rw [if_pos h0] at h
        simp only [Prod.mk.injEq] at h
        obtain ⟨rfl, rfl, rfl⟩ := h
        exact ⟨fun h => absurd rfl h, fun _ ha hb => ⟨ha, hb, by rw [List.length_drop]; omega⟩⟩
      · rw [if_neg h0] at h
        by_cases h1 : 1100 < k ∨ 30 ≤ acc.length
        · rw [if_pos h1] at h
          simp only [Prod.mk.injEq] at h
          obtain ⟨rfl, rfl, rfl⟩ := h
          exact ⟨fun _ => rfl, fun h => by cases h⟩
        · rw [if_neg h1] at h
          by_cases h2 : (rdF (s.take k)).2 = 0
          · rw [if_pos h2] at h
            obtain ⟨a, b⟩ := ih _ _ _ _ _ h
            refine ⟨a, fun he ha hb => ?_⟩
            obtain ⟨b1, b2, b3⟩ := b he (fun x hx => by
              rcases List.mem_append.1 hx with hx | hx
              · exact ha x hx
              · rw [List.mem_singleton.1 hx]; exact rdF_zero _ h2) (by rw [List.length_append]; simp; omega)
            refine ⟨b1, b2, ?_⟩
            rw [List.length_drop] at b3
            omega
          · rw [if_neg h2] at h
            simp only [Prod.mk.injEq] at h
            obtain ⟨rfl, rfl, rfl⟩ := h
            exact ⟨fun _ => rfl, fun h => absurd h h2⟩
theorem parS_is (s : List UInt8) (fs : List Fld) (rest : List UInt8) (e : Int) (h : parS s [] = (fs, rest, e)) :
    (e ≠ 0 → fs = []) ∧ (e = 0 → chk fs = 0 ∧ rest.length + 2 ≤ s.length) := by
  obtain ⟨a, b⟩ := fpar_is _ _ _ _ _ _ h
  refine ⟨a, fun he => ?_⟩
  obtain ⟨b1, b2, b3⟩ := b he (fun x hx => by cases hx) (by simp)
  refine ⟨?_, b3⟩
  rw [chk_few _ (by omega)]
  exact chkL_of_all _ b1
theorem par_back (ls : List Fld) (rest : List UInt8) (h : chk ls = 0) : parS (prt ls ++ [13, 10] ++ rest) [] = (ls, rest, 0) := by
  obtain ⟨h1, h2⟩ := chk_zero ls h
  have := par_prt ls [] rest (chkL_all ls h2) (by simpa using h1)
  rw [List.append_assoc]
  simpa using this
end Go.Proofs.YtpkaajjkadillaaDoor
