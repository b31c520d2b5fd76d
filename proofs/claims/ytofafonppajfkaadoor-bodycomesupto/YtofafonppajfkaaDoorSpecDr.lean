/-
  What comes, byte by byte, and all of it at once: a body in chunks in plain lists; no program is named here.
-/
import Derived.Test.YtofafonppajfkaaDoorSpecDi
namespace Go.Proofs.YtofafonppajfkaaDoor
open Go.RowKit

theorem chk1_not8 (x : Fld) : chk1 x ≠ 8 := by
  unfold chk1
  repeat' split
  all_goals decide
theorem rdF_not8 (l : List UInt8) : (rdF l).2 ≠ 8 := by
  unfold rdF
  split
  · show (3 : Int) ≠ 8; decide
  · split
    · show (0 : Int) ≠ 8; decide
    · exact chk1_not8 _
/-- What has come of the last chunk's fields: whole lines, and so many bytes of one more. -/
def FInv (f : List UInt8) (k : Nat) : Prop :=
  ∃ (p q : List UInt8) (acc : List Fld), f = p ++ q ∧ q.length = k ∧ k ≤ 1101 ∧ Lib.index q [13, 10] = -1 ∧ (∀ z, parS (p ++ z) [] = parS z acc) ∧ acc.length ≤ 30 ∧ p.length ≤ 1102 * acc.length ∧ (p = [] ∨ ∃ p0, p = p0 ++ [10])
theorem finv_nil : FInv [] 0 := ⟨[], [], [], rfl, rfl, by omega, ix_nil, fun _ => rfl, by simp, by simp, .inl rfl⟩
theorem finv_len {f : List UInt8} {k : Nat} (h : FInv f k) : f.length ≤ 35000 ∧ k ≤ 1101 := by
  obtain ⟨p, q, acc, rfl, rfl, h1, _, _, h4, h5, _⟩ := h
  simp only [List.length_append]; omega
theorem finv_short {f : List UInt8} {k : Nat} (h : FInv f k) : (parS f []).2.2 = 8 := by
  obtain ⟨p, q, acc, rfl, rfl, h1, h2, h3, _⟩ := h
  rw [h3, par_none q acc h2, if_neg (by omega)]
/-- One byte more of the fields. -/
theorem finv_step {f : List UInt8} {k : Nat} (h : FInv f k) (c : UInt8) :
    (ended (f ++ [c]) = false ∧ k < 1100 ∧ FInv (f ++ [c]) (k + 1)) ∨
    (¬ (ended (f ++ [c]) = false ∧ k < 1100) ∧
      (((parS (f ++ [c]) []).2.2 = 0 ∧ ∀ r, (parS (f ++ c :: r) []).2 = (r, 0)) ∨
       ((parS (f ++ [c]) []).2.2 ≠ 0 ∧ (parS (f ++ [c]) []).2.2 ≠ 8 ∧ ∀ r, (parS (f ++ c :: r) []).2.2 = (parS (f ++ [c]) []).2.2) ∨
       ((parS (f ++ [c]) []).2.2 = 8 ∧ FInv (f ++ [c]) (if ended (f ++ [c]) = true then 0 else k + 1)))) := by
  obtain ⟨p, q, acc, rfl, rfl, h1, h2, h3, h4, h5, h6⟩ := h
  have hcut : ∀ r, parS (p ++ q ++ c :: r) [] = parS (q ++ c :: r) acc := fun r => by rw [List.append_assoc, h3]
  have hcut1 : parS (p ++ q ++ [c]) [] = parS (q ++ [c]) acc := hcut []
  have hno : Lib.index (q ++ [c]) [13, 10] = -1 → ended (p ++ q ++ [c]) = false →
      (ended (p ++ q ++ [c]) = false ∧ q.length < 1100 ∧ FInv (p ++ q ++ [c]) (q.length + 1)) ∨
      (¬ (ended (p ++ q ++ [c]) = false ∧ q.length < 1100) ∧
      (((parS (p ++ q ++ [c]) []).2.2 = 0 ∧ ∀ r, (parS (p ++ q ++ c :: r) []).2 = (r, 0)) ∨
       ((parS (p ++ q ++ [c]) []).2.2 ≠ 0 ∧ (parS (p ++ q ++ [c]) []).2.2 ≠ 8 ∧ ∀ r, (parS (p ++ q ++ c :: r) []).2.2 = (parS (p ++ q ++ [c]) []).2.2) ∨
       ((parS (p ++ q ++ [c]) []).2.2 = 8 ∧ FInv (p ++ q ++ [c]) (if ended (p ++ q ++ [c]) = true then 0 else q.length + 1)))) := by
    intro hi he
    have hinv : q.length + 1 ≤ 1101 → FInv (p ++ q ++ [c]) (q.length + 1) := fun hl =>
      ⟨p, q ++ [c], acc, by rw [List.append_assoc], by simp, hl, hi, h3, h4, h5, h6⟩
    by_cases hk : q.length < 1100
    · exact .inl ⟨he, hk, hinv (by omega)⟩
    · right
      refine ⟨fun x => hk x.2, .inr ?_⟩
      have hp : parS (p ++ q ++ [c]) [] = ([], [], if 1101 < q.length + 1 then 2 else 8) := by rw [hcut1, par_none _ acc hi]; simp
      by_cases h11 : 1101 < q.length + 1
      · left
        have e2 : (parS (p ++ q ++ [c]) []).2.2 = 2 := by rw [hp, if_pos h11]
        rw [e2]
        refine ⟨by decide, by decide, fun r => ?_⟩
        rw [hcut]
        rcases ix_later r (q ++ [c]) hi with h | h
        · rw [show q ++ c :: r = q ++ [c] ++ r by simp, par_none _ acc h, if_pos (by simp; omega)]
        · rcases index_two' (q ++ [c] ++ r) [13, 10] with h' | ⟨j, h', _⟩
          · simp at h; rw [List.append_assoc] at h'; simp at h'; omega
          · rw [show q ++ c :: r = q ++ [c] ++ r by simp, par_large _ acc j h' (by simp at h h'; omega) (by left; simp at h h'; omega)]
      · right
        rw [hp, if_neg h11, he]
        exact ⟨rfl, hinv (by omega)⟩
  rcases List.eq_nil_or_concat q with hq | ⟨q0, a, hq⟩
  · subst hq
    apply hno (ix_one c)
    rcases h6 with rfl | ⟨p0, rfl⟩
    · exact ended_one c
    · rw [List.append_nil, ended_two]; simp
  · rw [List.concat_eq_append] at hq
    have hend : ended (p ++ q ++ [c]) = decide (a = 13 ∧ c = 10) := by rw [hq, ← List.append_assoc, ended_two]
    by_cases hac : a = 13 ∧ c = 10
    · have he : ended (p ++ q ++ [c]) = true := by rw [hend]; exact decide_eq_true hac
      obtain ⟨rfl, rfl⟩ := hac
      right
      refine ⟨fun x => absurd x.1 (by rw [he]; simp), ?_⟩
      have hi : ∀ r, Lib.index (q ++ 10 :: r) [13, 10] = (q0.length : Int) := fun r => by
        rw [hq] at h2 ⊢
        rw [List.append_assoc]
        exact ix_here r q0 h2
      by_cases h0 : q0.length = 0
      · left
        have hall : ∀ r, parS (p ++ q ++ 10 :: r) [] = (acc, r, 0) := fun r => by
          rw [hcut, par_end _ acc (by rw [hi, h0]; rfl), hq, List.eq_nil_of_length_eq_zero h0]; rfl
        exact ⟨by rw [hall []], fun r => by rw [hall r]⟩
      · right
        by_cases hl : 1100 < q0.length ∨ 30 ≤ acc.length
        · left
          have hall : ∀ r, parS (p ++ q ++ 10 :: r) [] = ([], [], 2) := fun r => by rw [hcut, par_large _ acc q0.length (hi r) h0 hl]
          rw [hall []]
          exact ⟨by decide, by decide, fun r => by rw [hall r]⟩
        · have ht : ∀ r, (q ++ 10 :: r).take q0.length = q0 := fun r => by rw [hq, List.append_assoc]; simp
          have hd : ∀ r, (q ++ 10 :: r).drop (q0.length + 2) = r := fun r => by rw [hq, List.append_assoc, ← List.drop_drop]; simp
          by_cases hr : (rdF q0).2 = 0
          · right
            have hall : ∀ r, parS (p ++ q ++ 10 :: r) [] = parS r (acc ++ [(rdF q0).1]) := fun r => by
              rw [hcut, par_ok _ acc q0.length (hi r) h0 hl (by rw [ht]; exact hr), hd, ht]
            refine ⟨by rw [hall [], par_none _ _ ix_nil]; simp, ?_⟩
            rw [if_pos he]
            refine ⟨p ++ q ++ [10], [], acc ++ [(rdF q0).1], by simp, rfl, by omega, ix_nil, fun z => ?_, by simp; omega, ?_, .inr ⟨_, rfl⟩⟩
            · rw [← hall z]; simp
            · rw [hq]; simp; omega
          · left
            have hall : ∀ r, parS (p ++ q ++ 10 :: r) [] = ([], [], (rdF q0).2) := fun r => by
              rw [hcut, par_bad _ acc q0.length (hi r) h0 hl (by rw [ht]; exact hr), ht]
            rw [hall []]
            exact ⟨hr, rdF_not8 q0, fun r => by rw [hall r]⟩
    · have he : ended (p ++ q ++ [c]) = false := by rw [hend]; exact decide_eq_false hac
      refine hno ?_ he
      rw [hq] at h2 ⊢
      exact ix_grow a c hac q0 h2
end Go.Proofs.YtofafonppajfkaaDoor
