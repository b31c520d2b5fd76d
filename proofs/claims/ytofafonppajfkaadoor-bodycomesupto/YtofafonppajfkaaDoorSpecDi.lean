/-
  Where 13, 10 first stands in a text that grows byte by byte; no program is named here.
-/
import Derived.Test.YtofafonppajfkaaDoorSpecDc
namespace Go.Proofs.YtofafonppajfkaaDoor
open Go.RowKit

theorem ix0 (a : UInt8) (l : List UInt8) : Lib.index (a :: l) [13, 10] = if a = 13 ∧ l.head? = some 10 then 0 else if Lib.index l [13, 10] = -1 then -1 else Lib.index l [13, 10] + 1 := by
  have e : (List.isPrefixOf [13, 10] (a :: l) = true) ↔ (a = 13 ∧ l.head? = some 10) := by
    cases l with
    | nil => simp [List.isPrefixOf]
    | cons b l =>
      simp only [List.isPrefixOf, List.head?, Bool.and_eq_true, beq_iff_eq, Option.some.injEq, Bool.and_true]
      constructor
      · rintro ⟨h1, h2⟩; exact ⟨h1.symm, h2.symm⟩
      · rintro ⟨h1, h2⟩; exact ⟨h1.symm, h2.symm⟩
  rw [Lib.index]
  by_cases h : a = 13 ∧ l.head? = some 10
  · rw [if_pos h, if_pos (e.2 h)]
  · rw [if_neg h, if_neg (fun x => h (e.1 x))]
    by_cases h2 : Lib.index l [13, 10] = -1
    · rw [if_pos h2, if_pos (by simp [h2])]
    · rw [if_neg h2, if_neg (by simp [h2])]
theorem ix_ge (l : List UInt8) : -1 ≤ Lib.index l [13, 10] := by
  rcases index_two' l [13, 10] with h | ⟨k, h, _⟩ <;> omega
theorem ix_cons {a : UInt8} {l : List UInt8} (h : Lib.index (a :: l) [13, 10] = -1) : ¬ (a = 13 ∧ l.head? = some 10) ∧ Lib.index l [13, 10] = -1 := by
  rw [ix0] at h
  split at h
  · omega
  · rename_i h1
    split at h
    · rename_i h2; exact ⟨h1, h2⟩
    · have := ix_ge l; omega
theorem ix_cons_no {a : UInt8} {l : List UInt8} (h1 : ¬ (a = 13 ∧ l.head? = some 10)) (h2 : Lib.index l [13, 10] = -1) : Lib.index (a :: l) [13, 10] = -1 := by
  rw [ix0, if_neg h1, if_pos h2]
theorem ix_cons_at {a : UInt8} {l : List UInt8} {k : Nat} (h1 : ¬ (a = 13 ∧ l.head? = some 10)) (h2 : Lib.index l [13, 10] = k) : Lib.index (a :: l) [13, 10] = (k : Int) + 1 := by
  rw [ix0, if_neg h1, h2, if_neg (by omega)]
theorem ix_nil : Lib.index [] [13, 10] = -1 := by simp [Lib.index]
theorem ix_one (c : UInt8) : Lib.index [c] [13, 10] = -1 := ix_cons_no (by simp) ix_nil
theorem ix_grow (a c : UInt8) (hac : ¬ (a = 13 ∧ c = 10)) : ∀ q : List UInt8, Lib.index (q ++ [a]) [13, 10] = -1 → Lib.index (q ++ [a] ++ [c]) [13, 10] = -1
  | [], _ => ix_cons_no (by simpa using hac) (ix_one c)
  | x :: q, h => by
    rw [List.cons_append] at h
    obtain ⟨h1, h2⟩ := ix_cons h
    refine ix_cons_no (l := q ++ [a] ++ [c]) ?_ (ix_grow a c hac q h2)
    cases q with
    | nil => simpa using h1
    | cons y q => simpa using h1
theorem ix_here (r : List UInt8) : ∀ q : List UInt8, Lib.index (q ++ [13]) [13, 10] = -1 → Lib.index (q ++ 13 :: 10 :: r) [13, 10] = (q.length : Int)
  | [], _ => by show Lib.index (13 :: 10 :: r) [13, 10] = _; rw [ix0, if_pos (by simp)]; rfl
  | x :: q, h => by
    rw [List.cons_append] at h
    obtain ⟨h1, h2⟩ := ix_cons h
    have := ix_cons_at (a := x) (l := q ++ 13 :: 10 :: r) (k := q.length) (by cases q with | nil => simp | cons y q => simpa using h1) (ix_here r q h2)
    simpa using this
theorem ix_later (r : List UInt8) : ∀ q : List UInt8, Lib.index q [13, 10] = -1 → Lib.index (q ++ r) [13, 10] = -1 ∨ (q.length : Int) ≤ Lib.index (q ++ r) [13, 10] + 1
  | [], _ => by have := ix_ge r; right; simp only [List.length_nil, List.nil_append]; omega
  | x :: q, h => by
    obtain ⟨h1, h2⟩ := ix_cons h
    have ih := ix_later r q h2
    have hg := ix_ge (q ++ r)
    show Lib.index (x :: (q ++ r)) [13, 10] = -1 ∨ _ ≤ Lib.index (x :: (q ++ r)) [13, 10] + 1
    rw [ix0]
    by_cases hh : x = 13 ∧ (q ++ r).head? = some 10
    · rw [if_pos hh]
      cases q with
      | nil => right; simp
      | cons y q => exact absurd (by simpa using hh) h1
    · rw [if_neg hh]
      by_cases h3 : Lib.index (q ++ r) [13, 10] = -1
      · rw [if_pos h3]; exact .inl rfl
      · rw [if_neg h3]; right
        rcases ih with h4 | h4
        · exact absurd h4 h3
        · simp only [List.length_cons]; omega
theorem ended_two (l : List UInt8) (a c : UInt8) : ended (l ++ [a] ++ [c]) = decide (a = 13 ∧ c = 10) := by
  have : (Lib.hasSuffix (l ++ [a] ++ [c]) [13, 10] = true) ↔ (a = 13 ∧ c = 10) := by
    unfold Lib.hasSuffix
    rw [List.isSuffixOf]
    simp only [List.reverse_append, List.reverse_cons, List.reverse_nil, List.nil_append, List.cons_append, List.isPrefixOf, Bool.and_eq_true, beq_iff_eq, Bool.and_true]
    constructor
    · rintro ⟨h1, h2⟩; exact ⟨by first | exact h2.symm | exact h1.symm, by first | exact h1.symm | exact h2.symm⟩
    · rintro ⟨h1, h2⟩; exact ⟨by first | exact h2.symm | exact h1.symm, by first | exact h1.symm | exact h2.symm⟩
  unfold ended
  exact decide_eq_decide.2 this
theorem ended_one (c : UInt8) : ended [c] = false := by simp [ended, Lib.hasSuffix, List.isSuffixOf, List.isPrefixOf]
end Go.Proofs.YtofafonppajfkaaDoor
