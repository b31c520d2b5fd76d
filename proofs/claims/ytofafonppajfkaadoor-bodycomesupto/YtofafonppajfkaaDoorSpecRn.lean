/-
  Runs of a body's bytes, one by one, in plain lists: how they go on, how they end; no program is named here.
-/
import Derived.Test.YtofafonppajfkaaDoorSpecDr
namespace Go.Proofs.YtofafonppajfkaaDoor
open Go.RowKit

/-- What stands between two bytes. -/
def Inv (x : Ds) : Prop := x.done = false ∧ x.body.length ≤ 5000 ∧ match x.st with
  | .num d n => x.fields = [] ∧ d ≤ 4 ∧ n < 16 ^ d
  | .ext k n => x.fields = [] ∧ k ≤ 50 ∧ n < 65536
  | .endn n => x.fields = [] ∧ n < 65536
  | .byt l => x.fields = [] ∧ 0 < l ∧ x.body.length + l ≤ 5000
  | .crlf => x.fields = []
  | .lf => x.fields = []
  | .fld k => FInv x.fields k
theorem inv_start : Inv start := ⟨rfl, by simp [start], rfl, by omega, by simp⟩
theorem dig_lt {d n : Nat} (hd : d ≤ 4) (hn : n < 16 ^ d) : n < 65536 := by
  have hp : 16 ^ d ≤ 16 ^ 4 := Nat.pow_le_pow_right (by decide) hd
  have : (16 : Nat) ^ 4 = 65536 := by decide
  omega
theorem inv_step {x : Ds} (h : Inv x) (c : UInt8) (h0 : (stepD x c).1 = 0) (hd : (stepD x c).2.done = false) : Inv (stepD x c).2 := by
  obtain ⟨st, body, fields, done⟩ := x
  obtain ⟨h1, h2, h3⟩ := h
  cases st with
  | num d n =>
    obtain ⟨hf, hd4, hn⟩ := h3
    have hn6 := dig_lt hd4 hn
    simp only [stepD] at h0 ⊢
    cases hv1 : hv c with
    | some v =>
      simp only [hv1] at h0 ⊢
      have := hv_lt c v hv1
      by_cases h4 : d < 4
      · rw [if_pos h4]
        refine ⟨h1, h2, hf, h4, ?_⟩
        rw [Nat.pow_succ]; omega
      · rw [if_neg h4] at h0; exact absurd h0 (by simp)
    | none =>
      simp only [hv1] at h0 ⊢
      by_cases h5 : 0 < d ∧ c = 59
      · rw [if_pos h5]; exact ⟨h1, h2, hf, by omega, hn6⟩
      · rw [if_neg h5] at h0 ⊢
        by_cases h6 : 0 < d ∧ c = 13
        · rw [if_pos h6]; exact ⟨h1, h2, hf, hn6⟩
        · rw [if_neg h6] at h0; exact absurd h0 (by simp)
  | ext k n =>
    obtain ⟨hf, hk, hn⟩ := h3
    simp only [stepD] at h0 ⊢
    by_cases h5 : c = 13
    · rw [if_pos h5]; exact ⟨h1, h2, hf, hn⟩
    · rw [if_neg h5] at h0 ⊢
      by_cases h6 : k < 50 ∧ plainB c = true
      · rw [if_pos h6]; exact ⟨h1, h2, hf, by omega, hn⟩
      · rw [if_neg h6] at h0; exact absurd h0 (by simp)
  | endn n =>
    obtain ⟨hf, hn⟩ := h3
    simp only [stepD] at h0 ⊢
    by_cases h5 : c ≠ 10
    · rw [if_pos h5] at h0; exact absurd h0 (by simp)
    · rw [if_neg h5] at h0 ⊢
      by_cases h6 : 5000 < body.length + n
      · rw [if_pos h6] at h0; exact absurd h0 (by simp)
      · rw [if_neg h6] at h0 ⊢
        by_cases h7 : n = 0
        · rw [if_pos h7]
          refine ⟨h1, h2, ?_⟩
          show FInv fields 0
          rw [show fields = [] from hf]
          exact finv_nil
        · rw [if_neg h7]
          exact ⟨h1, h2, hf, by omega, by simp only; omega⟩
  | byt l =>
    obtain ⟨hf, hl, hb⟩ := h3
    simp only at hb hf
    simp only [stepD]
    refine ⟨h1, by simp only [List.length_append, List.length_cons, List.length_nil]; omega, ?_⟩
    by_cases h5 : 1 < l
    · simp only [if_pos h5]
      exact ⟨hf, by omega, by simp only [List.length_append, List.length_cons, List.length_nil]; omega⟩
    · simp only [if_neg h5]
      exact hf
  | crlf =>
    simp only [stepD] at h0 ⊢
    by_cases h5 : c = 13
    · rw [if_pos h5]; exact ⟨h1, h2, h3⟩
    · rw [if_neg h5] at h0; exact absurd h0 (by simp)
  | lf =>
    simp only [stepD] at h0 ⊢
    by_cases h5 : c = 10
    · rw [if_pos h5]; exact ⟨h1, h2, h3, by omega, by simp⟩
    · rw [if_neg h5] at h0; exact absurd h0 (by simp)
  | fld k =>
    have h3 : FInv fields k := h3
    simp only [stepD] at h0 hd ⊢
    rcases finv_step h3 c with ⟨e1, e2, e3⟩ | ⟨e1, e2⟩
    · rw [if_pos ⟨e1, e2⟩]; exact ⟨h1, h2, e3⟩
    · rw [if_neg e1] at h0 hd ⊢
      rcases e2 with ⟨e2, _⟩ | ⟨e2, e3, _⟩ | ⟨e2, e3⟩
      · rw [if_pos e2] at hd; exact absurd hd (by simp)
      · rw [if_neg e2, if_pos e3] at h0; exact absurd h0 e2
      · have e4 : ¬ (parS (fields ++ [c]) []).2.2 = 0 := by rw [e2]; decide
        have e5 : ¬ (parS (fields ++ [c]) []).2.2 ≠ 8 := by rw [e2]; decide
        rw [if_neg e4, if_neg e5]
        refine ⟨h1, h2, ?_⟩
        by_cases e6 : ended (fields ++ [c]) = true
        · rw [if_pos e6] at e3; simp only [if_pos e6]; exact e3
        · rw [if_neg e6] at e3; simp only [if_neg e6]; exact e3
theorem step_not8 {x : Ds} (h : Inv x) (c : UInt8) : (stepD x c).1 ≠ 8 := by
  obtain ⟨st, body, fields, done⟩ := x
  obtain ⟨h1, h2, h3⟩ := h
  cases st with
  | num d n =>
    simp only [stepD]
    cases hv c <;> simp only <;> repeat' split
    all_goals simp
  | ext k n => simp only [stepD]; repeat' split
               all_goals simp
  | endn n => simp only [stepD]; repeat' split
              all_goals simp
  | byt l => simp [stepD]
  | crlf => simp only [stepD]; split <;> simp
  | lf => simp only [stepD]; split <;> simp
  | fld k =>
    simp only [stepD]
    split
    · simp
    · split
      · simp
      · split
        · rename_i h; exact h
        · simp

theorem rn_app : ∀ (a b : List UInt8) (x : Ds) (k : Nat), (runD x a k).1 = 0 → (runD x a k).2.2.done = false → runD x (a ++ b) k = runD (runD x a k).2.2 b (runD x a k).2.1
  | [], _, _, _, _, _ => rfl
  | c :: a, b, x, k, h0, hd => by
    rw [runD] at h0 hd
    rw [List.cons_append, runD, runD]
    by_cases h1 : (stepD x c).1 ≠ 0
    · rw [if_pos h1] at h0; exact absurd h0 h1
    · rw [if_neg h1] at h0 hd
      simp only [if_neg h1]
      by_cases h2 : (stepD x c).2.done = true
      · rw [if_pos h2] at hd; simp only at hd; rw [h2] at hd; cases hd
      · rw [if_neg h2] at h0 hd
        simp only [if_neg h2]
        exact rn_app a b _ _ h0 hd
theorem run_stop : ∀ (a b : List UInt8) (x : Ds) (k : Nat), x.done = false → ((runD x a k).1 ≠ 0 ∨ (runD x a k).2.2.done = true) → runD x (a ++ b) k = runD x a k
  | [], _, x, _, hx, h => by
    rcases h with h | h
    · exact absurd rfl h
    · rw [runD] at h; simp only at h; rw [hx] at h; cases h
  | c :: a, b, x, k, hx, h => by
    rw [runD] at h
    rw [List.cons_append, runD, runD]
    by_cases h1 : (stepD x c).1 ≠ 0
    · simp only [if_pos h1]
    · rw [if_neg h1] at h
      simp only [if_neg h1]
      by_cases h2 : (stepD x c).2.done = true
      · simp only [if_pos h2]
      · rw [if_neg h2] at h
        simp only [if_neg h2]
        exact run_stop a b _ _ (by simpa using h2) h
theorem run_len : ∀ (a : List UInt8) (x : Ds) (k : Nat), (runD x a k).1 = 0 → (runD x a k).2.2.done = false → (runD x a k).2.1 = k + a.length
  | [], _, _, _, _ => rfl
  | c :: a, x, k, h0, hd => by
    rw [runD] at h0 hd ⊢
    by_cases h1 : (stepD x c).1 ≠ 0
    · rw [if_pos h1] at h0; exact absurd h0 h1
    · rw [if_neg h1] at h0 hd ⊢
      by_cases h2 : (stepD x c).2.done = true
      · rw [if_pos h2] at hd; simp only at hd; rw [h2] at hd; cases hd
      · rw [if_neg h2] at h0 hd ⊢
        rw [run_len a _ _ h0 hd, List.length_cons]; omega
theorem run_done : ∀ (a : List UInt8) (x : Ds) (k : Nat), x.done = false → (runD x a k).1 = 0 → (runD x a k).2.2.done = true → k < (runD x a k).2.1 ∧ (runD x a k).2.1 ≤ k + a.length
  | [], x, _, hx, _, hd => by rw [runD] at hd; simp only at hd; rw [hx] at hd; cases hd
  | c :: a, x, k, hx, h0, hd => by
    rw [runD] at h0 hd ⊢
    by_cases h1 : (stepD x c).1 ≠ 0
    · rw [if_pos h1] at h0; exact absurd h0 h1
    · rw [if_neg h1] at h0 hd ⊢
      by_cases h2 : (stepD x c).2.done = true
      · rw [if_pos h2]; simp only [List.length_cons]; omega
      · rw [if_neg h2] at h0 hd ⊢
        have := run_done a _ _ (by simpa using h2) h0 hd
        rw [List.length_cons]; omega
theorem run_bad : ∀ (a : List UInt8) (x : Ds) (k : Nat), (runD x a k).1 ≠ 0 → (runD x a k).2.1 = 0
  | [], _, _, h => absurd rfl h
  | c :: a, x, k, h => by
    rw [runD] at h ⊢
    by_cases h1 : (stepD x c).1 ≠ 0
    · rw [if_pos h1]
    · rw [if_neg h1] at h ⊢
      by_cases h2 : (stepD x c).2.done = true
      · rw [if_pos h2] at h; exact absurd rfl h
      · rw [if_neg h2] at h ⊢
        exact run_bad a _ _ h
theorem run_shift : ∀ (a : List UInt8) (x : Ds) (k m : Nat), (runD x a (k + m)).1 = (runD x a k).1 ∧ (runD x a (k + m)).2.2 = (runD x a k).2.2 ∧ ((runD x a k).1 = 0 → (runD x a (k + m)).2.1 = (runD x a k).2.1 + m)
  | [], _, _, _ => ⟨rfl, rfl, fun _ => rfl⟩
  | c :: a, x, k, m => by
    rw [runD, runD]
    by_cases h1 : (stepD x c).1 ≠ 0
    · simp only [if_pos h1]; exact ⟨trivial, trivial, fun h => absurd h h1⟩
    · simp only [if_neg h1]
      by_cases h2 : (stepD x c).2.done = true
      · simp only [if_pos h2]; exact ⟨trivial, trivial, fun _ => by omega⟩
      · simp only [if_neg h2]
        have := run_shift a (stepD x c).2 (k + 1) m
        rw [show k + 1 + m = k + m + 1 by omega] at this
        exact this
theorem run_inv : ∀ (a : List UInt8) (x : Ds) (k : Nat), Inv x → (runD x a k).1 = 0 → (runD x a k).2.2.done = false → Inv (runD x a k).2.2
  | [], _, _, hx, _, _ => hx
  | c :: a, x, k, hx, h0, hd => by
    rw [runD] at h0 hd ⊢
    by_cases h1 : (stepD x c).1 ≠ 0
    · rw [if_pos h1] at h0; exact absurd h0 h1
    · rw [if_neg h1] at h0 hd ⊢
      by_cases h2 : (stepD x c).2.done = true
      · rw [if_pos h2] at hd; simp only at hd; rw [h2] at hd; cases hd
      · rw [if_neg h2] at h0 hd ⊢
        exact run_inv a _ _ (inv_step hx c (by simpa using h1) (by simpa using h2)) h0 hd
theorem run_not8 : ∀ (a : List UInt8) (x : Ds) (k : Nat), Inv x → (runD x a k).1 ≠ 8
  | [], _, _, _ => by rw [runD]; simp
  | c :: a, x, k, hx => by
    rw [runD]
    by_cases h1 : (stepD x c).1 ≠ 0
    · rw [if_pos h1]; exact step_not8 hx c
    · rw [if_neg h1]
      by_cases h2 : (stepD x c).2.done = true
      · rw [if_pos h2]; simp
      · rw [if_neg h2]
        exact run_not8 a _ _ (inv_step hx c (by simpa using h1) (by simpa using h2))
/-- Of what begins what is whole nothing is whole. -/
theorem run_short (s : List UInt8) (x : Ds) (k j : Nat) (hx : x.done = false) (h0 : (runD x s k).1 = 0) (hd : (runD x s k).2.2.done = true) (hj : k + j < (runD x s k).2.1) :
    (runD x (s.take j) k).1 = 0 ∧ (runD x (s.take j) k).2.2.done = false := by
  have hl := run_done s x k hx h0 hd
  by_cases hc : (runD x (s.take j) k).1 ≠ 0 ∨ (runD x (s.take j) k).2.2.done = true
  · have he := run_stop (s.take j) (s.drop j) x k hx hc
    rw [List.take_append_drop] at he
    rw [he] at h0 hd hj
    have := run_done _ x k hx h0 hd
    rw [List.length_take] at this
    omega
  · refine ⟨Classical.byContradiction fun h => hc (.inl h), ?_⟩
    cases h : (runD x (s.take j) k).2.2.done
    · rfl
    · exact absurd (.inr h) hc
/-- What Decode answers: the body, how many bytes, the error. -/
def ans (r : Int × Nat × Ds) : List UInt8 × Nat × Int := if r.1 ≠ 0 then ([], 0, r.1) else if r.2.2.done = true then (r.2.2.body, r.2.1, 0) else ([], 0, 8)
theorem ans_bad {r : Int × Nat × Ds} (h : r.1 ≠ 0) : ans r = ([], 0, r.1) := by unfold ans; rw [if_pos h]
theorem ans_ok {r : Int × Nat × Ds} (h : r.1 = 0) (hd : r.2.2.done = true) : ans r = (r.2.2.body, r.2.1, 0) := by unfold ans; rw [if_neg (by simpa using h), if_pos hd]
theorem ans_short {r : Int × Nat × Ds} (h : r.1 = 0) (hd : r.2.2.done = false) : ans r = ([], 0, 8) := by unfold ans; rw [if_neg (by simpa using h), if_neg (by simp [hd])]
end Go.Proofs.YtofafonppajfkaaDoor
