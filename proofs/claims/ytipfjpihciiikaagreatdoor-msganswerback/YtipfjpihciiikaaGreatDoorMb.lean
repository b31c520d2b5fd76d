/-
  Plain functions on lists of bytes: the first line of a response, how it is printed and read; no program is named here.
-/
import Derived.Test.YtipfjpihciiikaaGreatDoorMa
import Derived.Lib.AtoiAll
import Derived.Lib.ItoaNum
import Derived.Lib.Strings
namespace Go.Proofs.YtipfjpihciiikaaGreatDoor
open Go.RowKit

def verP : List UInt8 := [72, 84, 84, 80, 47, 49, 46, 49, 32]
def codeB (n : Int) : Bool := decide (100 ≤ n ∧ n ≤ 599)
def reas (r : List UInt8) : Bool := allPlain r && decide (r.length ≤ 100)
def dig3 (u : Nat) : List UInt8 := [dg (u / 100), dg (u / 10 % 10), dg (u % 10)]
/-- The line, without its end. -/
def stB (n : Int) (r : List UInt8) : List UInt8 := verP ++ (dig3 n.toNat ++ 32 :: r)
def prS (n : Int) (r : List UInt8) : List UInt8 × Int := if codeB n = true then (if reas r = true then (stB n r ++ [13, 10], 0) else ([], 3)) else ([], 1)
theorem prS_ok (n : Int) (r : List UInt8) (hn : codeB n = true) (hr : reas r = true) : prS n r = (stB n r ++ [13, 10], 0) := by
  unfold prS; rw [if_pos hn, if_pos hr]
theorem prS_arg (n : Int) (r : List UInt8) (hn : codeB n = false) : prS n r = ([], 1) := by
  unfold prS; rw [if_neg (by rw [hn]; decide)]
theorem prS_syn (n : Int) (r : List UInt8) (hn : codeB n = true) (hr : reas r = false) : prS n r = ([], 3) := by
  unfold prS; rw [if_pos hn, if_neg (by rw [hr]; decide)]

theorem code_is (n : Int) (h : codeB n = true) : 100 ≤ n ∧ n ≤ 599 := by unfold codeB at h; simpa using h
theorem reas_is (r : List UInt8) (h : reas r = true) : (∀ c ∈ r, plainB c = true) ∧ r.length ≤ 100 := by
  unfold reas allPlain at h
  simp only [Bool.and_eq_true, List.all_eq_true, decide_eq_true_eq] at h
  exact h
theorem dec_3 (u : Nat) (h1 : 100 ≤ u) (h2 : u ≤ 999) : Lib.decDigits u = dig3 u := by
  rw [Lib.decDigits, dif_neg (by omega), Lib.decDigits_two (by omega) (by omega)]
  unfold dig3
  rw [show u / 10 / 10 = u / 100 by omega]
  rfl
theorem itoa_3 (n : Int) (h : codeB n = true) : Lib.itoa n = dig3 n.toNat := by
  obtain ⟨h1, h2⟩ := code_is n h
  rw [Lib.itoa, if_neg (by omega), dec_3 _ (by omega) (by omega)]
theorem numb_3 (u : Nat) (h : u < 1000) : numb (dig3 u) = u := by
  unfold numb dig3
  simp only [List.foldl_cons, List.foldl_nil]
  rw [dg_nat _ (by omega), dg_nat _ (by omega), dg_nat _ (by omega)]
  omega
theorem dig3_dig (u : Nat) (h : u < 1000) : (dig3 u).all isDig = true := by
  have e : ∀ k, k < 10 → isDig (dg k) = true := fun k hk => (dig_iff _).2 (by rw [dg_nat k hk]; omega)
  unfold dig3
  simp only [List.all_cons, List.all_nil, Bool.and_true]
  rw [e _ (by omega), e _ (by omega), e _ (by omega)]; rfl
theorem dig3_no (u : Nat) (h : u < 1000) (d : UInt8) (hd : isDig d = false) : ∀ b ∈ dig3 u, b ≠ d := by
  intro b hb e
  have := List.all_eq_true.1 (dig3_dig u h) b hb
  rw [e, hd] at this; cases this
theorem stB_len (n : Int) (r : List UInt8) : (stB n r).length = r.length + 13 := by simp [stB, verP, dig3]
theorem stB_no13 (n : Int) (r : List UInt8) (hn : codeB n = true) (hr : reas r = true) : ∀ b ∈ stB n r, b ≠ 13 := by
  obtain ⟨h1, h2⟩ := code_is n hn
  intro b hb
  unfold stB verP at hb
  simp only [List.mem_append, List.mem_cons] at hb
  rcases hb with hb | hb | rfl | hb
  · simp at hb; rcases hb with rfl | rfl | rfl | rfl | rfl | rfl | rfl | rfl <;> decide
  · exact dig3_no _ (by omega) 13 (by decide) b hb
  · decide
  · exact plain_not13 b ((reas_is r hr).1 b hb)

/-- The code and the reason, where they should stand. -/
def coL (l : List UInt8) : Int := numb ((l.drop 9).take 3)
def rdS (l : List UInt8) : Option (Int × List UInt8) :=
  if l = stB (coL l) (l.drop 13) ∧ codeB (coL l) = true ∧ reas (l.drop 13) = true then some (coL l, l.drop 13) else none
theorem stB_parts (n : Int) (r : List UInt8) : (stB n r).drop 9 = dig3 n.toNat ++ 32 :: r ∧ ((stB n r).drop 9).take 3 = dig3 n.toNat ∧ (stB n r).drop 13 = r := by
  unfold stB verP dig3
  exact ⟨rfl, rfl, rfl⟩
theorem coL_st (n : Int) (r : List UInt8) (hn : codeB n = true) : coL (stB n r) = n := by
  obtain ⟨h1, h2⟩ := code_is n hn
  unfold coL
  rw [(stB_parts n r).2.1, numb_3 _ (by omega)]; omega
theorem rdS_ok (n : Int) (r : List UInt8) (hn : codeB n = true) (hr : reas r = true) : rdS (stB n r) = some (n, r) := by
  unfold rdS
  rw [coL_st n r hn, (stB_parts n r).2.2, if_pos ⟨rfl, hn, hr⟩]
theorem rdS_some (l : List UInt8) (n : Int) (r : List UInt8) (h : rdS l = some (n, r)) : l = stB n r ∧ codeB n = true ∧ reas r = true := by
  unfold rdS at h
  split at h
  · rename_i hc
    simp only [Option.some.injEq, Prod.mk.injEq] at h
    obtain ⟨rfl, rfl⟩ := h
    exact hc
  · cases h
theorem rdS_none (l : List UInt8) (h : rdS l = none) (n : Int) (r : List UInt8) (hn : codeB n = true) (hr : reas r = true) : l ≠ stB n r := by
  rintro rfl
  rw [rdS_ok n r hn hr] at h; cases h

/-- What is read of a text: the code and the reason, how many bytes, and the error. -/
def paS (s : List UInt8) : (Int × List UInt8) × Int × Int :=
  if Lib.index s [13, 10] = -1 then ((0, []), 0, if 301 < s.length then 2 else 8)
  else if 300 < (Lib.index s [13, 10]).toNat then ((0, []), 0, 2)
  else match rdS (s.take (Lib.index s [13, 10]).toNat) with
    | none => ((0, []), 0, 3)
    | some x => (x, Lib.index s [13, 10] + 2, 0)
theorem paS_no (s : List UInt8) (h : Lib.index s [13, 10] = -1) : paS s = ((0, []), 0, if 301 < s.length then 2 else 8) := by
  unfold paS; rw [if_pos h]
theorem paS_large (s : List UInt8) (k : Nat) (h : Lib.index s [13, 10] = k) (hk : 300 < k) : paS s = ((0, []), 0, 2) := by
  have e : (Lib.index s [13, 10]).toNat = k := by rw [h]; simp
  unfold paS; rw [if_neg (by omega), e, if_pos hk]
theorem paS_bad (s : List UInt8) (k : Nat) (h : Lib.index s [13, 10] = k) (hk : k ≤ 300) (hr : rdS (s.take k) = none) : paS s = ((0, []), 0, 3) := by
  have e : (Lib.index s [13, 10]).toNat = k := by rw [h]; simp
  unfold paS; rw [if_neg (by omega), e, if_neg (by omega), hr]
theorem paS_ok (s : List UInt8) (k : Nat) (h : Lib.index s [13, 10] = k) (hk : k ≤ 300) (x : Int × List UInt8) (hr : rdS (s.take k) = some x) : paS s = (x, (k : Int) + 2, 0) := by
  have e : (Lib.index s [13, 10]).toNat = k := by rw [h]; simp
  unfold paS; rw [if_neg (by omega), e, if_neg (by omega), hr, h]
theorem paS_nil : paS [] = ((0, []), 0, 8) := by
  rw [paS_no [] rfl]; rfl

/-- What is read of three digits: the number, and whether it is a code that is told so. -/
def rdC (l : List UInt8) : Int × Bool :=
  match Lib.atoiAll l with
  | .ok v => (v, codeB v && decide (Lib.itoa v = l))
  | .«syntax» => (0, false)
  | .range => (Lib.atoiSat l, false)
theorem rdC_no (l : List UInt8) (h : ∀ n, codeB n = true → l ≠ dig3 n.toNat) : (rdC l).2 = false := by
  unfold rdC
  split
  · rename_i v hv
    cases hc : codeB v
    · rfl
    · show (true && decide (Lib.itoa v = l)) = false
      rw [decide_eq_false]; rfl
      rw [itoa_3 v hc]
      intro e; exact h v hc e.symm
  · rfl
  · rfl
theorem atoi_3 (n : Int) (h : codeB n = true) : Lib.atoiAll (dig3 n.toNat) = .ok n := by
  obtain ⟨h1, h2⟩ := code_is n h
  have key : ∀ k : Fin 500, (match Lib.atoiAll (dig3 (100 + k.val)) with | .ok v => v == ((100 + k.val : Nat) : Int) | _ => false) = true := by decide +kernel
  have hk := key ⟨n.toNat - 100, by omega⟩
  rw [show 100 + (n.toNat - 100) = n.toNat by omega] at hk
  split at hk
  · rename_i v hv
    have e : v = ((n.toNat : Nat) : Int) := by simpa using hk
    rw [hv, e]; congr 1; omega
  · cases hk
theorem rdC_ok (n : Int) (h : codeB n = true) : rdC (dig3 n.toNat) = (n, true) := by
  unfold rdC
  rw [atoi_3 n h]
  show (n, codeB n && decide (Lib.itoa n = dig3 n.toNat)) = (n, true)
  rw [h, itoa_3 n h, decide_eq_true rfl]; rfl
theorem rdC_is (l : List UInt8) (h : (rdC l).2 = true) : codeB (rdC l).1 = true ∧ l = dig3 (rdC l).1.toNat := by
  unfold rdC at h ⊢
  split at h
  · rename_i v hv
    simp only [Bool.and_eq_true, decide_eq_true_eq] at h
    exact ⟨h.1, by rw [← itoa_3 v h.1, h.2]⟩
  · cases h
  · cases h
end Go.Proofs.YtipfjpihciiikaaGreatDoor

/-
  What may come next in a body in chunks, byte by byte, in plain lists; no program is named here.
-/
namespace Go.Proofs.YtipfjpihciiikaaGreatDoor
open Go.RowKit

/-- What may come next: a number's digits (how many came, what they say), what is behind them, the end of that line, a chunk's bytes, 13 and 10 behind them, the last chunk's fields. -/
inductive St where
  | num (d n : Nat)
  | ext (k n : Nat)
  | endn (n : Nat)
  | byt (l : Nat)
  | crlf
  | lf
  | fld (k : Nat)
structure Ds where
  st : St
  body : List UInt8
  fields : List UInt8
  done : Bool
/-- A digit of base 16, in small letters or great ones. -/
def hv (c : UInt8) : Option Nat :=
  if 48 ≤ c.toNat ∧ c.toNat ≤ 57 then some (c.toNat - 48) else if 97 ≤ c.toNat ∧ c.toNat ≤ 102 then some (c.toNat - 87) else if 65 ≤ c.toNat ∧ c.toNat ≤ 70 then some (c.toNat - 55) else none
def ended (f : List UInt8) : Bool := decide (Lib.hasSuffix f [13, 10] = true)
/-- One byte: the error (0: none), and what stands then. -/
def stepD (x : Ds) (c : UInt8) : Int × Ds :=
  match x.st with
  | .num d n =>
    match hv c with
    | some v => if d < 4 then (0, { x with st := .num (d + 1) (n * 16 + v) }) else (3, x)
    | none => if 0 < d ∧ c = 59 then (0, { x with st := .ext 0 n }) else if 0 < d ∧ c = 13 then (0, { x with st := .endn n }) else (3, x)
  | .ext k n => if c = 13 then (0, { x with st := .endn n }) else if k < 50 ∧ plainB c = true then (0, { x with st := .ext (k + 1) n }) else (3, x)
  | .endn n => if c ≠ 10 then (3, x) else if 5000 < x.body.length + n then (2, x) else if n = 0 then (0, { x with st := .fld 0 }) else (0, { x with st := .byt n })
  | .byt l => (0, { x with body := x.body ++ [c], st := if 1 < l then .byt (l - 1) else .crlf })
  | .crlf => if c = 13 then (0, { x with st := .lf }) else (3, x)
  | .lf => if c = 10 then (0, { x with st := .num 0 0 }) else (3, x)
  | .fld k =>
    if ended (x.fields ++ [c]) = false ∧ k < 1100 then (0, { x with fields := x.fields ++ [c], st := .fld (k + 1) })
    else if (parS (x.fields ++ [c]) []).2.2 = 0 then (0, { x with fields := [], done := true })
    else if (parS (x.fields ++ [c]) []).2.2 ≠ 8 then ((parS (x.fields ++ [c]) []).2.2, x)
    else (0, { x with fields := x.fields ++ [c], st := if ended (x.fields ++ [c]) = true then .fld 0 else .fld (k + 1) })
def start : Ds := ⟨.num 0 0, [], [], false⟩
/-- What comes, byte by byte: the error, how many bytes were taken, what stands then. -/
def runD : Ds → List UInt8 → Nat → Int × Nat × Ds
  | x, [], k => (0, k, x)
  | x, c :: r, k => if (stepD x c).1 ≠ 0 then ((stepD x c).1, 0, x) else if (stepD x c).2.done = true then (0, k + 1, (stepD x c).2) else runD (stepD x c).2 r (k + 1)
theorem hv_lt (c : UInt8) (v : Nat) (h : hv c = some v) : v < 16 := by
  unfold hv at h
  split at h
  · have := Option.some.inj h; omega
  · split at h
    · have := Option.some.inj h; omega
    · split at h
      · have := Option.some.inj h; omega
      · cases h
end Go.Proofs.YtipfjpihciiikaaGreatDoor

/-
  Where 13, 10 first stands in a text that grows byte by byte; no program is named here.
-/
namespace Go.Proofs.YtipfjpihciiikaaGreatDoor
open Go.RowKit

theorem ix0 (a : UInt8) (l : List UInt8) : Lib.index (a :: l) [13, 10] = if a = 13 ∧ l.head? = some 10 then 0 else if Lib.index l [13, 10] = -1 then -1 else Lib.index l [13, 10] + 1 := by
  have e : (List.isPrefixOf [13, 10] (a :: l) = true) ↔ (a = 13 ∧ l.head? = some 10) := by
    cases l with
    | nil => simp [List.isPrefixOf]
    | cons b l =>
      simp only [List.isPrefixOf, List.head?, Bool.and_eq_true, beq_iff_eq, Option.some.injEq, Bool.and_true]
      constructor
      · rintro ⟨h1, h2⟩; exact ⟨h1.symm, h2.symm⟩
      · rintro ⟨h1, h2⟩; exact ⟨h1.symm, h2.symm⟩
  rw [Lib.index]
  by_cases h : a = 13 ∧ l.head? = some 10
  · rw [if_pos h, if_pos (e.2 h)]
  · rw [if_neg h, if_neg (fun x => h (e.1 x))]
    by_cases h2 : Lib.index l [13, 10] = -1
    · rw [if_pos h2, if_pos (by simp [h2])]
    · rw [if_neg h2, if_neg (by simp [h2])]
theorem ix_ge (l : List UInt8) : -1 ≤ Lib.index l [13, 10] := by
  rcases index_two' l [13, 10] with h | ⟨k, h, _⟩ <;> omega
theorem ix_cons {a : UInt8} {l : List UInt8} (h : Lib.index (a :: l) [13, 10] = -1) : ¬ (a = 13 ∧ l.head? = some 10) ∧ Lib.index l [13, 10] = -1 := by
  rw [ix0] at h
  split at h
  · omega
  · rename_i h1
    split at h
    · rename_i h2; exact ⟨h1, h2⟩
    · have := ix_ge l; omega
theorem ix_cons_no {a : UInt8} {l : List UInt8} (h1 : ¬ (a = 13 ∧ l.head? = some 10)) (h2 : Lib.index l [13, 10] = -1) : Lib.index (a :: l) [13, 10] = -1 := by
  rw [ix0, if_neg h1, if_pos h2]
theorem ix_cons_at {a : UInt8} {l : List UInt8} {k : Nat} (h1 : ¬ (a = 13 ∧ l.head? = some 10)) (h2 : Lib.index l [13, 10] = k) : Lib.index (a :: l) [13, 10] = (k : Int) + 1 := by
  rw [ix0, if_neg h1, h2, if_neg (by omega)]
theorem ix_nil : Lib.index [] [13, 10] = -1 := by simp [Lib.index]
theorem ix_one (c : UInt8) : Lib.index [c] [13, 10] = -1 := ix_cons_no (by simp) ix_nil
theorem ix_grow (a c : UInt8) (hac : ¬ (a = 13 ∧ c = 10)) : ∀ q : List UInt8, Lib.index (q ++ [a]) [13, 10] = -1 → Lib.index (q ++ [a] ++ [c]) [13, 10] = -1
  | [], _ => ix_cons_no (by simpa using hac) (ix_one c)
  | x :: q, h => by
    rw [List.cons_append] at h
    obtain ⟨h1, h2⟩ := ix_cons h
    refine ix_cons_no (l := q ++ [a] ++ [c]) ?_ (ix_grow a c hac q h2)
    cases q with
    | nil => simpa using h1
    | cons y q => simpa using h1
theorem ix_here (r : List UInt8) : ∀ q : List UInt8, Lib.index (q ++ [13]) [13, 10] = -1 → Lib.index (q ++ 13 :: 10 :: r) [13, 10] = (q.length : Int)
  | [], _ => by show Lib.index (13 :: 10 :: r) [13, 10] = _; rw [ix0, if_pos (by simp)]; rfl
  | x :: q, h => by
    rw [List.cons_append] at h
    obtain ⟨h1, h2⟩ := ix_cons h
    have := ix_cons_at (a := x) (l := q ++ 13 :: 10 :: r) (k := q.length) (by cases q with | nil => simp | cons y q => simpa using h1) (ix_here r q h2)
    simpa using this
theorem ix_later (r : List UInt8) : ∀ q : List UInt8, Lib.index q [13, 10] = -1 → Lib.index (q ++ r) [13, 10] = -1 ∨ (q.length : Int) ≤ Lib.index (q ++ r) [13, 10] + 1
  | [], _ => by have := ix_ge r; right; simp only [List.length_nil, List.nil_append]; omega
  | x :: q, h => by
    obtain ⟨h1, h2⟩ := ix_cons h
    have ih := ix_later r q h2
    have hg := ix_ge (q ++ r)
    show Lib.index (x :: (q ++ r)) [13, 10] = -1 ∨ _ ≤ Lib.index (x :: (q ++ r)) [13, 10] + 1
    rw [ix0]
    by_cases hh : x = 13 ∧ (q ++ r).head? = some 10
    · rw [if_pos hh]
      cases q with
      | nil => right; simp
      | cons y q => exact absurd (by simpa using hh) h1
    · rw [if_neg hh]
      by_cases h3 : Lib.index (q ++ r) [13, 10] = -1
      · rw [if_pos h3]; exact .inl rfl
      · rw [if_neg h3]; right
        rcases ih with h4 | h4
        · exact absurd h4 h3
        · simp only [List.length_cons]; omega
theorem ended_two (l : List UInt8) (a c : UInt8) : ended (l ++ [a] ++ [c]) = decide (a = 13 ∧ c = 10) := by
  have : (Lib.hasSuffix (l ++ [a] ++ [c]) [13, 10] = true) ↔ (a = 13 ∧ c = 10) := by
    unfold Lib.hasSuffix
    rw [List.isSuffixOf]
    simp only [List.reverse_append, List.reverse_cons, List.reverse_nil, List.nil_append, List.cons_append, List.isPrefixOf, Bool.and_eq_true, beq_iff_eq, Bool.and_true]
    constructor
    · rintro ⟨h1, h2⟩; exact ⟨by first | exact h2.symm | exact h1.symm, by first | exact h1.symm | exact h2.symm⟩
    · rintro ⟨h1, h2⟩; exact ⟨by first | exact h2.symm | exact h1.symm, by first | exact h1.symm | exact h2.symm⟩
  unfold ended
  exact decide_eq_decide.2 this
theorem ended_one (c : UInt8) : ended [c] = false := by simp [ended, Lib.hasSuffix, List.isSuffixOf, List.isPrefixOf]
end Go.Proofs.YtipfjpihciiikaaGreatDoor

/-
  What comes, byte by byte, and all of it at once: a body in chunks in plain lists; no program is named here.
-/
namespace Go.Proofs.YtipfjpihciiikaaGreatDoor
open Go.RowKit

theorem chk1_not8 (x : Fld) : chk1 x ≠ 8 := by
  unfold chk1
  repeat' split
  all_goals decide
theorem rdF_not8 (l : List UInt8) : (rdF l).2 ≠ 8 := by
  unfold rdF
  split
  · show (3 : Int) ≠ 8; decide
  · split
    · show (0 : Int) ≠ 8; decide
    · exact chk1_not8 _
/-- What has come of the last chunk's fields: whole lines, and so many bytes of one more. -/
def FInv (f : List UInt8) (k : Nat) : Prop :=
  ∃ (p q : List UInt8) (acc : List Fld), f = p ++ q ∧ q.length = k ∧ k ≤ 1101 ∧ Lib.index q [13, 10] = -1 ∧ (∀ z, parS (p ++ z) [] = parS z acc) ∧ acc.length ≤ 30 ∧ p.length ≤ 1102 * acc.length ∧ (p = [] ∨ ∃ p0, p = p0 ++ [10])
theorem finv_nil : FInv [] 0 := ⟨[], [], [], rfl, rfl, by omega, ix_nil, fun _ => rfl, by simp, by simp, .inl rfl⟩
theorem finv_len {f : List UInt8} {k : Nat} (h : FInv f k) : f.length ≤ 35000 ∧ k ≤ 1101 := by
  obtain ⟨p, q, acc, rfl, rfl, h1, _, _, h4, h5, _⟩ := h
  simp only [List.length_append]; omega
theorem finv_short {f : List UInt8} {k : Nat} (h : FInv f k) : (parS f []).2.2 = 8 := by
  obtain ⟨p, q, acc, rfl, rfl, h1, h2, h3, _⟩ := h
  rw [h3, par_none q acc h2, if_neg (by omega)]
/-- One byte more of the fields. -/
theorem finv_step {f : List UInt8} {k : Nat} (h : FInv f k) (c : UInt8) :
    (ended (f ++ [c]) = false ∧ k < 1100 ∧ FInv (f ++ [c]) (k + 1)) ∨
    (¬ (ended (f ++ [c]) = false ∧ k < 1100) ∧
      (((parS (f ++ [c]) []).2.2 = 0 ∧ ∀ r, (parS (f ++ c :: r) []).2 = (r, 0)) ∨
       ((parS (f ++ [c]) []).2.2 ≠ 0 ∧ (parS (f ++ [c]) []).2.2 ≠ 8 ∧ ∀ r, (parS (f ++ c :: r) []).2.2 = (parS (f ++ [c]) []).2.2) ∨
       ((parS (f ++ [c]) []).2.2 = 8 ∧ FInv (f ++ [c]) (if ended (f ++ [c]) = true then 0 else k + 1)))) := by
  obtain ⟨p, q, acc, rfl, rfl, h1, h2, h3, h4, h5, h6⟩ := h
  have hcut : ∀ r, parS (p ++ q ++ c :: r) [] = parS (q ++ c :: r) acc := fun r => by rw [List.append_assoc, h3]
  have hcut1 : parS (p ++ q ++ [c]) [] = parS (q ++ [c]) acc := hcut []
  have hno : Lib.index (q ++ [c]) [13, 10] = -1 → ended (p ++ q ++ [c]) = false →
      (ended (p ++ q ++ [c]) = false ∧ q.length < 1100 ∧ FInv (p ++ q ++ [c]) (q.length + 1)) ∨
      (¬ (ended (p ++ q ++ [c]) = false ∧ q.length < 1100) ∧
      (((parS (p ++ q ++ [c]) []).2.2 = 0 ∧ ∀ r, (parS (p ++ q ++ c :: r) []).2 = (r, 0)) ∨
       ((parS (p ++ q ++ [c]) []).2.2 ≠ 0 ∧ (parS (p ++ q ++ [c]) []).2.2 ≠ 8 ∧ ∀ r, (parS (p ++ q ++ c :: r) []).2.2 = (parS (p ++ q ++ [c]) []).2.2) ∨
       ((parS (p ++ q ++ [c]) []).2.2 = 8 ∧ FInv (p ++ q ++ [c]) (if ended (p ++ q ++ [c]) = true then 0 else q.length + 1)))) := by
    intro hi he
    have hinv : q.length + 1 ≤ 1101 → FInv (p ++ q ++ [c]) (q.length + 1) := fun hl =>
      ⟨p, q ++ [c], acc, by rw [List.append_assoc], by simp, hl, hi, h3, h4, h5, h6⟩
    by_cases hk : q.length < 1100
    · exact .inl ⟨he, hk, hinv (by omega)⟩
    · right
      refine ⟨fun x => hk x.2, .inr ?_⟩
      have hp : parS (p ++ q ++ [c]) [] = ([], [], if 1101 < q.length + 1 then 2 else 8) := by rw [hcut1, par_none _ acc hi]; simp
      by_cases h11 : 1101 < q.length + 1
      · left
        have e2 : (parS (p ++ q ++ [c]) []).2.2 = 2 := by rw [hp, if_pos h11]
        rw [e2]
        refine ⟨by decide, by decide, fun r => ?_⟩
        rw [hcut]
        rcases ix_later r (q ++ [c]) hi with h | h
        · rw [show q ++ c :: r = q ++ [c] ++ r by simp, par_none _ acc h, if_pos (by simp; omega)]
        · rcases index_two' (q ++ [c] ++ r) [13, 10] with h' | ⟨j, h', _⟩
          · simp at h; rw [List.append_assoc] at h'; simp at h'; omega
          · rw [show q ++ c :: r = q ++ [c] ++ r by simp, par_large _ acc j h' (by simp at h h'; omega) (by left; simp at h h'; omega)]
      · right
        rw [hp, if_neg h11, he]
        exact ⟨rfl, hinv (by omega)⟩
  rcases List.eq_nil_or_concat q with hq | ⟨q0, a, hq⟩
  · subst hq
    apply hno (ix_one c)
    rcases h6 with rfl | ⟨p0, rfl⟩
    · exact ended_one c
    · rw [List.append_nil, ended_two]; simp
  · rw [List.concat_eq_append] at hq
    have hend : ended (p ++ q ++ [c]) = decide (a = 13 ∧ c = 10) := by rw [hq, ← List.append_assoc, ended_two]
    by_cases hac : a = 13 ∧ c = 10
    · have he : ended (p ++ q ++ [c]) = true := by rw [hend]; exact decide_eq_true hac
      obtain ⟨rfl, rfl⟩ := hac
      right
      refine ⟨fun x => absurd x.1 (by rw [he]; simp), ?_⟩
      have hi : ∀ r, Lib.index (q ++ 10 :: r) [13, 10] = (q0.length : Int) := fun r => by
        rw [hq] at h2 ⊢
        rw [List.append_assoc]
        exact ix_here r q0 h2
      by_cases h0 : q0.length = 0
      · left
        have hall : ∀ r, parS (p ++ q ++ 10 :: r) [] = (acc, r, 0) := fun r => by
          rw [hcut, par_end _ acc (by rw [hi, h0]; rfl), hq, List.eq_nil_of_length_eq_zero h0]; rfl
        exact ⟨by rw [hall []], fun r => by rw [hall r]⟩
      · right
        by_cases hl : 1100 < q0.length ∨ 30 ≤ acc.length
        · left
          have hall : ∀ r, parS (p ++ q ++ 10 :: r) [] = ([], [], 2) := fun r => by rw [hcut, par_large _ acc q0.length (hi r) h0 hl]
          rw [hall []]
          exact ⟨by decide, by decide, fun r => by rw [hall r]⟩
        · have ht : ∀ r, (q ++ 10 :: r).take q0.length = q0 := fun r => by rw [hq, List.append_assoc]; simp
          have hd : ∀ r, (q ++ 10 :: r).drop (q0.length + 2) = r := fun r => by rw [hq, List.append_assoc, ← List.drop_drop]; simp
          by_cases hr : (rdF q0).2 = 0
          · right
            have hall : ∀ r, parS (p ++ q ++ 10 :: r) [] = parS r (acc ++ [(rdF q0).1]) := fun r => by
              rw [hcut, par_ok _ acc q0.length (hi r) h0 hl (by rw [ht]; exact hr), hd, ht]
            refine ⟨by rw [hall [], par_none _ _ ix_nil]; simp, ?_⟩
            rw [if_pos he]
            refine ⟨p ++ q ++ [10], [], acc ++ [(rdF q0).1], by simp, rfl, by omega, ix_nil, fun z => ?_, by simp; omega, ?_, .inr ⟨_, rfl⟩⟩
            · rw [← hall z]; simp
            · rw [hq]; simp; omega
          · left
            have hall : ∀ r, parS (p ++ q ++ 10 :: r) [] = ([], [], (rdF q0).2) := fun r => by
              rw [hcut, par_bad _ acc q0.length (hi r) h0 hl (by rw [ht]; exact hr), ht]
            rw [hall []]
            exact ⟨hr, rdF_not8 q0, fun r => by rw [hall r]⟩
    · have he : ended (p ++ q ++ [c]) = false := by rw [hend]; exact decide_eq_false hac
      refine hno ?_ he
      rw [hq] at h2 ⊢
      exact ix_grow a c hac q0 h2
end Go.Proofs.YtipfjpihciiikaaGreatDoor

/-
  Runs of a body's bytes, one by one, in plain lists: how they go on, how they end; no program is named here.
-/
namespace Go.Proofs.YtipfjpihciiikaaGreatDoor
open Go.RowKit

/-- What stands between two bytes. -/
def Inv (x : Ds) : Prop := x.done = false ∧ x.body.length ≤ 5000 ∧ match x.st with
  | .num d n => x.fields = [] ∧ d ≤ 4 ∧ n < 16 ^ d
  | .ext k n => x.fields = [] ∧ k ≤ 50 ∧ n < 65536
  | .endn n => x.fields = [] ∧ n < 65536
  | .byt l => x.fields = [] ∧ 0 < l ∧ x.body.length + l ≤ 5000
  | .crlf => x.fields = []
  | .lf => x.fields = []
  | .fld k => FInv x.fields k
theorem inv_start : Inv start := ⟨rfl, by simp [start], rfl, by omega, by simp⟩
theorem dig_lt {d n : Nat} (hd : d ≤ 4) (hn : n < 16 ^ d) : n < 65536 := by
  have hp : 16 ^ d ≤ 16 ^ 4 := Nat.pow_le_pow_right (by decide) hd
  have : (16 : Nat) ^ 4 = 65536 := by decide
  omega
theorem inv_step {x : Ds} (h : Inv x) (c : UInt8) (h0 : (stepD x c).1 = 0) (hd : (stepD x c).2.done = false) : Inv (stepD x c).2 := by
  obtain ⟨st, body, fields, done⟩ := x
  obtain ⟨h1, h2, h3⟩ := h
  cases st with
  | num d n =>
    obtain ⟨hf, hd4, hn⟩ := h3
    have hn6 := dig_lt hd4 hn
    simp only [stepD] at h0 ⊢
    cases hv1 : hv c with
    | some v =>
      simp only [hv1] at h0 ⊢
      have := hv_lt c v hv1
      by_cases h4 : d < 4
      · rw [if_pos h4]
        refine ⟨h1, h2, hf, h4, ?_⟩
        rw [Nat.pow_succ]; omega
      · rw [if_neg h4] at h0; exact absurd h0 (by simp)
    | none =>
      simp only [hv1] at h0 ⊢
      by_cases h5 : 0 < d ∧ c = 59
      · rw [if_pos h5]; exact ⟨h1, h2, hf, by omega, hn6⟩
      · rw [if_neg h5] at h0 ⊢
        by_cases h6 : 0 < d ∧ c = 13
        · rw [if_pos h6]; exact ⟨h1, h2, hf, hn6⟩
        · rw [if_neg h6] at h0; exact absurd h0 (by simp)
  | ext k n =>
    obtain ⟨hf, hk, hn⟩ := h3
    simp only [stepD] at h0 ⊢
    by_cases h5 : c = 13
    · rw [if_pos h5]; exact ⟨h1, h2, hf, hn⟩
    · rw [if_neg h5] at h0 ⊢
      by_cases h6 : k < 50 ∧ plainB c = true
      · rw [if_pos h6]; exact ⟨h1, h2, hf, by omega, hn⟩
      · rw [if_neg h6] at h0; exact absurd h0 (by simp)
  | endn n =>
    obtain ⟨hf, hn⟩ := h3
    simp only [stepD] at h0 ⊢
    by_cases h5 : c ≠ 10
    · rw [if_pos h5] at h0; exact absurd h0 (by simp)
    · rw [if_neg h5] at h0 ⊢
      by_cases h6 : 5000 < body.length + n
      · rw [if_pos h6] at h0; exact absurd h0 (by simp)
      · rw [if_neg h6] at h0 ⊢
        by_cases h7 : n = 0
        · rw [if_pos h7]
          refine ⟨h1, h2, ?_⟩
          show FInv fields 0
          rw [show fields = [] from hf]
          exact finv_nil
        · rw [if_neg h7]
          exact ⟨h1, h2, hf, by omega, by simp only; omega⟩
  | byt l =>
    obtain ⟨hf, hl, hb⟩ := h3
    simp only at hb hf
    simp only [stepD]
    refine ⟨h1, by simp only [List.length_append, List.length_cons, List.length_nil]; omega, ?_⟩
    by_cases h5 : 1 < l
    · simp only [if_pos h5]
      exact ⟨hf, by omega, by simp only [List.length_append, List.length_cons, List.length_nil]; omega⟩
    · simp only [if_neg h5]
      exact hf
  | crlf =>
    simp only [stepD] at h0 ⊢
    by_cases h5 : c = 13
    · rw [if_pos h5]; exact ⟨h1, h2, h3⟩
    · rw [if_neg h5] at h0; exact absurd h0 (by simp)
  | lf =>
    simp only [stepD] at h0 ⊢
    by_cases h5 : c = 10
    · rw [if_pos h5]; exact ⟨h1, h2, h3, by omega, by simp⟩
    · rw [if_neg h5] at h0; exact absurd h0 (by simp)
  | fld k =>
    have h3 : FInv fields k := h3
    simp only [stepD] at h0 hd ⊢
    rcases finv_step h3 c with ⟨e1, e2, e3⟩ | ⟨e1, e2⟩
    · rw [if_pos ⟨e1, e2⟩]; exact ⟨h1, h2, e3⟩
    · rw [if_neg e1] at h0 hd ⊢
      rcases e2 with ⟨e2, _⟩ | ⟨e2, e3, _⟩ | ⟨e2, e3⟩
      · rw [if_pos e2] at hd; exact absurd hd (by simp)
      · rw [if_neg e2, if_pos e3] at h0; exact absurd h0 e2
      · have e4 : ¬ (parS (fields ++ [c]) []).2.2 = 0 := by rw [e2]; decide
        have e5 : ¬ (parS (fields ++ [c]) []).2.2 ≠ 8 := by rw [e2]; decide
        rw [if_neg e4, if_neg e5]
        refine ⟨h1, h2, ?_⟩
        by_cases e6 : ended (fields ++ [c]) = true
        · rw [if_pos e6] at e3; simp only [if_pos e6]; exact e3
        · rw [if_neg e6] at e3; simp only [if_neg e6]; exact e3
theorem step_not8 {x : Ds} (h : Inv x) (c : UInt8) : (stepD x c).1 ≠ 8 := by
  obtain ⟨st, body, fields, done⟩ := x
  obtain ⟨h1, h2, h3⟩ := h
  cases st with
  | num d n =>
    simp only [stepD]
    cases hv c <;> simp only <;> repeat' split
    all_goals simp
  | ext k n => simp only [stepD]; repeat' split
               all_goals simp
  | endn n => simp only [stepD]; repeat' split
              all_goals simp
  | byt l => simp [stepD]
  | crlf => simp only [stepD]; split <;> simp
  | lf => simp only [stepD]; split <;> simp
  | fld k =>
    simp only [stepD]
    split
    · simp
    · split
      · simp
      · split
        · rename_i h; exact h
        · simp

theorem rn_app : ∀ (a b : List UInt8) (x : Ds) (k : Nat), (runD x a k).1 = 0 → (runD x a k).2.2.done = false → runD x (a ++ b) k = runD (runD x a k).2.2 b (runD x a k).2.1
  | [], _, _, _, _, _ => rfl
  | c :: a, b, x, k, h0, hd => by
    rw [runD] at h0 hd
    rw [List.cons_append, runD, runD]
    by_cases h1 : (stepD x c).1 ≠ 0
    · rw [if_pos h1] at h0; exact absurd h0 h1
    · rw [if_neg h1] at h0 hd
      simp only [if_neg h1]
      by_cases h2 : (stepD x c).2.done = true
      · rw [if_pos h2] at hd; simp only at hd; rw [h2] at hd; cases hd
      · rw [if_neg h2] at h0 hd
        simp only [if_neg h2]
        exact rn_app a b _ _ h0 hd
theorem run_stop : ∀ (a b : List UInt8) (x : Ds) (k : Nat), x.done = false → ((runD x a k).1 ≠ 0 ∨ (runD x a k).2.2.done = true) → runD x (a ++ b) k = runD x a k
  | [], _, x, _, hx, h => by
    rcases h with h | h
    · exact absurd rfl h
    · rw [runD] at h; simp only at h; rw [hx] at h; cases h
  | c :: a, b, x, k, hx, h => by
    rw [runD] at h
    rw [List.cons_append, runD, runD]
    by_cases h1 : (stepD x c).1 ≠ 0
    · simp only [if_pos h1]
    · rw [if_neg h1] at h
      simp only [if_neg h1]
      by_cases h2 : (stepD x c).2.done = true
      · simp only [if_pos h2]
      · rw [if_neg h2] at h
        simp only [if_neg h2]
        exact run_stop a b _ _ (by simpa using h2) h
theorem run_len : ∀ (a : List UInt8) (x : Ds) (k : Nat), (runD x a k).1 = 0 → (runD x a k).2.2.done = false → (runD x a k).2.1 = k + a.length
  | [], _, _, _, _ => rfl
  | c :: a, x, k, h0, hd => by
    rw [runD] at h0 hd ⊢
    by_cases h1 : (stepD x c).1 ≠ 0
    · rw [if_pos h1] at h0; exact absurd h0 h1
    · rw [if_neg h1] at h0 hd ⊢
      by_cases h2 : (stepD x c).2.done = true
      · rw [if_pos h2] at hd; simp only at hd; rw [h2] at hd; cases hd
      · rw [if_neg h2] at h0 hd ⊢
        rw [run_len a _ _ h0 hd, List.length_cons]; omega
theorem run_done : ∀ (a : List UInt8) (x : Ds) (k : Nat), x.done = false → (runD x a k).1 = 0 → (runD x a k).2.2.done = true → k < (runD x a k).2.1 ∧ (runD x a k).2.1 ≤ k + a.length
  | [], x, _, hx, _, hd => by rw [runD] at hd; simp only at hd; rw [hx] at hd; cases hd
  | c :: a, x, k, hx, h0, hd => by
    rw [runD] at h0 hd ⊢
    by_cases h1 : (stepD x c).1 ≠ 0
    · rw [if_pos h1] at h0; exact absurd h0 h1
    · rw [if_neg h1] at h0 hd ⊢
      by_cases h2 : (stepD x c).2.done = true
      · rw [if_pos h2]; simp only [List.length_cons]; omega
      · rw [if_neg h2] at h0 hd ⊢
        have := run_done a _ _ (by simpa using h2) h0 hd
        rw [List.length_cons]; omega
theorem run_bad : ∀ (a : List UInt8) (x : Ds) (k : Nat), (runD x a k).1 ≠ 0 → (runD x a k).2.1 = 0
  | [], _, _, h => absurd rfl h
  | c :: a, x, k, h => by
    rw [runD] at h ⊢
    by_cases h1 : (stepD x c).1 ≠ 0
    · rw [if_pos h1]
    · rw [if_neg h1] at h ⊢
      by_cases h2 : (stepD x c).2.done = true
      · rw [if_pos h2] at h; exact absurd rfl h
      · rw [if_neg h2] at h ⊢
        exact run_bad a _ _ h
theorem run_shift : ∀ (a : List UInt8) (x : Ds) (k m : Nat), (runD x a (k + m)).1 = (runD x a k).1 ∧ (runD x a (k + m)).2.2 = (runD x a k).2.2 ∧ ((runD x a k).1 = 0 → (runD x a (k + m)).2.1 = (runD x a k).2.1 + m)
  | [], _, _, _ => ⟨rfl, rfl, fun _ => rfl⟩
  | c :: a, x, k, m => by
    rw [runD, runD]
    by_cases h1 : (stepD x c).1 ≠ 0
    · simp only [if_pos h1]; exact ⟨trivial, trivial, fun h => absurd h h1⟩
    · simp only [if_neg h1]
      by_cases h2 : (stepD x c).2.done = true
      · simp only [if_pos h2]; exact ⟨trivial, trivial, fun _ => by omega⟩
      · simp only [if_neg h2]
        have := run_shift a (stepD x c).2 (k + 1) m
        rw [show k + 1 + m = k + m + 1 by omega] at this
        exact this
theorem run_inv : ∀ (a : List UInt8) (x : Ds) (k : Nat), Inv x → (runD x a k).1 = 0 → (runD x a k).2.2.done = false → Inv (runD x a k).2.2
  | [], _, _, hx, _, _ => hx
  | c :: a, x, k, hx, h0, hd => by
    rw [runD] at h0 hd ⊢
    by_cases h1 : (stepD x c).1 ≠ 0
    · rw [if_pos h1] at h0; exact absurd h0 h1
    · rw [if_neg h1] at h0 hd ⊢
      by_cases h2 : (stepD x c).2.done = true
      · rw [if_pos h2] at hd; simp only at hd; rw [h2] at hd; cases hd
      · rw [if_neg h2] at h0 hd ⊢
        exact run_inv a _ _ (inv_step hx c (by simpa using h1) (by simpa using h2)) h0 hd
theorem run_not8 : ∀ (a : List UInt8) (x : Ds) (k : Nat), Inv x → (runD x a k).1 ≠ 8
  | [], _, _, _ => by rw [runD]; simp
  | c :: a, x, k, hx => by
    rw [runD]
    by_cases h1 : (stepD x c).1 ≠ 0
    · rw [if_pos h1]; exact step_not8 hx c
    · rw [if_neg h1]
      by_cases h2 : (stepD x c).2.done = true
      · rw [if_pos h2]; simp
      · rw [if_neg h2]
        exact run_not8 a _ _ (inv_step hx c (by simpa using h1) (by simpa using h2))
/-- Of what begins what is whole nothing is whole. -/
theorem run_short (s : List UInt8) (x : Ds) (k j : Nat) (hx : x.done = false) (h0 : (runD x s k).1 = 0) (hd : (runD x s k).2.2.done = true) (hj : k + j < (runD x s k).2.1) :
    (runD x (s.take j) k).1 = 0 ∧ (runD x (s.take j) k).2.2.done = false := by
  have hl := run_done s x k hx h0 hd
  by_cases hc : (runD x (s.take j) k).1 ≠ 0 ∨ (runD x (s.take j) k).2.2.done = true
  · have he := run_stop (s.take j) (s.drop j) x k hx hc
    rw [List.take_append_drop] at he
    rw [he] at h0 hd hj
    have := run_done _ x k hx h0 hd
    rw [List.length_take] at this
    omega
  · refine ⟨Classical.byContradiction fun h => hc (.inl h), ?_⟩
    cases h : (runD x (s.take j) k).2.2.done
    · rfl
    · exact absurd (.inr h) hc
/-- What Decode answers: the body, how many bytes, the error. -/
def ans (r : Int × Nat × Ds) : List UInt8 × Nat × Int := if r.1 ≠ 0 then ([], 0, r.1) else if r.2.2.done = true then (r.2.2.body, r.2.1, 0) else ([], 0, 8)
theorem ans_bad {r : Int × Nat × Ds} (h : r.1 ≠ 0) : ans r = ([], 0, r.1) := by unfold ans; rw [if_pos h]
theorem ans_ok {r : Int × Nat × Ds} (h : r.1 = 0) (hd : r.2.2.done = true) : ans r = (r.2.2.body, r.2.1, 0) := by unfold ans; rw [if_neg (by simpa using h), if_pos hd]
theorem ans_short {r : Int × Nat × Ds} (h : r.1 = 0) (hd : r.2.2.done = false) : ans r = ([], 0, 8) := by unfold ans; rw [if_neg (by simpa using h), if_neg (by simp [hd])]
end Go.Proofs.YtipfjpihciiikaaGreatDoor

/-
  A body in chunks, chunk by chunk and byte by byte, in plain lists; no program is named here.
-/
namespace Go.Proofs.YtipfjpihciiikaaGreatDoor
open Go.RowKit

abbrev D (st : St) (o : List UInt8) : Ds := ⟨st, o, [], false⟩
theorem run_on {x y : Ds} {c : UInt8} (r : List UInt8) (a : Nat) (h : stepD x c = (0, y)) (hy : y.done = false) : runD x (c :: r) a = runD y r (a + 1) := by
  rw [runD, h, if_neg (by simp), if_neg (by simp [hy])]
theorem run_err {x y : Ds} {c : UInt8} {e : Int} (r : List UInt8) (a : Nat) (h : stepD x c = (e, y)) (he : e ≠ 0) : runD x (c :: r) a = (e, 0, x) := by
  rw [runD, h, if_pos (by simpa using he)]
theorem drop_at {l : List UInt8} {k : Nat} {c : UInt8} (h : l[k]? = some c) : l.drop k = c :: l.drop (k + 1) ∧ k < l.length := by
  obtain ⟨hk, hc⟩ := List.getElem?_eq_some_iff.1 h
  exact ⟨by rw [List.drop_eq_getElem_cons hk, hc], hk⟩

/-- What stands behind a chunk's line. -/
def aft (o : List UInt8) (n : Nat) (r : List UInt8) (a : Nat) : Int × Nat × Ds :=
  if 5000 < o.length + n then (2, 0, D (.endn n) o) else if n = 0 then runD (D (.fld 0) o) r a else runD (D (.byt n) o) r a
theorem run_endn (o : List UInt8) (n : Nat) (r : List UInt8) (a : Nat) : runD (D (.endn n) o) (10 :: r) a = aft o n r (a + 1) := by
  unfold aft
  by_cases h1 : 5000 < o.length + n
  · rw [if_pos h1]
    exact run_err (e := 2) (y := D (.endn n) o) r a (by simp only [stepD]; rw [if_neg (by simp), if_pos h1]) (by decide)
  · rw [if_neg h1]
    by_cases h2 : n = 0
    · rw [if_pos h2]
      exact run_on r a (by simp only [stepD]; rw [if_neg (by simp), if_neg h1, if_pos h2]) rfl
    · rw [if_neg h2]
      exact run_on r a (by simp only [stepD]; rw [if_neg (by simp), if_neg h1, if_neg h2]) rfl
theorem run_endn_bad (o : List UInt8) (n : Nat) (c : UInt8) (r : List UInt8) (a : Nat) (h : c ≠ 10) : runD (D (.endn n) o) (c :: r) a = (3, 0, D (.endn n) o) :=
  run_err (y := D (.endn n) o) r a (by simp only [stepD]; rw [if_pos h]) (by decide)
def ShortR (l : List UInt8) : Prop := ∀ o a, (runD (D (.num 0 0) o) l a).1 = 0 ∧ (runD (D (.num 0 0) o) l a).2.2.done = false
def BadR (l : List UInt8) : Prop := ∀ o a, (runD (D (.num 0 0) o) l a).1 = 3
def HeadR (l : List UInt8) (n k : Nat) : Prop := k ≤ l.length ∧ n < 65536 ∧ ∀ o a, runD (D (.num 0 0) o) l a = aft o n (l.drop k) (a + k)
def NumS (l : List UInt8) (k n : Nat) : Prop := k ≤ 4 ∧ k ≤ l.length ∧ n < 16 ^ k ∧ ∀ o a, runD (D (.num 0 0) o) l a = runD (D (.num k n) o) (l.drop k) (a + k)
def ExtS (l : List UInt8) (m n k : Nat) : Prop := m ≤ 50 ∧ k ≤ l.length ∧ n < 65536 ∧ ∀ o a, runD (D (.num 0 0) o) l a = runD (D (.ext m n) o) (l.drop k) (a + k)
theorem nm_zero (l : List UInt8) : NumS l 0 0 := ⟨by omega, by omega, by simp, fun _ _ => rfl⟩
theorem nm_next {l : List UInt8} {k n v : Nat} {c : UInt8} (h : NumS l k n) (hk : k < 4) (hc : l[k]? = some c) (hv1 : hv c = some v) : NumS l (k + 1) (n * 16 + v) := by
  obtain ⟨h1, h2, h3, h4⟩ := h
  obtain ⟨hd, hl⟩ := drop_at hc
  have hv2 := hv_lt c v hv1
  refine ⟨by omega, by omega, by rw [Nat.pow_succ]; omega, fun o a => ?_⟩
  rw [h4, hd, ← Nat.add_assoc]
  exact run_on _ _ (by simp only [stepD, hv1]; rw [if_pos hk]) rfl
theorem nm_short {l : List UInt8} {k n : Nat} (h : NumS l k n) (hk : k = l.length) : ShortR l := by
  obtain ⟨h1, h2, h3, h4⟩ := h
  intro o a
  rw [h4, hk, List.drop_length]; exact ⟨rfl, rfl⟩
theorem nm_none {l : List UInt8} {n : Nat} {c : UInt8} (h : NumS l 0 n) (hc : l[0]? = some c) (hv1 : hv c = none) : BadR l := by
  obtain ⟨h1, h2, h3, h4⟩ := h
  obtain ⟨hd, hl⟩ := drop_at hc
  intro o a
  rw [h4, hd, run_err (e := 3) (y := D (.num 0 n) o) _ _ (by simp only [stepD, hv1]; rw [if_neg (by simp), if_neg (by simp)]) (by decide)]
theorem nm_semi {l : List UInt8} {k n : Nat} (h : NumS l k n) (hk : 0 < k) (hc : l[k]? = some 59) : ExtS l 0 n (k + 1) := by
  obtain ⟨h1, h2, h3, h4⟩ := h
  obtain ⟨hd, hl⟩ := drop_at hc
  refine ⟨by omega, by omega, dig_lt h1 h3, fun o a => ?_⟩
  rw [h4, hd, ← Nat.add_assoc]
  exact run_on _ _ (by simp only [stepD, show hv 59 = none by decide]; rw [if_pos ⟨hk, trivial⟩]) rfl
theorem run_num13 {k n : Nat} (o r : List UInt8) (a : Nat) (hk : 0 < k) : runD (D (.num k n) o) (13 :: r) a = runD (D (.endn n) o) r (a + 1) :=
  run_on r a (by simp only [stepD, show hv 13 = none by decide]; rw [if_neg (by simp), if_pos ⟨hk, trivial⟩]) rfl
theorem run_ext13 {m n : Nat} (o r : List UInt8) (a : Nat) : runD (D (.ext m n) o) (13 :: r) a = runD (D (.endn n) o) r (a + 1) :=
  run_on r a (by simp only [stepD]; rw [if_pos trivial]) rfl
theorem drop_two {l r : List UInt8} {k : Nat} {b c : UInt8} (h : l.drop k = b :: c :: r) : k + 2 ≤ l.length ∧ l.drop (k + 2) = r := by
  have hl := congrArg List.length h
  simp only [List.length_drop, List.length_cons] at hl
  refine ⟨by omega, ?_⟩
  rw [← List.drop_drop, h]; rfl
theorem nm_end {l r : List UInt8} {k n : Nat} (h : NumS l k n) (hk : 0 < k) (hc : l.drop k = 13 :: 10 :: r) : HeadR l n (k + 2) := by
  obtain ⟨h1, h2, h3, h4⟩ := h
  obtain ⟨hl, hd⟩ := drop_two hc
  refine ⟨hl, dig_lt h1 h3, fun o a => ?_⟩
  rw [h4, hc, hd, run_num13 o _ _ hk, run_endn, show a + k + 1 + 1 = a + (k + 2) by omega]
theorem nm_cr {l : List UInt8} {k n : Nat} (h : NumS l k n) (hk : 0 < k) (hc : l.drop k = [13]) : ShortR l := by
  obtain ⟨h1, h2, h3, h4⟩ := h
  intro o a
  rw [h4, hc, run_num13 o _ _ hk]; exact ⟨rfl, rfl⟩
theorem nm_cr_bad {l r : List UInt8} {k n : Nat} {c : UInt8} (h : NumS l k n) (hk : 0 < k) (hc : l.drop k = 13 :: c :: r) (h10 : c ≠ 10) : BadR l := by
  obtain ⟨h1, h2, h3, h4⟩ := h
  intro o a
  rw [h4, hc, run_num13 o _ _ hk, run_endn_bad _ _ _ _ _ h10]
theorem nm_bad {l r : List UInt8} {k n : Nat} {c : UInt8} (h : NumS l k n) (hc : l.drop k = c :: r) (h4k : 4 ≤ k ∨ hv c = none) (h59 : c ≠ 59) (h13 : c ≠ 13) : BadR l := by
  obtain ⟨h1, h2, h3, h4⟩ := h
  intro o a
  rw [h4, hc, run_err (e := 3) (y := D (.num k n) o) _ _ ?_ (by decide)]
  simp only [stepD]
  cases hv1 : hv c with
  | some v => simp only; rw [if_neg (by rcases h4k with h | h; omega; rw [hv1] at h; cases h)]
  | none => simp only; rw [if_neg (fun x => h59 x.2), if_neg (fun x => h13 x.2)]
theorem plain13 : plainB 13 = false := by decide
theorem ext_next {l : List UInt8} {m n k : Nat} {c : UInt8} (h : ExtS l m n k) (hm : m < 50) (hc : l[k]? = some c) (hp : plainB c = true) : ExtS l (m + 1) n (k + 1) := by
  obtain ⟨h1, h2, h3, h4⟩ := h
  obtain ⟨hd, hl⟩ := drop_at hc
  refine ⟨by omega, by omega, h3, fun o a => ?_⟩
  rw [h4, hd, ← Nat.add_assoc]
  refine run_on _ _ ?_ rfl
  simp only [stepD]
  rw [if_neg (by rintro rfl; rw [plain13] at hp; cases hp), if_pos ⟨hm, hp⟩]
theorem ext_short {l : List UInt8} {m n k : Nat} (h : ExtS l m n k) (hc : l.drop k = [] ∨ l.drop k = [13]) : ShortR l := by
  obtain ⟨h1, h2, h3, h4⟩ := h
  intro o a
  rcases hc with hc | hc
  · rw [h4, hc]; exact ⟨rfl, rfl⟩
  · rw [h4, hc, run_ext13]; exact ⟨rfl, rfl⟩
theorem ext_end {l r : List UInt8} {m n k : Nat} (h : ExtS l m n k) (hc : l.drop k = 13 :: 10 :: r) : HeadR l n (k + 2) := by
  obtain ⟨h1, h2, h3, h4⟩ := h
  obtain ⟨hl, hd⟩ := drop_two hc
  refine ⟨hl, h3, fun o a => ?_⟩
  rw [h4, hc, hd, run_ext13, run_endn, show a + k + 1 + 1 = a + (k + 2) by omega]
theorem ext_cr_bad {l r : List UInt8} {m n k : Nat} {c : UInt8} (h : ExtS l m n k) (hc : l.drop k = 13 :: c :: r) (h10 : c ≠ 10) : BadR l := by
  obtain ⟨h1, h2, h3, h4⟩ := h
  intro o a
  rw [h4, hc, run_ext13, run_endn_bad _ _ _ _ _ h10]
theorem ext_bad {l r : List UInt8} {m n k : Nat} {c : UInt8} (h : ExtS l m n k) (hc : l.drop k = c :: r) (hm : 50 ≤ m ∨ plainB c = false) (h13 : c ≠ 13) : BadR l := by
  obtain ⟨h1, h2, h3, h4⟩ := h
  intro o a
  rw [h4, hc, run_err (e := 3) (y := D (.ext m n) o) _ _ ?_ (by decide)]
  simp only [stepD]
  rw [if_neg h13, if_neg]
  rintro ⟨x, y⟩
  rcases hm with h | h
  · omega
  · rw [h] at y; cases y

theorem byt_run : ∀ (p o r : List UInt8) (a : Nat), p.length ≠ 0 → runD (D (.byt p.length) o) (p ++ r) a = runD (D .crlf (o ++ p)) r (a + p.length)
  | [], _, _, _, h => absurd rfl h
  | c :: p, o, r, a, _ => by
    rw [List.cons_append, run_on (y := D (if 1 < p.length + 1 then .byt p.length else .crlf) (o ++ [c])) (p ++ r) a rfl rfl]
    cases p with
    | nil => rfl
    | cons b p =>
      rw [if_pos (by simp), byt_run (b :: p) (o ++ [c]) r (a + 1) (by simp)]
      simp only [List.append_assoc, List.cons_append, List.nil_append, List.length_cons]
      rw [show a + 1 + (p.length + 1) = a + (p.length + 1 + 1) by omega]
theorem byt_short : ∀ (r o : List UInt8) (n a : Nat), r.length < n → (runD (D (.byt n) o) r a).1 = 0 ∧ (runD (D (.byt n) o) r a).2.2.done = false
  | [], _, _, _, _ => ⟨rfl, rfl⟩
  | c :: r, o, n, a, h => by
    simp only [List.length_cons] at h
    rw [run_on (y := D (.byt (n - 1)) (o ++ [c])) r a (by simp only [stepD]; rw [if_pos (by omega)]) rfl]
    exact byt_short r _ _ _ (by omega)
theorem run_crlf (o r : List UInt8) (a : Nat) : runD (D .crlf o) (13 :: 10 :: r) a = runD (D (.num 0 0) o) r (a + 2) := by
  rw [run_on (y := D .lf o) _ a (by simp only [stepD]; rw [if_pos trivial]) rfl]
  exact run_on (y := D (.num 0 0) o) r (a + 1) (by simp only [stepD]; rw [if_pos trivial]) rfl
/-- A chunk's bytes: they aren't all there. -/
theorem byt_no (o r : List UInt8) (n a : Nat) (hn : n ≠ 0) (h : r.length ≤ n ∨ r.drop n = [13]) : (runD (D (.byt n) o) r a).1 = 0 ∧ (runD (D (.byt n) o) r a).2.2.done = false := by
  by_cases h1 : r.length < n
  · exact byt_short r o n a h1
  · have hl : (r.take n).length = n := by rw [List.length_take]; omega
    have := byt_run (r.take n) o (r.drop n) a (by omega)
    rw [hl, List.take_append_drop] at this
    rw [this]
    rcases h with h | h
    · rw [List.drop_eq_nil_of_le h]; exact ⟨rfl, rfl⟩
    · rw [h, run_on (y := D .lf (o ++ r.take n)) _ _ (by simp only [stepD]; rw [if_pos trivial]) rfl]; exact ⟨rfl, rfl⟩
theorem byt_ok (o r q : List UInt8) (n a : Nat) (hn : n ≠ 0) (h : r.drop n = 13 :: 10 :: q) : runD (D (.byt n) o) r a = runD (D (.num 0 0) (o ++ r.take n)) q (a + n + 2) := by
  have hl0 := congrArg List.length h
  simp only [List.length_drop, List.length_cons] at hl0
  have hl : (r.take n).length = n := by rw [List.length_take]; omega
  have := byt_run (r.take n) o (r.drop n) a (by omega)
  rw [hl, List.take_append_drop] at this
  rw [this, h, run_crlf]
theorem byt_bad (o r : List UInt8) (n a : Nat) (hn : n ≠ 0) (h1 : n < r.length) (h2 : r.drop n ≠ [13]) (h3 : ∀ q, r.drop n ≠ 13 :: 10 :: q) : (runD (D (.byt n) o) r a).1 = 3 := by
  have hl : (r.take n).length = n := by rw [List.length_take]; omega
  have := byt_run (r.take n) o (r.drop n) a (by omega)
  rw [hl, List.take_append_drop] at this
  rw [this]
  have hd : (r.drop n).length ≠ 0 := by rw [List.length_drop]; omega
  generalize r.drop n = z at *
  cases z with
  | nil => exact absurd rfl hd
  | cons b z =>
    by_cases hb : b = 13
    · subst hb
      rw [run_on (y := D .lf (o ++ r.take n)) _ _ (by simp only [stepD]; rw [if_pos trivial]) rfl]
      cases z with
      | nil => exact absurd rfl h2
      | cons c z =>
        have hc : c ≠ 10 := by rintro rfl; exact h3 z rfl
        rw [run_err (e := 3) (y := D .lf (o ++ r.take n)) _ _ (by simp only [stepD]; rw [if_neg hc]) (by decide)]
    · rw [run_err (e := 3) (y := D .crlf (o ++ r.take n)) _ _ (by simp only [stepD]; rw [if_neg hb]) (by decide)]
/-- The last chunk's fields, byte by byte and all at once. -/
theorem fld_run : ∀ (r f o : List UInt8) (k a : Nat), FInv f k →
    ((parS (f ++ r) []).2.2 = 0 → (runD ⟨.fld k, o, f, false⟩ r a).1 = 0 ∧ (runD ⟨.fld k, o, f, false⟩ r a).2.2.done = true ∧ (runD ⟨.fld k, o, f, false⟩ r a).2.2.body = o ∧ (runD ⟨.fld k, o, f, false⟩ r a).2.1 + (parS (f ++ r) []).2.1.length = a + r.length) ∧
    ((parS (f ++ r) []).2.2 = 8 → (runD ⟨.fld k, o, f, false⟩ r a).1 = 0 ∧ (runD ⟨.fld k, o, f, false⟩ r a).2.2.done = false) ∧
    ((parS (f ++ r) []).2.2 ≠ 0 → (parS (f ++ r) []).2.2 ≠ 8 → (runD ⟨.fld k, o, f, false⟩ r a).1 = (parS (f ++ r) []).2.2)
  | [], f, o, k, a, h => by
    have := finv_short h
    rw [List.append_nil, this]
    exact ⟨fun h => absurd h (by decide), fun _ => ⟨rfl, rfl⟩, fun _ h => absurd rfl h⟩
  | c :: r, f, o, k, a, h => by
    have happ : f ++ c :: r = f ++ [c] ++ r := by simp
    have hlen : a + (c :: r).length = a + 1 + r.length := by simp only [List.length_cons]; omega
    rcases finv_step h c with ⟨e1, e2, e3⟩ | ⟨e1, e2⟩
    · have hs : stepD ⟨.fld k, o, f, false⟩ c = (0, ⟨.fld (k + 1), o, f ++ [c], false⟩) := by simp only [stepD]; rw [if_pos ⟨e1, e2⟩]
      rw [run_on r a hs rfl, happ, hlen]
      exact fld_run r (f ++ [c]) o (k + 1) (a + 1) e3
    · rcases e2 with ⟨e2, e3⟩ | ⟨e2, e3, e4⟩ | ⟨e2, e3⟩
      · have hs : stepD ⟨.fld k, o, f, false⟩ c = (0, ⟨.fld k, o, [], true⟩) := by simp only [stepD]; rw [if_neg e1, if_pos e2]
        rw [runD, hs, if_neg (by simp), if_pos rfl, e3 r, hlen]
        exact ⟨fun _ => ⟨rfl, rfl, rfl, rfl⟩, fun h => absurd h (by simp), fun h => absurd rfl h⟩
      · have hs : stepD ⟨.fld k, o, f, false⟩ c = ((parS (f ++ [c]) []).2.2, ⟨.fld k, o, f, false⟩) := by simp only [stepD]; rw [if_neg e1, if_neg e2, if_pos e3]
        rw [run_err r a hs e2, e4 r]
        exact ⟨fun h => absurd h e2, fun h => absurd h e3, fun _ _ => rfl⟩
      · have hs : stepD ⟨.fld k, o, f, false⟩ c = (0, ⟨.fld (if ended (f ++ [c]) = true then 0 else k + 1), o, f ++ [c], false⟩) := by
          simp only [stepD]
          rw [if_neg e1, if_neg (by rw [e2]; decide), if_neg (by rw [e2]; decide)]
          by_cases e6 : ended (f ++ [c]) = true
          · rw [if_pos e6, if_pos e6]
          · rw [if_neg e6, if_neg e6]
        rw [run_on r a hs rfl, happ, hlen]
        exact fld_run r (f ++ [c]) o _ (a + 1) e3
/-- Where a chunk begins, so many bytes into what has come. -/
def At (s : List UInt8) (a : Nat) (o : List UInt8) : Prop := a ≤ s.length ∧ o.length ≤ 5000 ∧ runD start s 0 = runD (D (.num 0 0) o) (s.drop a) a
theorem at_start (s : List UInt8) : At s 0 [] := ⟨by omega, by simp, rfl⟩
theorem at_short {s o : List UInt8} {a : Nat} (h : At s a o) (hs : ShortR (s.drop a)) : ans (runD start s 0) = ([], 0, 8) := by
  rw [h.2.2]; exact ans_short (hs o a).1 (hs o a).2
theorem at_bad {s o : List UInt8} {a : Nat} (h : At s a o) (hs : BadR (s.drop a)) : ans (runD start s 0) = ([], 0, 3) := by
  rw [h.2.2, ans_bad (by rw [hs o a]; decide), hs o a]
theorem at_head {s o : List UInt8} {a n k : Nat} (h : At s a o) (hs : HeadR (s.drop a) n k) : a + k ≤ s.length ∧ runD start s 0 = aft o n (s.drop (a + k)) (a + k) := by
  obtain ⟨h1, h2, h3⟩ := hs
  rw [List.length_drop] at h1
  have := h.1
  exact ⟨by omega, by rw [h.2.2, h3, List.drop_drop]⟩
theorem aft_large {s o : List UInt8} {n a : Nat} (h : runD start s 0 = aft o n (s.drop a) a) (hn : 5000 < o.length + n) : ans (runD start s 0) = ([], 0, 2) := by
  rw [h]; unfold aft; rw [if_pos hn]; rfl
theorem aft_short {s o : List UInt8} {n a : Nat} (h : runD start s 0 = aft o n (s.drop a) a) (hl : ¬ 5000 < o.length + n) (hn : n ≠ 0) (hr : s.length ≤ a + n ∨ s.drop (a + n) = [13]) : ans (runD start s 0) = ([], 0, 8) := by
  have hb := byt_no o (s.drop a) n a hn (by rw [List.length_drop, List.drop_drop]; exact hr.imp (fun h => by omega) id)
  rw [h]; unfold aft; rw [if_neg hl, if_neg hn]
  exact ans_short hb.1 hb.2
theorem aft_bad {s o : List UInt8} {n a : Nat} (h : runD start s 0 = aft o n (s.drop a) a) (hl : ¬ 5000 < o.length + n) (hn : n ≠ 0) (h1 : a + n < s.length) (h2 : s.drop (a + n) ≠ [13]) (h3 : ∀ q, s.drop (a + n) ≠ 13 :: 10 :: q) : ans (runD start s 0) = ([], 0, 3) := by
  have hb := byt_bad o (s.drop a) n a hn (by rw [List.length_drop]; omega) (by rw [List.drop_drop]; exact h2) (by rw [List.drop_drop]; exact h3)
  rw [h]; unfold aft; rw [if_neg hl, if_neg hn]
  rw [ans_bad (by rw [hb]; decide), hb]
theorem aft_next {s o q : List UInt8} {n a : Nat} (h : runD start s 0 = aft o n (s.drop a) a) (hl : ¬ 5000 < o.length + n) (hn : n ≠ 0) (h3 : s.drop (a + n) = 13 :: 10 :: q) : At s (a + n + 2) (o ++ (s.drop a).take n) := by
  have hb := byt_ok o (s.drop a) q n a hn (by rw [List.drop_drop]; exact h3)
  obtain ⟨hl2, hq⟩ := drop_two h3
  refine ⟨hl2, ?_, ?_⟩
  · rw [List.length_append, List.length_take, List.length_drop]; omega
  · rw [h]; unfold aft; rw [if_neg hl, if_neg hn, hb, hq]
theorem aft_fields {s o : List UInt8} {a : Nat} (h : runD start s 0 = aft o 0 (s.drop a) a) (hl : ¬ 5000 < o.length + 0) (ha : a ≤ s.length) :
    ans (runD start s 0) = if (parS (s.drop a) []).2.2 = 0 then (o, s.length - (parS (s.drop a) []).2.1.length, 0) else ([], 0, (parS (s.drop a) []).2.2) := by
  have hf := fld_run (s.drop a) [] o 0 a finv_nil
  rw [List.nil_append] at hf
  obtain ⟨f1, f2, f3⟩ := hf
  rw [h]; unfold aft; rw [if_neg hl, if_pos rfl]
  by_cases h0 : (parS (s.drop a) []).2.2 = 0
  · obtain ⟨g1, g2, g3, g4⟩ := f1 h0
    rw [if_pos h0, ans_ok g1 g2, g3]
    have g5 : (runD (D (.fld 0) o) (s.drop a) a).2.1 + (parS (s.drop a) []).2.1.length = a + (s.drop a).length := g4
    have g6 : (s.drop a).length = s.length - a := List.length_drop
    rw [show (runD (D (.fld 0) o) (s.drop a) a).2.1 = s.length - (parS (s.drop a) []).2.1.length by omega]
  · rw [if_neg h0]
    by_cases h8 : (parS (s.drop a) []).2.2 = 8
    · obtain ⟨g1, g2⟩ := f2 h8
      rw [ans_short g1 g2, h8]
    · have := f3 h0 h8
      rw [ans_bad (by rw [this]; exact h0), this]
end Go.Proofs.YtipfjpihciiikaaGreatDoor

/-
  Numbers in base 16, in plain lists; no program is named here.
-/
namespace Go.Proofs.YtipfjpihciiikaaGreatDoor
open Go.RowKit

/-- A digit of base 16. -/
def hx (d : Nat) : UInt8 := if d < 10 then UInt8.ofNat (48 + d) else UInt8.ofNat (87 + d)
def hexd (u : Nat) : List UInt8 := if _h : u < 16 then [hx u] else hexd (u / 16) ++ [hx (u % 16)]
termination_by u
decreasing_by omega
theorem hexd_one (u : Nat) (h : u < 16) : hexd u = [hx u] := by rw [hexd, dif_pos h]
theorem hexd_step (u : Nat) (h : ¬ u < 16) : hexd u = hexd (u / 16) ++ [hx (u % 16)] := by rw [hexd, dif_neg h]
theorem hexd_pos (u : Nat) : 1 ≤ (hexd u).length := by rw [hexd]; split <;> simp
theorem hexd_len (u : Nat) (h : u < 65536) : (hexd u).length ≤ 4 := by
  rw [hexd]; split
  · simp
  · rw [hexd]; split
    · simp
    · rw [hexd]; split
      · simp
      · rw [hexd, dif_pos (by omega)]; simp
end Go.Proofs.YtipfjpihciiikaaGreatDoor

/-
  A body in chunks, in plain lists; no program is named here.
-/
namespace Go.Proofs.YtipfjpihciiikaaGreatDoor
open Go.RowKit

def endC : List UInt8 := [48, 13, 10, 13, 10]
/-- l in chunks of n + 1 bytes, with the one that ends them. -/
def encS (n : Nat) (l : List UInt8) : List UInt8 :=
  if _h : l.length = 0 then endC
  else hexd (min (n + 1) l.length) ++ ([13, 10] ++ (l.take (min (n + 1) l.length) ++ ([13, 10] ++ encS n (l.drop (min (n + 1) l.length)))))
termination_by l.length
decreasing_by rw [List.length_drop]; omega
theorem encS_nil (n : Nat) (l : List UInt8) (h : l.length = 0) : encS n l = endC := by rw [encS, dif_pos h]
theorem encS_step (n : Nat) (l : List UInt8) (h : l.length ≠ 0) (m : Nat) (hm : m = min (n + 1) l.length) : encS n l = hexd m ++ ([13, 10] ++ (l.take m ++ ([13, 10] ++ encS n (l.drop m)))) := by
  subst hm
  rw [encS, dif_neg h]
theorem encS_len (n k : Nat) : ∀ l : List UInt8, l.length ≤ k → l.length ≤ 5000 → (encS n l).length ≤ 9 * l.length + 5 := by
  induction k with
  | zero => intro l h _; rw [encS_nil n l (by omega)]; show 5 ≤ _; omega
  | succ k ih =>
    intro l h h5
    by_cases h0 : l.length = 0
    · rw [encS_nil n l h0]; show 5 ≤ _; omega
    · rw [encS_step n l h0 _ rfl]
      have h1 := hexd_len (min (n + 1) l.length) (by omega)
      have h2 := ih (l.drop (min (n + 1) l.length)) (by rw [List.length_drop]; omega) (by rw [List.length_drop]; omega)
      rw [List.length_drop] at h2
      simp only [List.length_append, List.length_take, List.length_cons, List.length_nil]
      omega
def encE (l : List UInt8) (size : Int) : List UInt8 × Int := if size < 1 then ([], 1) else if 5000 < l.length then ([], 2) else (encS (size - 1).toNat l, 0)
end Go.Proofs.YtipfjpihciiikaaGreatDoor

/-
  A body that was laid in chunks, read byte by byte, in plain lists; no program is named here.
-/
namespace Go.Proofs.YtipfjpihciiikaaGreatDoor
open Go.RowKit

theorem hv_hx : ∀ u : Nat, u < 16 → hv (hx u) = some u := by decide
theorem hex_run (k : Nat) : ∀ (u : Nat), u ≤ k → (hexd u).length ≤ 4 → ∀ (o r : List UInt8) (a : Nat), runD (D (.num 0 0) o) (hexd u ++ r) a = runD (D (.num (hexd u).length u) o) r (a + (hexd u).length) := by
  induction k with
  | zero =>
    intro u hu _ o r a
    obtain rfl : u = 0 := by omega
    rw [hexd_one 0 (by omega)]
    exact run_on r a (by simp only [stepD, hv_hx 0 (by omega)]; rfl) rfl
  | succ k ih =>
    intro u hu hl o r a
    by_cases h : u < 16
    · rw [hexd_one u h]
      exact run_on r a (by simp only [stepD, hv_hx u h]; simp) rfl
    · have hs := hexd_step u h
      rw [hs] at hl ⊢
      simp only [List.length_append, List.length_cons, List.length_nil] at hl
      have hlen : (hexd (u / 16) ++ [hx (u % 16)]).length = (hexd (u / 16)).length + 1 := by simp
      rw [List.append_assoc, ih (u / 16) (by omega) (by omega), hlen]
      refine (run_on (y := D (.num ((hexd (u / 16)).length + 1) u) o) r _ ?_ rfl).trans ?_
      · simp only [stepD, hv_hx (u % 16) (by omega)]
        rw [if_pos (by omega), show u / 16 * 16 + u % 16 = u by omega]
      · rw [Nat.add_assoc]
theorem end_run (o rest : List UInt8) (a : Nat) (ho : o.length ≤ 5000) :
    (runD (D (.num 0 0) o) (endC ++ rest) a).1 = 0 ∧ (runD (D (.num 0 0) o) (endC ++ rest) a).2.2.done = true ∧ (runD (D (.num 0 0) o) (endC ++ rest) a).2.2.body = o ∧ (runD (D (.num 0 0) o) (endC ++ rest) a).2.1 = a + 5 := by
  have e : runD (D (.num 0 0) o) (endC ++ rest) a = runD (D (.fld 0) o) (13 :: 10 :: rest) (a + 3) := by
    show runD (D (.num 0 0) o) (48 :: 13 :: 10 :: 13 :: 10 :: rest) a = _
    rw [run_on (y := D (.num 1 0) o) _ a (by simp only [stepD, show hv 48 = some 0 by decide]; rfl) rfl, run_num13 o _ _ (by omega), run_endn]
    unfold aft
    rw [if_neg (by omega), if_pos rfl]
  have hp : parS ([] ++ 13 :: 10 :: rest) [] = ([], rest, 0) := by
    rw [List.nil_append, par_end _ _ (by rw [ix0, if_pos (by simp)])]; rfl
  obtain ⟨f1, _, _⟩ := fld_run (13 :: 10 :: rest) [] o 0 (a + 3) finv_nil
  obtain ⟨g1, g2, g3, g4⟩ := f1 (by rw [hp])
  rw [hp] at g4
  rw [e]
  refine ⟨g1, g2, g3, ?_⟩
  have g5 : (runD (D (.fld 0) o) (13 :: 10 :: rest) (a + 3)).2.1 + rest.length = a + 3 + (13 :: 10 :: rest : List UInt8).length := g4
  simp only [List.length_cons] at g5
  omega
theorem enc_run (n : Nat) (rest : List UInt8) (k : Nat) : ∀ (l o : List UInt8) (a : Nat), l.length ≤ k → o.length + l.length ≤ 5000 →
    (runD (D (.num 0 0) o) (encS n l ++ rest) a).1 = 0 ∧ (runD (D (.num 0 0) o) (encS n l ++ rest) a).2.2.done = true ∧ (runD (D (.num 0 0) o) (encS n l ++ rest) a).2.2.body = o ++ l ∧ (runD (D (.num 0 0) o) (encS n l ++ rest) a).2.1 = a + (encS n l).length := by
  induction k with
  | zero =>
    intro l o a hl ho
    obtain rfl := List.eq_nil_of_length_eq_zero (Nat.le_zero.1 hl)
    rw [encS_nil n [] rfl, List.append_nil]
    exact end_run o rest a (by omega)
  | succ k ih =>
    intro l o a hl ho
    by_cases h0 : l.length = 0
    · obtain rfl := List.eq_nil_of_length_eq_zero h0
      rw [encS_nil n [] rfl, List.append_nil]
      exact end_run o rest a (by omega)
    · have hm : ∃ m, m = min (n + 1) l.length := ⟨_, rfl⟩
      obtain ⟨m, hm⟩ := hm
      have hml : m ≤ l.length := by omega
      have hm0 : m ≠ 0 := by omega
      have hx4 := hexd_len m (by omega)
      have hx1 := hexd_pos m
      have htk : (l.take m).length = m := by rw [List.length_take]; omega
      have hi := ih (l.drop m) (o ++ l.take m) (a + (hexd m).length + 2 + m + 2) (by rw [List.length_drop]; omega) (by rw [List.length_append, htk, List.length_drop]; omega)
      have e : runD (D (.num 0 0) o) (encS n l ++ rest) a = runD (D (.num 0 0) (o ++ l.take m)) (encS n (l.drop m) ++ rest) (a + (hexd m).length + 2 + m + 2) := by
        rw [encS_step n l h0 m hm, List.append_assoc, hex_run m m (Nat.le_refl _) hx4]
        show runD _ (13 :: 10 :: ((l.take m ++ ([13, 10] ++ encS n (l.drop m))) ++ rest)) _ = _
        rw [run_num13 o _ _ (by omega), run_endn]
        unfold aft
        rw [if_neg (by omega), if_neg hm0]
        have := byt_run (l.take m) o (13 :: 10 :: (encS n (l.drop m) ++ rest)) (a + (hexd m).length + 1 + 1) (by omega)
        rw [htk] at this
        rw [show (l.take m ++ ([13, 10] ++ encS n (l.drop m))) ++ rest = l.take m ++ (13 :: 10 :: (encS n (l.drop m) ++ rest)) by simp, this, run_crlf]
      rw [e]
      obtain ⟨h1, h2, h3, h4⟩ := hi
      refine ⟨h1, h2, ?_, ?_⟩
      · rw [h3, List.append_assoc, List.take_append_drop]
      · rw [h4, encS_step n l h0 m hm]
        simp only [List.length_append, htk, List.length_cons, List.length_nil]
        omega
end Go.Proofs.YtipfjpihciiikaaGreatDoor

/-
  Runs of a body's bytes that come in pieces, in plain lists; no program is named here.
-/
namespace Go.Proofs.YtipfjpihciiikaaGreatDoor
open Go.RowKit

theorem cut_pc (s : List UInt8) (k j : Nat) : s.drop k = (s.drop k).take j ++ s.drop (k + j) := by
  rw [← List.drop_drop, List.take_append_drop]
theorem split_bad {s : List UInt8} {y : Ds} {k : Nat} (j : Nat) (h : runD start s 0 = runD y (s.drop k) k) (hy : Inv y) (h1 : (runD y ((s.drop k).take j) 0).1 ≠ 0) :
    ans (runD start s 0) = ([], 0, (runD y ((s.drop k).take j) 0).1) ∧ (runD y ((s.drop k).take j) 0).2.1 = 0 := by
  obtain ⟨e1, _, _⟩ := run_shift ((s.drop k).take j) y 0 k
  rw [Nat.zero_add] at e1
  refine ⟨?_, run_bad _ _ _ h1⟩
  have e0 : runD y (s.drop k) k = runD y ((s.drop k).take j) k := by
    conv => lhs; rw [cut_pc s k j]
    exact run_stop _ _ y k hy.1 (.inl (by rw [e1]; exact h1))
  rw [h, e0, ans_bad (by rw [e1]; exact h1), e1]
theorem split_done {s : List UInt8} {y : Ds} {k : Nat} (j : Nat) (h : runD start s 0 = runD y (s.drop k) k) (hy : Inv y) (h1 : (runD y ((s.drop k).take j) 0).1 = 0) (hd : (runD y ((s.drop k).take j) 0).2.2.done = true) :
    ans (runD start s 0) = ((runD y ((s.drop k).take j) 0).2.2.body, (runD y ((s.drop k).take j) 0).2.1 + k, 0) := by
  obtain ⟨e1, e2, e3⟩ := run_shift ((s.drop k).take j) y 0 k
  rw [Nat.zero_add] at e1 e2 e3
  have e0 : runD y (s.drop k) k = runD y ((s.drop k).take j) k := by
    conv => lhs; rw [cut_pc s k j]
    exact run_stop _ _ y k hy.1 (.inr (by rw [e2]; exact hd))
  rw [h, e0, ans_ok (by rw [e1]; exact h1) (by rw [e2]; exact hd), e2, e3 h1]
theorem split_go {s : List UInt8} {y : Ds} {k j : Nat} (h : runD start s 0 = runD y (s.drop k) k) (hy : Inv y) (hj : k + j ≤ s.length) (h1 : (runD y ((s.drop k).take j) 0).1 = 0) (hd : (runD y ((s.drop k).take j) 0).2.2.done = false) :
    (runD y ((s.drop k).take j) 0).2.1 = j ∧ runD start s 0 = runD (runD y ((s.drop k).take j) 0).2.2 (s.drop (k + j)) (k + j) ∧ Inv (runD y ((s.drop k).take j) 0).2.2 := by
  obtain ⟨e1, e2, e3⟩ := run_shift ((s.drop k).take j) y 0 k
  rw [Nat.zero_add] at e1 e2 e3
  have hl := run_len _ _ _ h1 hd
  have hlen : ((s.drop k).take j).length = j := by rw [List.length_take, List.length_drop]; omega
  rw [hlen, Nat.zero_add] at hl
  refine ⟨hl, ?_, run_inv _ _ _ hy h1 hd⟩
  rw [h]
  conv => lhs; rw [cut_pc s k j]
  rw [rn_app _ _ y k (by rw [e1]; exact h1) (by rw [e2]; exact hd), e2, e3 h1, hl, Nat.add_comm j k]
end Go.Proofs.YtipfjpihciiikaaGreatDoor

/-
  What is read of what has come does not change when more comes: first lines, fields and bodies in plain lists; no program is named here.
-/
namespace Go.Proofs.YtipfjpihciiikaaGreatDoor
open Go.RowKit

theorem ix_app (z : List UInt8) : ∀ (s : List UInt8) (k : Nat), Lib.index s [13, 10] = k → Lib.index (s ++ z) [13, 10] = k
  | [], k, h => by rw [ix_nil] at h; omega
  | a :: l, k, h => by
    rw [List.cons_append]
    rw [ix0] at h ⊢
    by_cases h1 : a = 13 ∧ l.head? = some 10
    · rw [if_pos h1] at h
      rw [if_pos ⟨h1.1, by rw [List.head?_append, h1.2]; rfl⟩]; exact h
    · rw [if_neg h1] at h
      by_cases h2 : Lib.index l [13, 10] = -1
      · rw [if_pos h2] at h; omega
      · rw [if_neg h2] at h
        have hg := ix_ge l
        have ih := ix_app z l (k - 1) (by omega)
        have hl : l ≠ [] := by rintro rfl; exact h2 ix_nil
        rw [if_neg (fun x => h1 ⟨x.1, by
          cases l with
          | nil => exact absurd rfl hl
          | cons b l => simpa using x.2⟩), if_neg (by omega), ih]
        omega
/-- Where there is none yet, it comes behind what is there (but for one byte). -/
theorem ix_far (s z : List UInt8) (h : Lib.index s [13, 10] = -1) : Lib.index (s ++ z) [13, 10] = -1 ∨ ∃ k : Nat, Lib.index (s ++ z) [13, 10] = k ∧ s.length ≤ k + 1 := by
  rcases ix_later z s h with h1 | h1
  · exact .inl h1
  · rcases index_two' (s ++ z) [13, 10] with h2 | ⟨k, h2, _⟩
    · exact .inl h2
    · exact .inr ⟨k, h2, by omega⟩
theorem par_more (n : Nat) : ∀ (s z : List UInt8) (acc : List Fld), s.length ≤ n → (parS s acc).2.2 ≠ 8 → parS (s ++ z) acc = ((parS s acc).1, (if (parS s acc).2.2 = 0 then (parS s acc).2.1 ++ z else []), (parS s acc).2.2) := by
  induction n with
  | zero =>
    intro s z acc hs h
    obtain rfl := List.eq_nil_of_length_eq_zero (Nat.le_zero.1 hs)
    rw [par_none _ _ ix_nil] at h
    exact absurd rfl h
  | succ n ih =>
    intro s z acc hs h
    rcases index_two' s [13, 10] with hi | ⟨k, hi, hk⟩
    · rw [par_none s acc hi] at h ⊢
      have hl : 1101 < s.length := Classical.byContradiction fun hc => h (by rw [if_neg hc])
      simp only [if_pos hl]
      rcases ix_far s z hi with h1 | ⟨k, h1, h2⟩
      · rw [par_none _ acc h1, if_pos (by rw [List.length_append]; omega)]; rfl
      · rw [par_large _ acc k h1 (by omega) (by omega)]; rfl
    · have hk : k + 2 ≤ s.length := hk
      have hz := ix_app z s k hi
      have et : (s ++ z).take k = s.take k := List.take_append_of_le_length (by omega)
      have ed : (s ++ z).drop (k + 2) = s.drop (k + 2) ++ z := List.drop_append_of_le_length hk
      by_cases h0 : k = 0
      · subst h0
        rw [par_end s acc hi, par_end (s ++ z) acc hz, ed]; rfl
      · by_cases hl : 1100 < k ∨ 30 ≤ acc.length
        · rw [par_large s acc k hi h0 hl, par_large (s ++ z) acc k hz h0 hl]; rfl
        · by_cases hr : (rdF (s.take k)).2 = 0
          · rw [par_ok s acc k hi h0 hl hr] at h ⊢
            rw [par_ok (s ++ z) acc k hz h0 hl (by rw [et]; exact hr), et, ed]
            exact ih (s.drop (k + 2)) z _ (by rw [List.length_drop]; omega) h
          · rw [par_bad s acc k hi h0 hl hr, par_bad (s ++ z) acc k hz h0 hl (by rw [et]; exact hr), et]
            simp only [if_neg hr]
theorem par_rest' (s : List UInt8) : (parS s []).2.1.length ≤ s.length := by
  by_cases h : (parS s []).2.2 = 0
  · have := (parS_is s (parS s []).1 (parS s []).2.1 (parS s []).2.2 rfl).2 h; omega
  · have h2 : ∀ n s acc, (fpar n s acc).2.2 ≠ 0 → (fpar n s acc).2.1 = [] := by
      intro n
      induction n with
      | zero => intro s acc _; rfl
      | succ n ih =>
        intro s acc hh
        rw [fpar] at hh ⊢
        cases hp : pstep s acc with
        | inr x => rw [hp] at hh; exact ih _ _ hh
        | inl r =>
          rw [hp] at hh
          simp only at hh ⊢
          unfold pstep at hp
          (repeat' split at hp) <;> cases hp <;> first | rfl | exact absurd rfl hh
    have h3 : (parS s []).2.1 = [] := h2 _ _ _ h
    rw [h3]; simp
theorem paR_more (s z : List UInt8) (h : (paR s).2.2 ≠ 8) : paR (s ++ z) = paR s := by
  rcases index_two' s [13, 10] with hi | ⟨k, hi, hk⟩
  · rw [paR_no s hi] at h ⊢
    have hl : 301 < s.length := Classical.byContradiction fun hc => h (by rw [if_neg hc])
    rw [if_pos hl]
    rcases ix_far s z hi with h1 | ⟨k, h1, h2⟩
    · rw [paR_no _ h1, if_pos (by rw [List.length_append]; omega)]
    · rw [paR_large _ k h1 (by omega)]
  · have hk : k + 2 ≤ s.length := hk
    have hz := ix_app z s k hi
    have et : (s ++ z).take k = s.take k := List.take_append_of_le_length (by omega)
    by_cases hl : 300 < k
    · rw [paR_large s k hi hl, paR_large (s ++ z) k hz hl]
    · cases hr : rdR (s.take k) with
      | none => rw [paR_bad s k hi (by omega) hr, paR_bad (s ++ z) k hz (by omega) (by rw [et]; exact hr)]
      | some x => rw [paR_ok s k hi (by omega) x hr, paR_ok (s ++ z) k hz (by omega) x (by rw [et]; exact hr)]
theorem stB_le (n : Int) (r : List UInt8) (hr : reas r = true) : (stB n r).length ≤ 113 ∧ 13 ≤ (stB n r).length := by
  rw [stB_len]; have := (reas_is r hr).2; omega
theorem paS_back (n : Int) (r z : List UInt8) (hn : codeB n = true) (hr : reas r = true) : paS (stB n r ++ 13 :: 10 :: z) = ((n, r), ((stB n r).length : Int) + 2, 0) := by
  have hi := index_at_crlf (stB n r) z (stB_no13 n r hn hr)
  have hl := (stB_le n r hr).1
  refine paS_ok _ _ hi (by omega) (n, r) ?_
  rw [List.take_left']
  · exact rdS_ok n r hn hr
  · rfl
theorem step_body {x : Ds} (h : Inv x) (c : UInt8) (h0 : (stepD x c).1 = 0) : (stepD x c).2.body.length ≤ 5000 := by
  cases hd : (stepD x c).2.done
  · exact (inv_step h c h0 hd).2.1
  · obtain ⟨st, body, fields, done⟩ := x
    obtain ⟨h1, h2, h3⟩ := h
    have h1 : done = false := h1
    subst h1
    cases st with
    | num d n =>
      simp only [stepD] at hd
      (repeat' split at hd) <;> cases hd
    | ext k n => simp only [stepD] at hd; (repeat' split at hd) <;> cases hd
    | endn n => simp only [stepD] at hd; (repeat' split at hd) <;> cases hd
    | byt l => simp only [stepD] at hd; cases hd
    | crlf => simp only [stepD] at hd; split at hd <;> cases hd
    | lf => simp only [stepD] at hd; split at hd <;> cases hd
    | fld k =>
      simp only [stepD]
      repeat' split
      all_goals exact h2
theorem run_body : ∀ (a : List UInt8) (x : Ds) (k : Nat), Inv x → (runD x a k).1 = 0 → (runD x a k).2.2.body.length ≤ 5000
  | [], _, _, hx, _ => hx.2.1
  | c :: a, x, k, hx, h0 => by
    rw [runD] at h0 ⊢
    by_cases h1 : (stepD x c).1 ≠ 0
    · rw [if_pos h1] at h0; exact absurd h0 h1
    · rw [if_neg h1] at h0 ⊢
      by_cases h2 : (stepD x c).2.done = true
      · rw [if_pos h2]; exact step_body hx c (by simpa using h1)
      · rw [if_neg h2] at h0 ⊢
        exact run_body a _ _ (inv_step hx c (by simpa using h1) (by simpa using h2)) h0
theorem ans_more (s z : List UInt8) (h : (ans (runD start s 0)).2.2 ≠ 8) : ans (runD start (s ++ z) 0) = ans (runD start s 0) := by
  by_cases hc : (runD start s 0).1 ≠ 0 ∨ (runD start s 0).2.2.done = true
  · rw [run_stop s z start 0 rfl hc]
  · exfalso
    apply h
    have h0 : (runD start s 0).1 = 0 := Classical.byContradiction fun x => hc (.inl x)
    have hd : (runD start s 0).2.2.done = false := by
      cases hd : (runD start s 0).2.2.done
      · rfl
      · exact absurd (.inr hd) hc
    rw [ans_short h0 hd]
theorem ans_is (s : List UInt8) : ((ans (runD start s 0)).2.2 ≠ 0 → (ans (runD start s 0)).1 = [] ∧ (ans (runD start s 0)).2.1 = 0) ∧ ((ans (runD start s 0)).2.2 = 0 → (ans (runD start s 0)).1.length ≤ 5000 ∧ (ans (runD start s 0)).2.1 ≤ s.length) := by
  by_cases h0 : (runD start s 0).1 = 0
  · cases hd : (runD start s 0).2.2.done
    · rw [ans_short h0 hd]; exact ⟨fun _ => ⟨rfl, rfl⟩, fun h => absurd h (by simp)⟩
    · rw [ans_ok h0 hd]
      have hl := run_done s start 0 rfl h0 hd
      exact ⟨fun h => absurd rfl h, fun _ => ⟨run_body s start 0 inv_start h0, by simp only; omega⟩⟩
  · rw [ans_bad h0]; exact ⟨fun _ => ⟨rfl, rfl⟩, fun h => absurd h h0⟩
end Go.Proofs.YtipfjpihciiikaaGreatDoor

/-
  Messages in plain lists: how they are written and read, and that what is written is read as it was; K tells how the end of a body is known; no program is named here.
-/
namespace Go.Proofs.YtipfjpihciiikaaGreatDoor
open Go.RowKit

abbrev Kd := List Fld → Int × Int × Int
/-- What K may tell: an error; no body; chunks; so many bytes; all that follows. -/
def KdOk (K : Kd) : Prop := ∀ ls, (∃ e, K ls = (0, 0, e) ∧ e ≠ 0) ∨ K ls = (1, 0, 0) ∨ K ls = (3, 0, 0) ∨ K ls = (4, 0, 0) ∨ ∃ n, K ls = (2, n, 0) ∧ 0 ≤ n ∧ n ≤ 5000
def bdB (k : Int) (b : List UInt8) : List UInt8 := if k = 3 then encS 63 b else b
/-- What stands behind the first line. -/
def wrB (K : Kd) (ls : List Fld) (b : List UInt8) : List UInt8 × Int :=
  if chk ls ≠ 0 then ([], chk ls)
  else if (K ls).2.2 ≠ 0 then ([], (K ls).2.2)
  else if ((K ls).1 = 1 ∧ b ≠ []) ∨ ((K ls).1 = 2 ∧ (b.length : Int) ≠ (K ls).2.1) then ([], 10)
  else if 2 < (K ls).1 ∧ 5000 < b.length then ([], 2)
  else (prt ls ++ [13, 10] ++ bdB (K ls).1 b, 0)
abbrev RdB := List Fld × List UInt8 × Nat × Int
/-- What is read behind the fields fs, which have a bytes. -/
def rdK (k : Int × Int × Int) (fs : List Fld) (r : List UInt8) (a : Nat) : RdB :=
  if k.2.2 ≠ 0 then ([], [], 0, k.2.2)
  else if k.1 = 1 then (fs, [], a, 0)
  else if k.1 = 2 then (if (r.length : Int) < k.2.1 then ([], [], 0, 8) else (fs, r.take k.2.1.toNat, a + k.2.1.toNat, 0))
  else if k.1 = 3 then (if (ans (runD start r 0)).2.2 ≠ 0 then ([], [], 0, (ans (runD start r 0)).2.2) else (fs, (ans (runD start r 0)).1, a + (ans (runD start r 0)).2.1, 0))
  else if 5000 < r.length then ([], [], 0, 2) else (fs, r, a + r.length, 0)
def rdB (K : Kd) (s : List UInt8) : RdB :=
  if (parS s []).2.2 ≠ 0 then ([], [], 0, (parS s []).2.2)
  else rdK (K (parS s []).1) (parS s []).1 (parS s []).2.1 (s.length - (parS s []).2.1.length)

theorem rdK_err {k : Int × Int × Int} (h : k.2.2 ≠ 0) (fs : List Fld) (r : List UInt8) (a : Nat) : rdK k fs r a = ([], [], 0, k.2.2) := by unfold rdK; rw [if_pos h]
theorem rdK_1 (fs : List Fld) (r : List UInt8) (a : Nat) : rdK (1, 0, 0) fs r a = (fs, [], a, 0) := by unfold rdK; rw [if_neg (by simp), if_pos rfl]
theorem rdK_2 (n : Int) (fs : List Fld) (r : List UInt8) (a : Nat) : rdK (2, n, 0) fs r a = if (r.length : Int) < n then ([], [], 0, 8) else (fs, r.take n.toNat, a + n.toNat, 0) := by
  unfold rdK; rw [if_neg (by simp), if_neg (by simp), if_pos rfl]
theorem rdK_3 (fs : List Fld) (r : List UInt8) (a : Nat) : rdK (3, 0, 0) fs r a = if (ans (runD start r 0)).2.2 ≠ 0 then ([], [], 0, (ans (runD start r 0)).2.2) else (fs, (ans (runD start r 0)).1, a + (ans (runD start r 0)).2.1, 0) := by
  unfold rdK; rw [if_neg (by simp), if_neg (by simp), if_neg (by simp), if_pos rfl]
theorem rdK_4 (fs : List Fld) (r : List UInt8) (a : Nat) : rdK (4, 0, 0) fs r a = if 5000 < r.length then ([], [], 0, 2) else (fs, r, a + r.length, 0) := by
  unfold rdK; rw [if_neg (by simp), if_neg (by simp), if_neg (by simp), if_neg (by simp)]
theorem wrB_is {K : Kd} {ls : List Fld} {b s : List UInt8} (h : wrB K ls b = (s, 0)) : chk ls = 0 ∧ (K ls).2.2 = 0 ∧ ((K ls).1 = 1 → b = []) ∧ ((K ls).1 = 2 → (b.length : Int) = (K ls).2.1) ∧ (2 < (K ls).1 → b.length ≤ 5000) ∧ s = prt ls ++ [13, 10] ++ bdB (K ls).1 b := by
  unfold wrB at h
  by_cases h1 : chk ls = 0
  · rw [if_neg (by simpa using h1)] at h
    by_cases h2 : (K ls).2.2 = 0
    · rw [if_neg (by simpa using h2)] at h
      by_cases h3 : ((K ls).1 = 1 ∧ b ≠ []) ∨ ((K ls).1 = 2 ∧ (b.length : Int) ≠ (K ls).2.1)
      · rw [if_pos h3] at h; simp at h
      · rw [if_neg h3] at h
        by_cases h4 : 2 < (K ls).1 ∧ 5000 < b.length
        · rw [if_pos h4] at h; simp at h
        · rw [if_neg h4] at h
          simp only [Prod.mk.injEq, and_true] at h
          refine ⟨h1, h2, fun hk => Classical.byContradiction fun hb => h3 (.inl ⟨hk, hb⟩), fun hk => Classical.byContradiction fun hb => h3 (.inr ⟨hk, hb⟩), fun hk => ?_, h.symm⟩
          rcases Nat.lt_or_ge 5000 b.length with h5 | h5
          · exact absurd ⟨hk, h5⟩ h4
          · exact h5
    · rw [if_pos h2] at h; simp only [Prod.mk.injEq] at h; exact absurd h.2 h2
  · rw [if_pos h1] at h; simp only [Prod.mk.injEq] at h; exact absurd h.2 h1
theorem wrB_ok {K : Kd} {ls : List Fld} {b : List UInt8} (h1 : chk ls = 0) (h2 : (K ls).2.2 = 0) (h3 : (K ls).1 = 1 → b = []) (h4 : (K ls).1 = 2 → (b.length : Int) = (K ls).2.1) (h5 : 2 < (K ls).1 → b.length ≤ 5000) : wrB K ls b = (prt ls ++ [13, 10] ++ bdB (K ls).1 b, 0) := by
  unfold wrB
  rw [if_neg (by simpa using h1), if_neg (by simpa using h2), if_neg, if_neg]
  · rintro ⟨h, h'⟩; have := h5 h; omega
  · rintro (⟨h, h'⟩ | ⟨h, h'⟩)
    · exact h' (h3 h)
    · exact h' (h4 h)
theorem ans_enc (b rest : List UInt8) (hb : b.length ≤ 5000) : ans (runD start (encS 63 b ++ rest) 0) = (b, (encS 63 b).length, 0) := by
  obtain ⟨e1, e2, e3, e4⟩ := enc_run 63 rest b.length b [] 0 (Nat.le_refl _) (by simpa using hb)
  have h := ans_ok e1 e2
  rw [e3, e4, Nat.zero_add] at h
  exact h
/-- What was written is read as it was, whatever is behind it (nothing is, if it goes on to the end). -/
theorem rdB_back {K : Kd} (hK : KdOk K) {ls : List Fld} {b s : List UInt8} (rest : List UInt8) (h : wrB K ls b = (s, 0)) (h4 : (K ls).1 = 4 → rest = []) : rdB K (s ++ rest) = (ls, b, s.length, 0) := by
  obtain ⟨h1, h2, h3, h5, h6, hs⟩ := wrB_is h
  have hp : parS (s ++ rest) [] = (ls, bdB (K ls).1 b ++ rest, 0) := by
    rw [hs, List.append_assoc]
    exact par_back ls _ h1
  have hl : (s ++ rest).length - (bdB (K ls).1 b ++ rest).length = (prt ls ++ [13, 10]).length := by
    rw [hs]; simp only [List.length_append]; omega
  have hsl : s.length = (prt ls ++ [13, 10]).length + (bdB (K ls).1 b).length := by rw [hs, List.length_append]
  unfold rdB
  rw [hp]
  simp only [hl]
  rw [if_neg (by simp)]
  rcases hK ls with ⟨e, hk, he⟩ | hk | hk | hk | ⟨n, hk, hn0, hn⟩
  · rw [hk] at h2; exact absurd h2 he
  · rw [hk] at h3 hsl ⊢
    rw [rdK_1, h3 rfl, hsl, h3 rfl]; simp [bdB]
  · rw [hk] at h6 hsl ⊢
    have e3 : bdB 3 b = encS 63 b := rfl
    simp only [e3] at hsl ⊢
    rw [rdK_3, ans_enc b rest (h6 (by simp)), if_neg (by simp), hsl]
  · rw [hk] at h6 hsl h4 ⊢
    have e4 : bdB 4 b = b := rfl
    simp only [e4] at hsl ⊢
    rw [h4 rfl, List.append_nil, rdK_4, if_neg (by have := h6 (by simp); omega), hsl]
  · rw [hk] at h5 hsl ⊢
    have e2 : bdB 2 b = b := rfl
    have h5 : (b.length : Int) = n := h5 rfl
    simp only [e2] at hsl ⊢
    have hnn : n.toNat = b.length := by omega
    rw [rdK_2, if_neg (by rw [List.length_append]; omega), hnn, List.take_left' rfl, hsl]
/-- Of what begins it, and isn't all, nothing is read yet. -/
theorem rdB_short {K : Kd} (hK : KdOk K) {ls : List Fld} {b s : List UInt8} (h : wrB K ls b = (s, 0)) (h4 : (K ls).1 ≠ 4) (n : Nat) (hn : n < s.length) : rdB K (s.take n) = ([], [], 0, 8) := by
  obtain ⟨h1, h2, h3, h5, h6, hs⟩ := wrB_is h
  obtain ⟨c1, c2⟩ := chk_zero ls h1
  have hsl : s.length = (prt ls ++ [13, 10]).length + (bdB (K ls).1 b).length := by rw [hs, List.length_append]
  by_cases hp : n < (prt ls ++ [13, 10]).length
  · have e : s.take n = (prt ls ++ [13, 10]).take n := by rw [hs, List.take_append_of_le_length (by omega)]
    have := par_short ls [] n (chkL_all ls c2) (by simpa using c1) hp
    unfold rdB
    rw [e, this, if_pos (by simp)]
  · obtain ⟨j, hj⟩ : ∃ j, n = (prt ls ++ [13, 10]).length + j := ⟨n - (prt ls ++ [13, 10]).length, by omega⟩
    have hjl : j < (bdB (K ls).1 b).length := by omega
    have e : s.take n = prt ls ++ [13, 10] ++ (bdB (K ls).1 b).take j := by rw [hs, hj, List.take_length_add_append]
    have hp2 := par_back ls ((bdB (K ls).1 b).take j) h1
    unfold rdB
    rw [e, hp2]
    simp only
    rw [if_neg (by simp)]
    rcases hK ls with ⟨e, hk, he⟩ | hk | hk | hk | ⟨m, hk, hn0, hm⟩
    · rw [hk] at h2; exact absurd h2 he
    · rw [hk] at h3 hjl
      rw [h3 rfl] at hjl; simp [bdB] at hjl
    · rw [hk] at h6 hjl ⊢
      have e3 : bdB 3 b = encS 63 b := rfl
      simp only [e3] at hjl ⊢
      obtain ⟨e1, e2, _, e4⟩ := enc_run 63 [] b.length b [] 0 (Nat.le_refl _) (by simpa using h6 (by simp))
      rw [List.append_nil] at e1 e2 e4
      obtain ⟨q1, q2⟩ := run_short (encS 63 b) start 0 j rfl e1 e2 (by
        have e5 : (runD start (encS 63 b) 0).2.1 = 0 + (encS 63 b).length := e4
        omega)
      rw [rdK_3, ans_short q1 q2, if_pos (by simp)]
    · rw [hk] at h4; exact absurd rfl h4
    · rw [hk] at h5 hjl ⊢
      have e2 : bdB 2 b = b := rfl
      have h5 : (b.length : Int) = m := h5 rfl
      simp only [e2] at hjl ⊢
      rw [rdK_2, if_pos (by rw [List.length_take]; omega)]
/-- What was read does not change when more comes. -/
theorem rdB_more {K : Kd} (hK : KdOk K) (s z : List UInt8) (h4 : ∀ ls, (K ls).1 ≠ 4) (h : (rdB K s).2.2.2 ≠ 8) : rdB K (s ++ z) = rdB K s := by
  unfold rdB at h ⊢
  by_cases h0 : (parS s []).2.2 = 0
  · rw [if_neg (by simpa using h0)] at h
    have hp := par_more s.length s z [] (Nat.le_refl _) (by rw [h0]; decide)
    rw [if_pos h0] at hp
    have hr := par_rest' s
    have hl : (s ++ z).length - ((parS s []).2.1 ++ z).length = s.length - (parS s []).2.1.length := by simp only [List.length_append]; omega
    rw [hp]
    simp only [hl]
    rw [if_neg (by simpa using h0), if_neg (by simpa using h0)]
    rcases hK (parS s []).1 with ⟨e, hk, he⟩ | hk | hk | hk | ⟨m, hk, hn0, hm⟩
    · rw [hk, rdK_err (by simpa using he), rdK_err (by simpa using he)]
    · rw [hk, rdK_1, rdK_1]
    · rw [hk, rdK_3] at h
      rw [hk, rdK_3, rdK_3]
      by_cases ha : (ans (runD start (parS s []).2.1 0)).2.2 ≠ 0
      · rw [if_pos ha] at h
        rw [ans_more _ z h]
      · rw [ans_more _ z (by rw [Classical.byContradiction ha]; decide)]
    · exact absurd (by rw [hk]) (h4 (parS s []).1)
    · rw [hk, rdK_2] at h
      rw [hk, rdK_2, rdK_2]
      by_cases hl2 : ((parS s []).2.1.length : Int) < m
      · rw [if_pos hl2] at h; exact absurd rfl h
      · rw [if_neg hl2, if_neg (by rw [List.length_append]; omega), List.take_append_of_le_length (by omega)]
  · rw [if_pos h0] at h
    have hp := par_more s.length s z [] (Nat.le_refl _) h
    rw [if_neg h0] at hp
    rw [hp, if_pos h0, if_pos h0]
/-- What was read can be written. -/
theorem rdB_is {K : Kd} (hK : KdOk K) (s : List UInt8) (h4 : ∀ ls, (K ls).1 ≠ 4) : ((rdB K s).2.2.2 ≠ 0 → rdB K s = ([], [], 0, (rdB K s).2.2.2)) ∧
    ((rdB K s).2.2.2 = 0 → wrB K (rdB K s).1 (rdB K s).2.1 = (prt (rdB K s).1 ++ [13, 10] ++ bdB (K (rdB K s).1).1 (rdB K s).2.1, 0) ∧ (rdB K s).2.2.1 ≤ s.length) := by
  unfold rdB
  by_cases h0 : (parS s []).2.2 = 0
  · rw [if_neg (by simpa using h0)]
    obtain ⟨_, p2⟩ := parS_is s (parS s []).1 (parS s []).2.1 (parS s []).2.2 rfl
    obtain ⟨hc, hr⟩ := p2 h0
    rcases hK (parS s []).1 with ⟨e, hk, he⟩ | hk | hk | hk | ⟨m, hk, hn0, hm⟩
    · rw [hk, rdK_err (by simpa using he)]
      exact ⟨fun _ => rfl, fun h => absurd h he⟩
    · rw [hk, rdK_1]
      exact ⟨fun h => absurd rfl h, fun _ => ⟨wrB_ok hc (by rw [hk]) (fun _ => rfl) (fun h => by rw [hk] at h; cases h) (fun h => by rw [hk] at h; simp at h), by simp only; omega⟩⟩
    · rw [hk, rdK_3]
      by_cases ha : (ans (runD start (parS s []).2.1 0)).2.2 ≠ 0
      · rw [if_pos ha]; exact ⟨fun _ => rfl, fun h => absurd h ha⟩
      · rw [if_neg ha]
        obtain ⟨_, a2⟩ := ans_is (parS s []).2.1
        obtain ⟨a3, a4⟩ := a2 (Classical.byContradiction ha)
        exact ⟨fun h => absurd rfl h, fun _ => ⟨wrB_ok hc (by rw [hk]) (fun h => by rw [hk] at h; cases h) (fun h => by rw [hk] at h; cases h) (fun _ => a3), by simp only; omega⟩⟩
    · exact absurd (by rw [hk]) (h4 (parS s []).1)
    · rw [hk, rdK_2]
      by_cases hl2 : ((parS s []).2.1.length : Int) < m
      · rw [if_pos hl2]; exact ⟨fun _ => rfl, fun h => absurd h (by simp)⟩
      · rw [if_neg hl2]
        exact ⟨fun h => absurd rfl h, fun _ => ⟨wrB_ok hc (by rw [hk]) (fun h => by rw [hk] at h; cases h) (fun _ => by rw [hk, List.length_take]; simp only; omega) (fun h => by rw [hk] at h; simp at h), by simp only; omega⟩⟩
  · rw [if_pos h0]
    exact ⟨fun _ => rfl, fun h => absurd h h0⟩
end Go.Proofs.YtipfjpihciiikaaGreatDoor
