/-
  Plain functions on lists of bytes: the first line of a response, how it is printed and read; no program is named here.
-/
import Derived.Test.YtlfdbaggiimnjaaDoorSpecIx
import Derived.Test.YtlfdbaggiimnjaaDoorSpecCn
import Derived.Lib.AtoiAll
import Derived.Lib.ItoaNum
namespace Go.Proofs.YtlfdbaggiimnjaaDoor
open Go.RowKit

def verP : List UInt8 := [72, 84, 84, 80, 47, 49, 46, 49, 32]
def codeB (n : Int) : Bool := decide (100 ≤ n ∧ n ≤ 599)
def reas (r : List UInt8) : Bool := allPlain r && decide (r.length ≤ 100)
def dig3 (u : Nat) : List UInt8 := [dg (u / 100), dg (u / 10 % 10), dg (u % 10)]
/-- The line, without its end. -/
def stB (n : Int) (r : List UInt8) : List UInt8 := verP ++ (dig3 n.toNat ++ 32 :: r)
def prS (n : Int) (r : List UInt8) : List UInt8 × Int := if codeB n = true then (if reas r = true then (stB n r ++ [13, 10], 0) else ([], 3)) else ([], 1)
theorem prS_ok (n : Int) (r : List UInt8) (hn : codeB n = true) (hr : reas r = true) : prS n r = (stB n r ++ [13, 10], 0) := by
  unfold prS; rw [if_pos hn, if_pos hr]
theorem prS_arg (n : Int) (r : List UInt8) (hn : codeB n = false) : prS n r = ([], 1) := by
  unfold prS; rw [if_neg (by rw [hn]; decide)]
theorem prS_syn (n : Int) (r : List UInt8) (hn : codeB n = true) (hr : reas r = false) : prS n r = ([], 3) := by
  unfold prS; rw [if_pos hn, if_neg (by rw [hr]; decide)]

theorem code_is (n : Int) (h : codeB n = true) : 100 ≤ n ∧ n ≤ 599 := by unfold codeB at h; simpa using h
theorem reas_is (r : List UInt8) (h : reas r = true) : (∀ c ∈ r, plainB c = true) ∧ r.length ≤ 100 := by
  unfold reas allPlain at h
  simp only [Bool.and_eq_true, List.all_eq_true, decide_eq_true_eq] at h
  exact h
theorem dec_3 (u : Nat) (h1 : 100 ≤ u) (h2 : u ≤ 999) : Lib.decDigits u = dig3 u := by
  rw [Lib.decDigits, dif_neg (by omega), Lib.decDigits_two (by omega) (by omega)]
  unfold dig3
  rw [show u / 10 / 10 = u / 100 by omega]
  rfl
theorem itoa_3 (n : Int) (h : codeB n = true) : Lib.itoa n = dig3 n.toNat := by
  obtain ⟨h1, h2⟩ := code_is n h
  rw [Lib.itoa, if_neg (by omega), dec_3 _ (by omega) (by omega)]
theorem numb_3 (u : Nat) (h : u < 1000) : numb (dig3 u) = u := by
  unfold numb dig3
  simp only [List.foldl_cons, List.foldl_nil]
  rw [dg_nat _ (by omega), dg_nat _ (by omega), dg_nat _ (by omega)]
  omega
theorem dig3_dig (u : Nat) (h : u < 1000) : (dig3 u).all isDig = true := by
  have e : ∀ k, k < 10 → isDig (dg k) = true := fun k hk => (dig_iff _).2 (by rw [dg_nat k hk]; omega)
  unfold dig3
  simp only [List.all_cons, List.all_nil, Bool.and_true]
  rw [e _ (by omega), e _ (by omega), e _ (by omega)]; rfl
theorem dig3_no (u : Nat) (h : u < 1000) (d : UInt8) (hd : isDig d = false) : ∀ b ∈ dig3 u, b ≠ d := by
  intro b hb e
  have := List.all_eq_true.1 (dig3_dig u h) b hb
  rw [e, hd] at this; cases this
theorem stB_len (n : Int) (r : List UInt8) : (stB n r).length = r.length + 13 := by simp [stB, verP, dig3]
theorem stB_no13 (n : Int) (r : List UInt8) (hn : codeB n = true) (hr : reas r = true) : ∀ b ∈ stB n r, b ≠ 13 := by
  obtain ⟨h1, h2⟩ := code_is n hn
  intro b hb
  unfold stB verP at hb
  simp only [List.mem_append, List.mem_cons] at hb
  rcases hb with hb | hb | rfl | hb
  · simp at hb; rcases hb with rfl | rfl | rfl | rfl | rfl | rfl | rfl | rfl <;> decide
  · exact dig3_no _ (by omega) 13 (by decide) b hb
  · decide
  · exact plain_not13 b ((reas_is r hr).1 b hb)

/-- The code and the reason, where they should stand. -/
def coL (l : List UInt8) : Int := numb ((l.drop 9).take 3)
def rdS (l : List UInt8) : Option (Int × List UInt8) :=
  if l = stB (coL l) (l.drop 13) ∧ codeB (coL l) = true ∧ reas (l.drop 13) = true then some (coL l, l.drop 13) else none
theorem stB_parts (n : Int) (r : List UInt8) : (stB n r).drop 9 = dig3 n.toNat ++ 32 :: r ∧ ((stB n r).drop 9).take 3 = dig3 n.toNat ∧ (stB n r).drop 13 = r := by
  unfold stB verP dig3
  exact ⟨rfl, rfl, rfl⟩
theorem coL_st (n : Int) (r : List UInt8) (hn : codeB n = true) : coL (stB n r) = n := by
  obtain ⟨h1, h2⟩ := code_is n hn
  unfold coL
  rw [(stB_parts n r).2.1, numb_3 _ (by omega)]; omega
theorem rdS_ok (n : Int) (r : List UInt8) (hn : codeB n = true) (hr : reas r = true) : rdS (stB n r) = some (n, r) := by
  unfold rdS
  rw [coL_st n r hn, (stB_parts n r).2.2, if_pos ⟨rfl, hn, hr⟩]
theorem rdS_some (l : List UInt8) (n : Int) (r : List UInt8) (h : rdS l = some (n, r)) : l = stB n r ∧ codeB n = true ∧ reas r = true := by
  unfold rdS at h
  split at h
  · rename_i hc
    simp only [Option.some.injEq, Prod.mk.injEq] at h
    obtain ⟨rfl, rfl⟩ := h
    exact hc
  · cases h
theorem rdS_none (l : List UInt8) (h : rdS l = none) (n : Int) (r : List UInt8) (hn : codeB n = true) (hr : reas r = true) : l ≠ stB n r := by
  rintro rfl
  rw [rdS_ok n r hn hr] at h; cases h

/-- What is read of a text: the code and the reason, how many bytes, and the error. -/
def paS (s : List UInt8) : (Int × List UInt8) × Int × Int :=
  if Lib.index s [13, 10] = -1 then ((0, []), 0, if 301 < s.length then 2 else 8)
  else if 300 < (Lib.index s [13, 10]).toNat then ((0, []), 0, 2)
  else match rdS (s.take (Lib.index s [13, 10]).toNat) with
    | none => ((0, []), 0, 3)
    | some x => (x, Lib.index s [13, 10] + 2, 0)
theorem paS_no (s : List UInt8) (h : Lib.index s [13, 10] = -1) : paS s = ((0, []), 0, if 301 < s.length then 2 else 8) := by
  unfold paS; rw [if_pos h]
theorem paS_large (s : List UInt8) (k : Nat) (h : Lib.index s [13, 10] = k) (hk : 300 < k) : paS s = ((0, []), 0, 2) := by
  have e : (Lib.index s [13, 10]).toNat = k := by rw [h]; simp
  unfold paS; rw [if_neg (by omega), e, if_pos hk]
theorem paS_bad (s : List UInt8) (k : Nat) (h : Lib.index s [13, 10] = k) (hk : k ≤ 300) (hr : rdS (s.take k) = none) : paS s = ((0, []), 0, 3) := by
  have e : (Lib.index s [13, 10]).toNat = k := by rw [h]; simp
  unfold paS; rw [if_neg (by omega), e, if_neg (by omega), hr]
theorem paS_ok (s : List UInt8) (k : Nat) (h : Lib.index s [13, 10] = k) (hk : k ≤ 300) (x : Int × List UInt8) (hr : rdS (s.take k) = some x) : paS s = (x, (k : Int) + 2, 0) := by
  have e : (Lib.index s [13, 10]).toNat = k := by rw [h]; simp
  unfold paS; rw [if_neg (by omega), e, if_neg (by omega), hr, h]
theorem paS_nil : paS [] = ((0, []), 0, 8) := by
  rw [paS_no [] rfl]; rfl

/-- What is read of three digits: the number, and whether it is a code that is told so. -/
def rdC (l : List UInt8) : Int × Bool :=
  match Lib.atoiAll l with
  | .ok v => (v, codeB v && decide (Lib.itoa v = l))
  | .«syntax» => (0, false)
  | .range => (Lib.atoiSat l, false)
theorem rdC_no (l : List UInt8) (h : ∀ n, codeB n = true → l ≠ dig3 n.toNat) : (rdC l).2 = false := by
  unfold rdC
  split
  · rename_i v hv
    cases hc : codeB v
    · rfl
    · show (true && decide (Lib.itoa v = l)) = false
      rw [decide_eq_false]; rfl
      rw [itoa_3 v hc]
      intro e; exact h v hc e.symm
  · rfl
  · rfl
theorem atoi_3 (n : Int) (h : codeB n = true) : Lib.atoiAll (dig3 n.toNat) = .ok n := by
  obtain ⟨h1, h2⟩ := code_is n h
  have key : ∀ k : Fin 500, (match Lib.atoiAll (dig3 (100 + k.val)) with | .ok v => v == ((100 + k.val : Nat) : Int) | _ => false) = true := by decide +kernel
  have hk := key ⟨n.toNat - 100, by omega⟩
  rw [show 100 + (n.toNat - 100) = n.toNat by omega] at hk
  split at hk
  · rename_i v hv
    have e : v = ((n.toNat : Nat) : Int) := by simpa using hk
    rw [hv, e]; congr 1; omega
  · cases hk
theorem rdC_ok (n : Int) (h : codeB n = true) : rdC (dig3 n.toNat) = (n, true) := by
  unfold rdC
  rw [atoi_3 n h]
  show (n, codeB n && decide (Lib.itoa n = dig3 n.toNat)) = (n, true)
  rw [h, itoa_3 n h, decide_eq_true rfl]; rfl
theorem rdC_is (l : List UInt8) (h : (rdC l).2 = true) : codeB (rdC l).1 = true ∧ l = dig3 (rdC l).1.toNat := by
  unfold rdC at h ⊢
  split at h
  · rename_i v hv
    simp only [Bool.and_eq_true, decide_eq_true_eq] at h
    exact ⟨h.1, by rw [← itoa_3 v h.1, h.2]⟩
  · cases h
  · cases h
end Go.Proofs.YtlfdbaggiimnjaaDoor
