/-
  Decimal digits of numbers, without noughts ahead; no program is named here.
-/
import Derived.Test.YtkmbhgbmdeoppabSpecCn
import Derived.Lib.AtoiTie
import Derived.Lib.ItoaNum
namespace Go.Proofs.Ytkmbhgbmdeoppab
open Go.RowKit

theorem dd_dig (u : Nat) (h : u < 10) : isDig (UInt8.ofNat (48 + u)) = true ∧ (UInt8.ofNat (48 + u)).toNat = 48 + u := by
  have e : (UInt8.ofNat (48 + u)).toNat = 48 + u := by
    rw [UInt8.toNat_ofNat']; omega
  exact ⟨by rw [dig_iff, e]; omega, e⟩
theorem dec_step (u : Nat) (h : ¬ u < 10) : Lib.decDigits u = Lib.decDigits (u / 10) ++ [UInt8.ofNat (48 + u % 10)] := by rw [Lib.decDigits, dif_neg h]
theorem dec_ne (u : Nat) : Lib.decDigits u ≠ [] := by
  rw [Lib.decDigits]; split <;> simp
theorem dec_all (u : Nat) : (Lib.decDigits u).all isDig = true := by
  induction u using Nat.strongRecOn with
  | ind u ih =>
    by_cases h : u < 10
    · rw [Lib.decDigits_one h, List.all_cons, (dd_dig u h).1]; rfl
    · rw [dec_step u h, List.all_append, ih (u / 10) (by omega), List.all_cons, (dd_dig (u % 10) (by omega)).1]; rfl
theorem numb_dec (u : Nat) : numb (Lib.decDigits u) = u := by
  induction u using Nat.strongRecOn with
  | ind u ih =>
    by_cases h : u < 10
    · rw [Lib.decDigits_one h]
      show 0 * 10 + ((UInt8.ofNat (48 + u)).toNat : Int) - 48 = u
      rw [(dd_dig u h).2]; omega
    · rw [dec_step u h, numb_snoc, ih (u / 10) (by omega), (dd_dig (u % 10) (by omega)).2]; omega
theorem dec_head (u : Nat) (h1 : 1 ≤ u) : (Lib.decDigits u).head? ≠ some 48 := by
  induction u using Nat.strongRecOn with
  | ind u ih =>
    by_cases h : u < 10
    · rw [Lib.decDigits_one h]
      intro e
      have e1 : UInt8.ofNat (48 + u) = 48 := by simpa using e
      have := (dd_dig u h).2
      rw [e1] at this
      have h48 : (48 : UInt8).toNat = 48 := rfl
      omega
    · rw [dec_step u h, List.head?_append]
      have := ih (u / 10) (by omega) (by omega)
      cases hc : Lib.decDigits (u / 10) with
      | nil => exact absurd hc (dec_ne _)
      | cons a b => rw [hc] at this; simpa using this
theorem cnt_dec (u : Nat) (h : u ≤ 9999) : cnt (Lib.decDigits u) 9999 = u := by
  have hl : (Lib.decDigits u).length ≤ 4 := by
    rw [Lib.decDigits_length]
    rw [Lib.nDigits]; split
    · omega
    · rw [Lib.nDigits]; split
      · omega
      · rw [Lib.nDigits]; split
        · omega
        · rw [Lib.nDigits]; split <;> omega
  unfold cnt
  rw [if_neg, if_neg (by rw [numb_dec]; omega), numb_dec]
  rintro (h1 | h1 | ⟨h1, h2⟩ | h1)
  · exact dec_ne u (List.eq_nil_of_length_eq_zero h1)
  · omega
  · by_cases h0 : 1 ≤ u
    · exact dec_head u h0 h2
    · obtain rfl : u = 0 := by omega
      rw [Lib.decDigits_one (by omega)] at h1; simp at h1
  · rw [dec_all] at h1; cases h1
theorem canon (p : List UInt8) : ∀ (_ : p ≠ []) (_ : p.all isDig = true) (_ : ¬ (1 < p.length ∧ p.head? = some 48)), p = Lib.decDigits (numb p).toNat ∧ 0 ≤ numb p := by
  induction hn : p.length using Nat.strongRecOn generalizing p with
  | ind n ih =>
    intro hne hall hh
    rcases List.eq_nil_or_concat p with h | ⟨q, c, h⟩
    · exact absurd h hne
    · rw [List.concat_eq_append] at h
      subst h
      rw [List.all_append] at hall
      simp only [Bool.and_eq_true, List.all_cons, List.all_nil, Bool.and_true] at hall
      obtain ⟨hq, hc⟩ := hall
      have hcb := (dig_iff c).1 hc
      have hcc : ∀ d : Nat, d = c.toNat - 48 → UInt8.ofNat (48 + d) = c := by
        intro d hd
        apply UInt8.toNat_inj.1
        rw [UInt8.toNat_ofNat', hd]
        have : c.toNat < 256 := c.toNat_lt
        omega
      by_cases hqe : q = []
      · subst hqe
        have e : numb ([] ++ [c]) = (c.toNat : Int) - 48 := by unfold numb; simp
        rw [e]
        refine ⟨?_, by omega⟩
        rw [Lib.decDigits_one (by omega), List.nil_append, hcc _ (by omega)]
      · have hl : 0 < q.length := List.length_pos_iff.2 hqe
        have hqh : q.head? ≠ some 48 := by
          intro e
          apply hh
          refine ⟨by rw [← hn, List.length_append, List.length_singleton]; omega, ?_⟩
          rw [List.head?_append, e]; rfl
        obtain ⟨h1, h2⟩ := ih q.length (by rw [← hn]; simp) q rfl hqe hq (fun h => hqh h.2)
        have h3 : 1 ≤ (numb q).toNat := by
          rcases Nat.lt_or_ge (numb q).toNat 1 with h | h
          · exfalso
            have h0 : (numb q).toNat = 0 := by omega
            rw [h0, Lib.decDigits_one (by omega)] at h1
            exact hqh (by rw [h1]; rfl)
          · exact h
        rw [numb_snoc]
        refine ⟨?_, by omega⟩
        have e1 : (numb q * 10 + (c.toNat : Int) - 48).toNat = (numb q).toNat * 10 + (c.toNat - 48) := by omega
        rw [e1, dec_step _ (by omega), show ((numb q).toNat * 10 + (c.toNat - 48)) / 10 = (numb q).toNat by omega, show ((numb q).toNat * 10 + (c.toNat - 48)) % 10 = c.toNat - 48 by omega, ← h1, hcc _ rfl]
theorem from_fold (p : List UInt8) : ∀ (_ : p.all isDig = true) (acc : Nat), ∃ m : Nat, Lib.decFrom acc p = some m ∧ (m : Int) = p.foldl (fun n c => n * 10 + (c.toNat : Int) - 48) (acc : Int) := by
  induction p with
  | nil => intro _ acc; exact ⟨acc, rfl, rfl⟩
  | cons c r ih =>
    intro h acc
    simp only [List.all_cons, Bool.and_eq_true] at h
    have hb := (dig_iff c).1 h.1
    obtain ⟨m, h1, h2⟩ := ih h.2 (acc * 10 + (c.toNat - 48))
    refine ⟨m, ?_, ?_⟩
    · rw [Lib.decFrom, show Lib.digitVal c = some (c.toNat - 48) from if_pos hb]; exact h1
    · rw [h2, List.foldl_cons]; congr 1; omega
theorem atoi_dig (p : List UInt8) (hne : p ≠ []) (h : p.all isDig = true) (hl : p.length ≤ 18) : Lib.atoiAll p = .ok (numb p) := by
  rw [Lib.atoiAll_short p hl]
  obtain ⟨m, h1, h2⟩ := from_fold p h 0
  have hd : Lib.decNat p = some m := by
    unfold Lib.decNat
    rw [if_neg (by simpa using hne)]; exact h1
  have e : Lib.atoi p = some (numb p) := by
    cases p with
    | nil => exact absurd rfl hne
    | cons c r =>
      have hb := (dig_iff c).1 (by simp only [List.all_cons, Bool.and_eq_true] at h; exact h.1)
      have n45 : (c == 45) = false := by
        rw [beq_eq_false_iff_ne]; intro e; subst e; have : (45 : UInt8).toNat = 45 := rfl; omega
      have n43 : (c == 43) = false := by
        rw [beq_eq_false_iff_ne]; intro e; subst e; have : (43 : UInt8).toNat = 43 := rfl; omega
      show (if (c == 45) = true then (Lib.decNat r).map fun (m : Nat) => -(m : Int) else if (c == 43) = true then (Lib.decNat r).map fun (m : Nat) => (m : Int) else (Lib.decNat (c :: r)).map fun (m : Nat) => (m : Int)) = _
      rw [n45, n43, hd]
      simp only [Bool.false_eq_true, if_false, Option.map_some, Option.some.injEq]
      unfold numb; exact h2
  rw [e]; rfl
end Go.Proofs.Ytkmbhgbmdeoppab
