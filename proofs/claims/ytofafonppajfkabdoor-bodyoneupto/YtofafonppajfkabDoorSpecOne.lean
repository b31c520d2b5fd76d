/-
  Of a list that ends with a coding and a length no body's end is known; two lengths are one, if they are the same. Over plain lists; no program is named here.
-/
import Derived.Test.YtofafonppajfkabDoorSpecCr
import Derived.Test.YtofafonppajfkabDoorSpecK
import Derived.Test.YtofafonppajfkabDoorSpecA
namespace Go.Proofs.YtofafonppajfkabDoor
open Go.RowKit

def bothF : List Fld := [(teN, chkN), ([99, 111, 110, 116, 101, 110, 116, 45, 108, 101, 110, 103, 116, 104], [53])]
theorem vals_bothF : (vals bothF teN).isEmpty = false ∧ (vals bothF clN).isEmpty = false := by decide +kernel
theorem ne_app {α : Type} (a b : List α) (h : b.isEmpty = false) : (a ++ b).isEmpty = false := by
  cases a with
  | nil => exact h
  | cons x r => rfl
theorem kd_both (req : Bool) (m : List UInt8) (c : Int) (ls : List Fld) : kd req m c (ls ++ bothF) = if (!req && never m c) = true then (1, 0, 0) else (0, 0, 10) := by
  unfold kd
  have h1 : (vals (ls ++ bothF) teN).isEmpty = false := by rw [vals_app]; exact ne_app _ _ vals_bothF.1
  have h2 : (vals (ls ++ bothF) clN).isEmpty = false := by rw [vals_app]; exact ne_app _ _ vals_bothF.2
  rw [h1, h2]; rfl
theorem tok_dig (c : UInt8) (h : isDig c = true) : isTok c = true := by
  have := byAll (fun c => !isDig c || isTok c) (by decide +kernel) c
  rw [h] at this; simpa using this
theorem tok_digs (d : List UInt8) (h : d.all isDig = true) : d.all isTok = true := by
  rw [List.all_eq_true] at h ⊢
  intro c hc; exact tok_dig c (h c hc)
theorem split_two (d : List UInt8) (h : d.all isDig = true) (hne : d ≠ []) (hl : d.length ≤ 30) : splitS ([55, 44, 32] ++ d) = ([[55], d], 0) := by
  have ht := tok_digs d h
  have htk : token d = true := by unfold token; rw [ht]; cases d with
    | nil => exact absurd rfl hne
    | cons a b => rfl
  have e0 : cutS 44 ([55, 44, 32] ++ d) = ⟨[[55]], [32] ++ d, false, false⟩ := by
    unfold cutS
    rw [List.foldl_append, show ([55, 44, 32] : List UInt8).foldl (cstep 44) ⟨[], [], false, false⟩ = ⟨[[55]], [32], false, false⟩ by rfl]
    exact run_fold 44 d [[55]] [32] false false false false (tok_run 44 (.inl rfl) d ht)
  have hp : pieces 44 ([55, 44, 32] ++ d) = [[55], [32] ++ d] := by unfold pieces; rw [e0]; rfl
  have hk : kept (pieces 44 ([55, 44, 32] ++ d)) = [[55], d] := by
    rw [hp]
    unfold kept
    rw [List.map_cons, List.map_cons, List.map_nil, show trimL [55] = [55] by decide +kernel, show [32] ++ d = 32 :: d from rfl, trimL_first d 32 rfl, trimL_token d htk]
    cases d with
    | nil => exact absurd rfl hne
    | cons a b => rfl
  have he : ends 44 ([55, 44, 32] ++ d) = true := by unfold ends; rw [e0]; rfl
  unfold splitS
  rw [if_neg (by rw [List.length_append]; simp; omega), if_neg (by rw [he]; simp), hk, if_neg (by simp)]
theorem rd_dec (u : Nat) (h : u ≤ 9999) : rdLn (Lib.decDigits u) = ((u : Int), true) := by
  have hl : (Lib.decDigits u).length ≤ 4 := by
    rw [Lib.decDigits_length]
    rw [Lib.nDigits]; split
    · omega
    · rw [Lib.nDigits]; split
      · omega
      · rw [Lib.nDigits]; split
        · omega
        · rw [Lib.nDigits]; split <;> omega
  unfold rdLn
  rw [atoi_dig _ (dec_ne u) (dec_all u) (by omega), numb_dec]
  have e : Lib.itoa (u : Int) = Lib.decDigits u := by unfold Lib.itoa; rw [if_neg (by omega)]; rfl
  simp only [decide_eq_true (show (0 : Int) ≤ (u : Int) by omega), decide_eq_true hl, decide_eq_true e, Bool.and_self]
def twoF (u : Nat) : List Fld := [(clN, [55]), (clN, Lib.decDigits u)]
theorem vals_twoF (u : Nat) : vals (twoF u) clN = [[55], Lib.decDigits u] ∧ vals (twoF u) teN = [] := by
  have h1 : nm clN (clN, [55]) = true := by decide +kernel
  have h2 : nm clN (clN, Lib.decDigits u) = true := (show nm clN (clN, [55]) = true from h1)
  have h3 : nm teN (clN, [55]) = false := by decide +kernel
  have h4 : nm teN (clN, Lib.decDigits u) = false := (show nm teN (clN, [55]) = false from h3)
  unfold vals twoF
  simp [h1, h2, h3, h4]
theorem kd_two (m : List UInt8) (c : Int) (u : Nat) (h : u < 5000) : kd true m c (twoF u) = if u = 7 then (2, 7, 0) else (0, 0, 10) := by
  obtain ⟨h1, h2⟩ := vals_twoF u
  have hd : (Lib.decDigits u).length ≤ 30 := by
    have := (rdLn_bd _ (by rw [rd_dec u (by omega)])).2.2.2
    omega
  have hj : jn [[55], Lib.decDigits u] = [55, 44, 32] ++ Lib.decDigits u := by
    unfold jn; rw [Lib.join_cons]; simp [Lib.joinTail]
  unfold kd
  rw [h1, h2]
  simp only [Bool.not_true, Bool.false_and, Bool.false_eq_true, if_false, List.isEmpty_nil, List.isEmpty_cons, Bool.not_false, if_true]
  rw [hj]
  unfold kdL
  rw [split_two _ (dec_all u) (dec_ne u) hd]
  simp only [if_true]
  by_cases h7 : u = 7
  · subst h7
    rw [if_pos rfl]
    decide +kernel
  · rw [if_neg h7, kdP_diff]
    have : Lib.decDigits u ≠ [55] := by
      intro e
      have := numb_dec u
      rw [e] at this
      have h55 : numb [55] = 7 := by decide +kernel
      omega
    simpa using this
end Go.Proofs.YtofafonppajfkabDoor
