/-
  How a date's text is read in plain lists: numbers of digits, months by their names, the places where they stand; only one second has a given text. No program is named here.
-/
import Derived.Test.YtoccjnbodoiibaaSpecTxt
namespace Go.Proofs.Ytoccjnbodoiibaa
open Go.RowKit

def sl (l : List UInt8) (i j : Nat) : List UInt8 := (l.drop i).take (j - i)
def numb (l : List UInt8) : Int := l.foldl (fun n c => n * 10 + (c.toNat : Int) - 48) 0
def mnumAt (x : List UInt8) (k : Nat) : Int := if k < 12 then if monthS k = x then (k : Int) + 1 else mnumAt x (k + 1) else 0
termination_by 12 - k
def mnum (x : List UInt8) : Int := mnumAt x 0

/-- l is the text of second n -/
def IsDT (l : List UInt8) (n : Int) : Prop := 0 ≤ n ∧ n ≤ 253402300799 ∧ ∃ y m d : Int, vldB y m d = true ∧ num y m d = n / 86400 ∧ l = dtext n y m d

def gY (l : List UInt8) : Int := numb (sl l 12 16)
def gM (l : List UInt8) : Int := mnum (sl l 8 11)
def gD (l : List UInt8) : Int := numb (sl l 5 7)
def gS (l : List UInt8) : Int := numb (sl l 17 19) * 3600 + numb (sl l 20 22) * 60 + numb (sl l 23 25)
def gss (l : List UInt8) : Int := num (gY l) (gM l) (gD l) * 86400 + gS l

theorem numb_snoc (l : List UInt8) (c : UInt8) : numb (l ++ [c]) = numb l * 10 + (c.toNat : Int) - 48 := by unfold numb; rw [List.foldl_append]; rfl

theorem dg_nat (u : Nat) (h : u < 10) : (dg u).toNat = 48 + u := by
  unfold dg
  rw [UInt8.toNat_ofNat', Nat.mod_eq_of_lt (by omega)]
theorem numb_2 (u : Nat) (h : u < 100) : numb (dig2 u) = u := by
  show (0 * 10 + ((dg (u / 10)).toNat : Int) - 48) * 10 + ((dg (u % 10)).toNat : Int) - 48 = u
  rw [dg_nat _ (by omega), dg_nat _ (by omega)]; omega
theorem numb_4 (u : Nat) (h : u < 10000) : numb (dig4 u) = u := by
  show (((0 * 10 + ((dg (u / 1000)).toNat : Int) - 48) * 10 + ((dg (u / 100 % 10)).toNat : Int) - 48) * 10 + ((dg (u / 10 % 10)).toNat : Int) - 48) * 10 + ((dg (u % 10)).toNat : Int) - 48 = u
  rw [dg_nat _ (by omega), dg_nat _ (by omega), dg_nat _ (by omega), dg_nat _ (by omega)]; omega
theorem mnum_month (k : Nat) (h : k < 12) : mnum (monthS k) = (k : Int) + 1 := by
  rcases (show k = 0 ∨ k = 1 ∨ k = 2 ∨ k = 3 ∨ k = 4 ∨ k = 5 ∨ k = 6 ∨ k = 7 ∨ k = 8 ∨ k = 9 ∨ k = 10 ∨ k = 11 by omega) with rfl | rfl | rfl | rfl | rfl | rfl | rfl | rfl | rfl | rfl | rfl | rfl <;> decide +kernel
theorem mnum_hit (x : List UInt8) (k : Nat) (h : k < 12) (e : monthS k = x) : mnumAt x k = (k : Int) + 1 := by rw [mnumAt, if_pos h, if_pos e]
theorem mnum_miss (x : List UInt8) (k : Nat) (h : k < 12) (e : monthS k ≠ x) : mnumAt x k = mnumAt x (k + 1) := by rw [mnumAt, if_pos h, if_neg e]
theorem mnum_end (x : List UInt8) : mnumAt x 12 = 0 := by rw [mnumAt, if_neg (by omega)]
theorem mnumAt_bd (x : List UInt8) (j : Nat) : ∀ k : Nat, 12 - k ≤ j → 0 ≤ mnumAt x k ∧ mnumAt x k ≤ 12 := by
  induction j with
  | zero => intro k hk; rw [mnumAt, if_neg (by omega)]; omega
  | succ j ih =>
    intro k hk
    rw [mnumAt]
    split
    · split
      · omega
      · exact ih (k + 1) (by omega)
    · omega
theorem mnum_bd (x : List UInt8) : 0 ≤ mnum x ∧ mnum x ≤ 12 := mnumAt_bd x 12 0 (Nat.le_refl _)

theorem three {l : List UInt8} (h : l.length = 3) : ∃ a b c, l = [a, b, c] := by
  match l, h with
  | [a, b, c], _ => exact ⟨a, b, c, rfl⟩

/-- where the parts of a date's text stand -/
theorem dtext_parts (n y m d : Int) (h1 : 1 ≤ m) (h2 : m ≤ 12) :
    sl (dtext n y m d) 5 7 = dig2 d.toNat ∧ sl (dtext n y m d) 8 11 = monthS (m - 1).toNat ∧ sl (dtext n y m d) 12 16 = dig4 y.toNat ∧ sl (dtext n y m d) 17 19 = dig2 (n % 86400 / 3600).toNat
      ∧ sl (dtext n y m d) 20 22 = dig2 (n % 3600 / 60).toNat ∧ sl (dtext n y m d) 23 25 = dig2 (n % 60).toNat := by
  obtain ⟨a, b, c, e1⟩ := three (week_len (n / 86400 % 7).toNat (by omega))
  obtain ⟨p, q, r, e2⟩ := three (month_len (m - 1).toNat (by omega))
  unfold dtext
  rw [e1, e2]
  exact ⟨rfl, rfl, rfl, rfl, rfl, rfl⟩

theorem dt_len {l : List UInt8} {n : Int} (h : IsDT l n) : l.length = 29 := by
  obtain ⟨_, _, y, m, d, hv, _, rfl⟩ := h
  obtain ⟨_, _, a, b, _⟩ := vld_iff.1 hv
  exact dtext_len n y m d a b

theorem dt_gss {l : List UInt8} {n : Int} (h : IsDT l n) : vldB (gY l) (gM l) (gD l) = true ∧ gss l = n := by
  obtain ⟨h0, h1, y, m, d, hv, hn, rfl⟩ := h
  obtain ⟨a1, a2, a3, a4, a5, a6⟩ := vld_iff.1 hv
  have hd := dim_lo y m
  obtain ⟨p1, p2, p3, p4, p5, p6⟩ := dtext_parts n y m d a3 a4
  have e1 : gY (dtext n y m d) = y := by unfold gY; rw [p3, numb_4 _ (by omega)]; omega
  have e2 : gM (dtext n y m d) = m := by unfold gM; rw [p2, mnum_month _ (by omega)]; omega
  have e3 : gD (dtext n y m d) = d := by unfold gD; rw [p1, numb_2 _ (by omega)]; omega
  have e4 : gS (dtext n y m d) = n % 86400 := by unfold gS; rw [p4, p5, p6, numb_2 _ (by omega), numb_2 _ (by omega), numb_2 _ (by omega)]; omega
  refine ⟨by rw [e1, e2, e3]; exact hv, ?_⟩
  unfold gss
  rw [e1, e2, e3, e4, hn]; omega

theorem dt_inj {l : List UInt8} {n k : Int} (h : IsDT l n) (h' : IsDT l k) : n = k := by rw [← (dt_gss h).2, ← (dt_gss h').2]

theorem dt_text {n : Int} {y m d z k c : Int} (hv : vldB y m d = true) (hn : num y m d = n / 86400) (hv' : vldB z k c = true) (hn' : num z k c = n / 86400) : dtext n y m d = dtext n z k c := by
  obtain ⟨rfl, rfl, rfl⟩ := num_inj hv hv' (hn.trans hn'.symm)
  rfl

/-- what reading a text answers: the second whose text it is, and 0, or 0 and 3 -/
def PR (l : List UInt8) (n c : Int) : Prop := (c = 0 ∧ IsDT l n) ∨ (c = 3 ∧ n = 0 ∧ ∀ k, ¬ IsDT l k)

theorem PR_one {l : List UInt8} {n c m d : Int} (h : PR l n c) (h' : PR l m d) : n = m ∧ c = d := by
  rcases h with ⟨rfl, h⟩ | ⟨rfl, rfl, h⟩ <;> rcases h' with ⟨rfl, h'⟩ | ⟨rfl, rfl, h'⟩
  · exact ⟨dt_inj h h', rfl⟩
  · exact absurd h (h' _)
  · exact absurd h' (h _)
  · exact ⟨rfl, rfl⟩

theorem numb_bd2 {l : List UInt8} (h : l.length = 2) : -528 ≤ numb l ∧ numb l ≤ 2277 := by
  match l, h with
  | [a, b], _ =>
    have := a.toNat_lt; have := b.toNat_lt
    show -528 ≤ (0 * 10 + (a.toNat : Int) - 48) * 10 + (b.toNat : Int) - 48 ∧ (0 * 10 + (a.toNat : Int) - 48) * 10 + (b.toNat : Int) - 48 ≤ 2277
    omega
theorem numb_bd4 {l : List UInt8} (h : l.length = 4) : -53328 ≤ numb l ∧ numb l ≤ 229977 := by
  match l, h with
  | [a, b, c, d], _ =>
    have := a.toNat_lt; have := b.toNat_lt; have := c.toNat_lt; have := d.toNat_lt
    show -53328 ≤ (((0 * 10 + (a.toNat : Int) - 48) * 10 + (b.toNat : Int) - 48) * 10 + (c.toNat : Int) - 48) * 10 + (d.toNat : Int) - 48 ∧ (((0 * 10 + (a.toNat : Int) - 48) * 10 + (b.toNat : Int) - 48) * 10 + (c.toNat : Int) - 48) * 10 + (d.toNat : Int) - 48 ≤ 229977
    omega
theorem sl_len (l : List UInt8) (i j : Nat) (h : l.length = 29) (h1 : i ≤ j) (h2 : j ≤ 29) : (sl l i j).length = j - i := by
  unfold sl; rw [List.length_take, List.length_drop]; omega
end Go.Proofs.Ytoccjnbodoiibaa
