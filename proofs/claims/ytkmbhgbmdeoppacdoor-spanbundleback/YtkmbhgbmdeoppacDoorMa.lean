/-
  Plain functions on lists of bytes that say what package token and the document's answers compute, with small lemmas on them; no program is named here.
-/
import Derived.WalkKit
import Derived.WalkSpells
import Derived.WalkLawsBesides
import Derived.Lib.IndexAny
import Derived.Lib.UnsafeStr
import Derived.Lib.ItoaNum
import Derived.Lib.TrimByte
import Derived.Lib.IndexBytes
import Derived.Lib.AtoiTie
import Derived.Lib.Strings
import Derived.Lib.SlTrimSet
import Derived.Handy
import Derived.Deep.Draws
import Derived.Lib.LaidTab
import Derived.Lib.LaidU8
import Derived.MakeChecks
import Derived.Test.YtkmbhgbmdeoppacDoorShelf
import Derived.Test.YtkmbhgbmdeoppacDoorRows
import Derived.Lib.IndexMore
namespace Go.Proofs.YtkmbhgbmdeoppacDoor
open Go.RowKit

def isTok (c : UInt8) : Bool :=
  (97 ≤ c && c ≤ 122) || (65 ≤ c && c ≤ 90) || (48 ≤ c && c ≤ 57) || [33, 35, 36, 37, 38, 39, 42, 43, 45, 46, 94, 95, 96, 124, 126].contains c
def token (l : List UInt8) : Bool := !l.isEmpty && l.all isTok
def allIn (f s : List UInt8) : Bool := s.all fun c => f.contains c
def low (c : UInt8) : UInt8 := if 65 ≤ c && c ≤ 90 then c + 32 else c
def lower (l : List UInt8) : List UInt8 := l.map low

theorem byAll (P : UInt8 → Bool) (h : ∀ n : Fin 256, P (UInt8.ofNat n.val) = true) (c : UInt8) : P c = true := by
  have := h ⟨c.toNat, c.toNat_lt⟩
  simpa using this

theorem take_snoc (s : ByteArray) (k : Nat) (h : k < s.size) : s.data.toList.take (k + 1) = s.data.toList.take k ++ [s[k]] := by
  rw [List.take_succ_eq_append_getElem (by simpa using h)]; rfl

theorem size_list (s : ByteArray) : s.data.toList.length = s.size := by rw [Array.length_toList]; rfl

theorem take_all (s : ByteArray) : s.data.toList.take s.size = s.data.toList := by
  rw [List.take_of_length_le]; rw [size_list]; exact Nat.le_refl _

theorem extract_one (s : ByteArray) (k : Nat) (h : k < s.size) : s.extract k (k + 1) = ⟨#[s[k]]⟩ := by
  apply ByteArray.ext
  rw [ByteArray.data_extract]
  apply Array.ext'
  have h' : k < s.data.size := h
  simp [Array.toList_extract, List.extract_eq_take_drop]
  rw [List.drop_eq_getElem_cons (by simpa using h')]
  simp
  rfl

theorem ret_bool {a b : Bool} (h : a = b) : Ending.returned (.bool a) = .returned (.bool b) := by rw [h]
theorem ret_int {k : IntKind} {a b : Int} (h : a = b) : Ending.returned (.int k a) = .returned (.int k b) := by rw [h]
theorem ret_str {a b : ByteArray} (h : a = b) : Ending.returned (.string a) = .returned (.string b) := by rw [h]

theorem mem_at (s : ByteArray) (k : Nat) (h : k < s.size) : s[k] ∈ s.data.toList := by
  have h' : k < s.data.size := h
  exact Array.mem_toList_iff.2 (Array.getElem_mem h')

theorem all_false (s : ByteArray) (p : UInt8 → Bool) (k : Nat) (h : k < s.size) (hp : p s[k] = false) : s.data.toList.all p = false :=
  List.all_eq_false.2 ⟨s[k], mem_at s k h, by simp [hp]⟩

theorem isEmpty_size (s : ByteArray) : s.data.toList.isEmpty = decide (s.size = 0) := by
  rw [← size_list]; cases s.data.toList <;> simp

end Go.Proofs.YtkmbhgbmdeoppacDoor

/-
  The calendar in plain numbers: leap years, months, how many days are ahead of a year and of a month; days and their numbers, one for one. No program is named here.
-/
namespace Go.Proofs.YtkmbhgbmdeoppacDoor
open Go.RowKit

def lp (y : Int) : Int := if y % 4 = 0 ∧ (y % 100 ≠ 0 ∨ y % 400 = 0) then 1 else 0
def lpB (y : Int) : Bool := lp y == 1
def dim (y m : Int) : Int := if m = 2 then 28 + lp y else if m = 4 ∨ m = 6 ∨ m = 9 ∨ m = 11 then 30 else 31
def dby (y : Int) : Int := (y - 1970) * 365 + ((y - 1) / 4 - (y - 1) / 100 + (y - 1) / 400) - 477
def cum (y m : Int) : Int :=
  if m ≤ 1 then 0 else if m = 2 then 31 else if m = 3 then 59 + lp y else if m = 4 then 90 + lp y else if m = 5 then 120 + lp y
  else if m = 6 then 151 + lp y else if m = 7 then 181 + lp y else if m = 8 then 212 + lp y else if m = 9 then 243 + lp y
  else if m = 10 then 273 + lp y else if m = 11 then 304 + lp y else if m = 12 then 334 + lp y else 365 + lp y
def num (y m d : Int) : Int := dby y + cum y m + d - 1
def vldB (y m d : Int) : Bool := decide (1970 ≤ y ∧ y ≤ 9999 ∧ 1 ≤ m ∧ m ≤ 12 ∧ 1 ≤ d ∧ d ≤ dim y m)

theorem vld_iff {y m d : Int} : vldB y m d = true ↔ 1970 ≤ y ∧ y ≤ 9999 ∧ 1 ≤ m ∧ m ≤ 12 ∧ 1 ≤ d ∧ d ≤ dim y m := by unfold vldB; simp
theorem vld_mk {y m d : Int} (h : 1970 ≤ y ∧ y ≤ 9999 ∧ 1 ≤ m ∧ m ≤ 12 ∧ 1 ≤ d ∧ d ≤ dim y m) : vldB y m d = true := vld_iff.2 h
theorem vld_no {y m d : Int} (h : ¬ (1970 ≤ y ∧ y ≤ 9999 ∧ 1 ≤ m ∧ m ≤ 12 ∧ 1 ≤ d ∧ d ≤ dim y m)) : vldB y m d = false := by unfold vldB; simpa using h

theorem lp_01 (y : Int) : 0 ≤ lp y ∧ lp y ≤ 1 := by unfold lp; split <;> omega
theorem lp_or (y : Int) : lp y = 0 ∨ lp y = 1 := by unfold lp; split <;> simp
theorem dim_lo (y m : Int) : 28 ≤ dim y m ∧ dim y m ≤ 31 := by
  have := lp_01 y
  unfold dim; split <;> (try split) <;> omega
theorem dby_succ (y : Int) : dby (y + 1) = dby y + 365 + lp y := by
  unfold dby lp; split <;> omega
theorem dby_mono (a b : Int) (h : a ≤ b) : dby a ≤ dby b := by unfold dby; omega
theorem dby_bd (a : Int) (h0 : 1970 ≤ a) (h : a ≤ 10000) : 0 ≤ dby a ∧ dby a ≤ 2932897 := by unfold dby; omega
theorem dby_0 : dby 1970 = 0 := by decide
theorem dby_max : dby 10000 = 2932897 := by decide
theorem dby_guess (n : Int) (h : 0 ≤ n) : dby (1970 + n / 366) ≤ n := by unfold dby; omega
theorem dby_400 (y : Int) : dby (y + 400) = dby y + 146097 := by unfold dby; omega
theorem lp_400 (y : Int) : lp (y + 400) = lp y := by unfold lp; split <;> split <;> omega
theorem dim_400 (y m : Int) : dim (y + 400) m = dim y m := by unfold dim; rw [lp_400]
theorem cum_400 (y m : Int) : cum (y + 400) m = cum y m := by unfold cum; rw [lp_400]

theorem m12 {m : Int} (h1 : 1 ≤ m) (h2 : m ≤ 12) : m = 1 ∨ m = 2 ∨ m = 3 ∨ m = 4 ∨ m = 5 ∨ m = 6 ∨ m = 7 ∨ m = 8 ∨ m = 9 ∨ m = 10 ∨ m = 11 ∨ m = 12 := by omega

theorem cum_succ (y m : Int) (h1 : 1 ≤ m) (h2 : m ≤ 12) : cum y (m + 1) = cum y m + dim y m := by
  rcases m12 h1 h2 with rfl | rfl | rfl | rfl | rfl | rfl | rfl | rfl | rfl | rfl | rfl | rfl <;> simp [cum, dim] <;> omega
theorem cum_one (y : Int) : cum y 1 = 0 := by simp [cum]
theorem cum_13 (y : Int) : cum y 13 = 365 + lp y := by simp [cum]
theorem cum_bd (y m : Int) : 0 ≤ cum y m ∧ cum y m ≤ 366 := by
  have := lp_01 y
  unfold cum
  repeat (first | omega | split)
theorem cum_mono (y a b : Int) (h1 : 1 ≤ a) (h2 : a < b) (h3 : b ≤ 13) : cum y a + dim y a ≤ cum y b := by
  have := lp_01 y
  rcases m12 h1 (show a ≤ 12 by omega) with rfl | rfl | rfl | rfl | rfl | rfl | rfl | rfl | rfl | rfl | rfl | rfl
  all_goals
    rcases (show b = 2 ∨ b = 3 ∨ b = 4 ∨ b = 5 ∨ b = 6 ∨ b = 7 ∨ b = 8 ∨ b = 9 ∨ b = 10 ∨ b = 11 ∨ b = 12 ∨ b = 13 by omega) with rfl | rfl | rfl | rfl | rfl | rfl | rfl | rfl | rfl | rfl | rfl | rfl
    all_goals first | omega | (simp [cum, dim] <;> omega)

theorem num_lo {y m d : Int} (h : vldB y m d = true) : dby y ≤ num y m d ∧ num y m d < dby (y + 1) := by
  obtain ⟨a, b, c, e, f, g⟩ := vld_iff.1 h
  have h1 := cum_bd y m
  have h2 := cum_succ y m c e
  have h3 : cum y (m + 1) ≤ cum y 13 := by
    by_cases hm : m = 12
    · subst hm; exact Int.le_refl _
    · have := cum_mono y (m + 1) 13 (by omega) (by omega) (by omega)
      have := dim_lo y (m + 1); omega
  have h4 := dby_succ y
  rw [cum_13] at h3
  unfold num; omega
theorem num_bd {y m d : Int} (h : vldB y m d = true) : 0 ≤ num y m d ∧ num y m d ≤ 2932896 := by
  obtain ⟨a, b, _⟩ := vld_iff.1 h
  have h1 := num_lo h
  have h2 := dby_bd y a (by omega)
  have h3 := dby_mono (y + 1) 10000 (by omega)
  rw [dby_max] at h3; omega

theorem num_lt {y m d z k c : Int} (h : vldB y m d = true) (h' : vldB z k c = true) (hl : y < z ∨ y = z ∧ (m < k ∨ m = k ∧ d < c)) : num y m d < num z k c := by
  rcases hl with hl | ⟨rfl, hl | ⟨rfl, hl⟩⟩
  · have := num_lo h
    have := num_lo h'
    have := dby_mono (y + 1) z (by omega)
    omega
  · obtain ⟨a, b, c, e, f, g⟩ := vld_iff.1 h
    obtain ⟨a', b', c', e', f', g'⟩ := vld_iff.1 h'
    have := cum_mono y m k c hl (by omega)
    unfold num; omega
  · unfold num; omega
theorem num_order {y m d z k c : Int} (h : vldB y m d = true) (h' : vldB z k c = true) : num y m d < num z k c ↔ y < z ∨ y = z ∧ (m < k ∨ m = k ∧ d < c) := by
  refine ⟨fun hl => ?_, num_lt h h'⟩
  by_cases g : y < z ∨ y = z ∧ (m < k ∨ m = k ∧ d < c)
  · exact g
  · rcases (show z < y ∨ z = y ∧ (k < m ∨ k = m ∧ c < d) ∨ (y = z ∧ m = k ∧ d = c) by omega) with g' | g' | ⟨rfl, rfl, rfl⟩
    · have := num_lt h' h (.inl g'); omega
    · have := num_lt h' h (.inr g'); omega
    · omega
theorem num_inj {y m d z k c : Int} (h : vldB y m d = true) (h' : vldB z k c = true) (e : num y m d = num z k c) : y = z ∧ m = k ∧ d = c := by
  have a := (num_order h h').2
  have b := (num_order h' h).2
  rcases (show (y < z ∨ y = z ∧ (m < k ∨ m = k ∧ d < c)) ∨ (z < y ∨ z = y ∧ (k < m ∨ k = m ∧ c < d)) ∨ (y = z ∧ m = k ∧ d = c) by omega) with g | g | g
  · have := a g; omega
  · have := b g; omega
  · exact g
theorem num_400 (y m d : Int) : num (y + 400) m d = num y m d + 146097 := by
  unfold num; rw [dby_400, cum_400]; omega
theorem vld_400 (y m d : Int) (h : vldB y m d = true) (h' : y ≤ 9599) : vldB (y + 400) m d = true := by
  have := vld_iff.1 h
  refine vld_mk ?_
  rw [dim_400]; omega
theorem vld_400' (y m d : Int) (h : vldB (y + 400) m d = true) (h' : 1970 ≤ y) : vldB y m d = true := by
  have := vld_iff.1 h
  rw [dim_400] at this
  exact vld_mk (by omega)

theorem num_of (n y k : Int) : num y k (n - dby y - cum y k + 1) = n := by unfold num; omega
theorem vld_of (n y k : Int) (a : 1970 ≤ y) (b : y ≤ 9999) (c : 1 ≤ k) (d : k ≤ 12) (e : 0 ≤ n - dby y - cum y k) (f : n - dby y - cum y k < dim y k) : vldB y k (n - dby y - cum y k + 1) = true :=
  vld_mk (by omega)

/-- the day behind a day -/
theorem num_next {y m d z k c : Int} (h : vldB y m d = true) (h' : vldB z k c = true) (e : num z k c = num y m d + 1) :
    (z = y ∧ k = m ∧ c = d + 1 ∧ c ≤ 31) ∨ (z = y ∧ k = m + 1 ∧ c = 1 ∧ 28 ≤ d ∧ d ≤ 31) ∨ (z = y + 1 ∧ m = 12 ∧ k = 1 ∧ c = 1 ∧ 28 ≤ d ∧ d ≤ 31) := by
  obtain ⟨a1, a2, a3, a4, a5, a6⟩ := vld_iff.1 h
  have hd := dim_lo y m
  have b := vld_iff.1 h'
  by_cases h1 : d < dim y m
  · have hv : vldB y m (d + 1) = true := vld_mk (by omega)
    have := num_inj h' hv (by rw [e]; unfold num; omega)
    left; omega
  · by_cases h2 : m = 12
    · subst h2
      have hy : y < 9999 := by
        by_cases hy : y < 9999
        · exact hy
        · have hb := num_bd h'
          obtain rfl : y = 9999 := by omega
          rw [e] at hb
          have h3 : dim 9999 12 = 31 := by decide
          obtain rfl : d = 31 := by omega
          have h4 : num 9999 12 31 = 2932896 := by decide
          rw [h4] at hb; omega
      have hdd := dim_lo (y + 1) 1
      have hv : vldB (y + 1) 1 1 = true := vld_mk (by omega)
      have h4 := dby_succ y
      have h5 : cum y 12 = 334 + lp y := by simp [cum]
      have h6 : dim y 12 = 31 := by simp [dim]
      have := num_inj h' hv (by rw [e]; unfold num; rw [cum_one]; omega)
      right; right; omega
    · have hdd := dim_lo y (m + 1)
      have hv : vldB y (m + 1) 1 = true := vld_mk (by omega)
      have hc := cum_succ y m a3 a4
      have := num_inj h' hv (by rw [e]; unfold num; omega)
      right; left; omega
end Go.Proofs.YtkmbhgbmdeoppacDoor

/-
  Dates as lists of bytes: the names of days and months, numbers in two and in four digits, the text of a second; no program is named here.
-/
namespace Go.Proofs.YtkmbhgbmdeoppacDoor
open Go.RowKit

def weekL : List (List UInt8) := [[84, 104, 117], [70, 114, 105], [83, 97, 116], [83, 117, 110], [77, 111, 110], [84, 117, 101], [87, 101, 100]]
def monthL : List (List UInt8) := [[74, 97, 110], [70, 101, 98], [77, 97, 114], [65, 112, 114], [77, 97, 121], [74, 117, 110], [74, 117, 108], [65, 117, 103], [83, 101, 112], [79, 99, 116], [78, 111, 118], [68, 101, 99]]
def weekS (k : Nat) : List UInt8 := weekL.getD k []
def monthS (k : Nat) : List UInt8 := monthL.getD k []
def dg (u : Nat) : UInt8 := UInt8.ofNat (48 + u)
def dig2 (u : Nat) : List UInt8 := [dg (u / 10), dg (u % 10)]
def dig4 (u : Nat) : List UInt8 := [dg (u / 1000), dg (u / 100 % 10), dg (u / 10 % 10), dg (u % 10)]

/-- the text of second n, on the day (y, m, d) -/
def dtext (n y m d : Int) : List UInt8 :=
  weekS (n / 86400 % 7).toNat ++ [44, 32] ++ dig2 d.toNat ++ [32] ++ monthS (m - 1).toNat ++ [32] ++ dig4 y.toNat ++ [32]
    ++ dig2 (n % 86400 / 3600).toNat ++ [58] ++ dig2 (n % 3600 / 60).toNat ++ [58] ++ dig2 (n % 60).toNat ++ [32, 71, 77, 84]

theorem week_len (k : Nat) (h : k < 7) : (weekS k).length = 3 := by
  rcases (show k = 0 ∨ k = 1 ∨ k = 2 ∨ k = 3 ∨ k = 4 ∨ k = 5 ∨ k = 6 by omega) with rfl | rfl | rfl | rfl | rfl | rfl | rfl <;> rfl
theorem month_len (k : Nat) (h : k < 12) : (monthS k).length = 3 := by
  rcases (show k = 0 ∨ k = 1 ∨ k = 2 ∨ k = 3 ∨ k = 4 ∨ k = 5 ∨ k = 6 ∨ k = 7 ∨ k = 8 ∨ k = 9 ∨ k = 10 ∨ k = 11 by omega) with rfl | rfl | rfl | rfl | rfl | rfl | rfl | rfl | rfl | rfl | rfl | rfl <;> rfl
theorem dig2_len (u : Nat) : (dig2 u).length = 2 := rfl
theorem dig4_len (u : Nat) : (dig4 u).length = 4 := rfl

theorem dec_1 (u : Nat) (h : u < 10) : [48] ++ Lib.decDigits u = dig2 u := by
  rw [Lib.decDigits_one h]
  unfold dig2
  rw [show u / 10 = 0 by omega, show u % 10 = u by omega]; rfl
theorem dec_2 (u : Nat) (h1 : ¬ u < 10) (h2 : u < 100) : Lib.decDigits u = dig2 u := Lib.decDigits_two h1 h2
theorem dec_4 (u : Nat) (h1 : 1000 ≤ u) (h2 : u ≤ 9999) : Lib.decDigits u = dig4 u := by
  rw [Lib.decDigits, dif_neg (by omega), Lib.decDigits, dif_neg (by omega), Lib.decDigits_two (by omega) (by omega)]
  unfold dig4
  rw [show u / 10 / 10 / 10 = u / 1000 by omega, show u / 10 / 10 % 10 = u / 100 % 10 by omega]
  rfl

theorem dtext_len (n y m d : Int) (h1 : 1 ≤ m) (h2 : m ≤ 12) : (dtext n y m d).length = 29 := by
  unfold dtext
  simp only [List.length_append, dig2_len, dig4_len, week_len (n / 86400 % 7).toNat (by omega), month_len (m - 1).toNat (by omega), List.length_cons, List.length_nil]
end Go.Proofs.YtkmbhgbmdeoppacDoor

/-
  How a date's text is read in plain lists: numbers of digits, months by their names, the places where they stand; only one second has a given text. No program is named here.
-/
namespace Go.Proofs.YtkmbhgbmdeoppacDoor
open Go.RowKit

def sl (l : List UInt8) (i j : Nat) : List UInt8 := (l.drop i).take (j - i)
def numb (l : List UInt8) : Int := l.foldl (fun n c => n * 10 + (c.toNat : Int) - 48) 0
def mnumAt (x : List UInt8) (k : Nat) : Int := if k < 12 then if monthS k = x then (k : Int) + 1 else mnumAt x (k + 1) else 0
termination_by 12 - k
def mnum (x : List UInt8) : Int := mnumAt x 0

/-- l is the text of second n -/
def IsDT (l : List UInt8) (n : Int) : Prop := 0 ≤ n ∧ n ≤ 253402300799 ∧ ∃ y m d : Int, vldB y m d = true ∧ num y m d = n / 86400 ∧ l = dtext n y m d

def gY (l : List UInt8) : Int := numb (sl l 12 16)
def gM (l : List UInt8) : Int := mnum (sl l 8 11)
def gD (l : List UInt8) : Int := numb (sl l 5 7)
def gS (l : List UInt8) : Int := numb (sl l 17 19) * 3600 + numb (sl l 20 22) * 60 + numb (sl l 23 25)
def gss (l : List UInt8) : Int := num (gY l) (gM l) (gD l) * 86400 + gS l

theorem numb_snoc (l : List UInt8) (c : UInt8) : numb (l ++ [c]) = numb l * 10 + (c.toNat : Int) - 48 := by unfold numb; rw [List.foldl_append]; rfl

theorem dg_nat (u : Nat) (h : u < 10) : (dg u).toNat = 48 + u := by
  unfold dg
  rw [UInt8.toNat_ofNat', Nat.mod_eq_of_lt (by omega)]
theorem numb_2 (u : Nat) (h : u < 100) : numb (dig2 u) = u := by
  show (0 * 10 + ((dg (u / 10)).toNat : Int) - 48) * 10 + ((dg (u % 10)).toNat : Int) - 48 = u
  rw [dg_nat _ (by omega), dg_nat _ (by omega)]; omega
theorem numb_4 (u : Nat) (h : u < 10000) : numb (dig4 u) = u := by
  show (((0 * 10 + ((dg (u / 1000)).toNat : Int) - 48) * 10 + ((dg (u / 100 % 10)).toNat : Int) - 48) * 10 + ((dg (u / 10 % 10)).toNat : Int) - 48) * 10 + ((dg (u % 10)).toNat : Int) - 48 = u
  rw [dg_nat _ (by omega), dg_nat _ (by omega), dg_nat _ (by omega), dg_nat _ (by omega)]; omega
theorem mnum_month (k : Nat) (h : k < 12) : mnum (monthS k) = (k : Int) + 1 := by
  rcases (show k = 0 ∨ k = 1 ∨ k = 2 ∨ k = 3 ∨ k = 4 ∨ k = 5 ∨ k = 6 ∨ k = 7 ∨ k = 8 ∨ k = 9 ∨ k = 10 ∨ k = 11 by omega) with rfl | rfl | rfl | rfl | rfl | rfl | rfl | rfl | rfl | rfl | rfl | rfl <;> decide +kernel
theorem mnum_hit (x : List UInt8) (k : Nat) (h : k < 12) (e : monthS k = x) : mnumAt x k = (k : Int) + 1 := by rw [mnumAt, if_pos h, if_pos e]
theorem mnum_miss (x : List UInt8) (k : Nat) (h : k < 12) (e : monthS k ≠ x) : mnumAt x k = mnumAt x (k + 1) := by rw [mnumAt, if_pos h, if_neg e]
theorem mnum_end (x : List UInt8) : mnumAt x 12 = 0 := by rw [mnumAt, if_neg (by omega)]
theorem mnumAt_bd (x : List UInt8) (j : Nat) : ∀ k : Nat, 12 - k ≤ j → 0 ≤ mnumAt x k ∧ mnumAt x k ≤ 12 := by
  induction j with
  | zero => intro k hk; rw [mnumAt, if_neg (by omega)]; omega
  | succ j ih =>
    intro k hk
    rw [mnumAt]
    split
    · split
      · omega
      · exact ih (k + 1) (by omega)
    · omega
theorem mnum_bd (x : List UInt8) : 0 ≤ mnum x ∧ mnum x ≤ 12 := mnumAt_bd x 12 0 (Nat.le_refl _)

theorem three {l : List UInt8} (h : l.length = 3) : ∃ a b c, l = [a, b, c] := by
  match l, h with
  | [a, b, c], _ => exact ⟨a, b, c, rfl⟩

/-- where the parts of a date's text stand -/
theorem dtext_parts (n y m d : Int) (h1 : 1 ≤ m) (h2 : m ≤ 12) :
    sl (dtext n y m d) 5 7 = dig2 d.toNat ∧ sl (dtext n y m d) 8 11 = monthS (m - 1).toNat ∧ sl (dtext n y m d) 12 16 = dig4 y.toNat ∧ sl (dtext n y m d) 17 19 = dig2 (n % 86400 / 3600).toNat
      ∧ sl (dtext n y m d) 20 22 = dig2 (n % 3600 / 60).toNat ∧ sl (dtext n y m d) 23 25 = dig2 (n % 60).toNat := by
  obtain ⟨a, b, c, e1⟩ := three (week_len (n / 86400 % 7).toNat (by omega))
  obtain ⟨p, q, r, e2⟩ := three (month_len (m - 1).toNat (by omega))
  unfold dtext
  rw [e1, e2]
  exact ⟨rfl, rfl, rfl, rfl, rfl, rfl⟩

theorem dt_len {l : List UInt8} {n : Int} (h : IsDT l n) : l.length = 29 := by
  obtain ⟨_, _, y, m, d, hv, _, rfl⟩ := h
  obtain ⟨_, _, a, b, _⟩ := vld_iff.1 hv
  exact dtext_len n y m d a b

theorem dt_gss {l : List UInt8} {n : Int} (h : IsDT l n) : vldB (gY l) (gM l) (gD l) = true ∧ gss l = n := by
  obtain ⟨h0, h1, y, m, d, hv, hn, rfl⟩ := h
  obtain ⟨a1, a2, a3, a4, a5, a6⟩ := vld_iff.1 hv
  have hd := dim_lo y m
  obtain ⟨p1, p2, p3, p4, p5, p6⟩ := dtext_parts n y m d a3 a4
  have e1 : gY (dtext n y m d) = y := by unfold gY; rw [p3, numb_4 _ (by omega)]; omega
  have e2 : gM (dtext n y m d) = m := by unfold gM; rw [p2, mnum_month _ (by omega)]; omega
  have e3 : gD (dtext n y m d) = d := by unfold gD; rw [p1, numb_2 _ (by omega)]; omega
  have e4 : gS (dtext n y m d) = n % 86400 := by unfold gS; rw [p4, p5, p6, numb_2 _ (by omega), numb_2 _ (by omega), numb_2 _ (by omega)]; omega
  refine ⟨by rw [e1, e2, e3]; exact hv, ?_⟩
  unfold gss
  rw [e1, e2, e3, e4, hn]; omega

theorem dt_inj {l : List UInt8} {n k : Int} (h : IsDT l n) (h' : IsDT l k) : n = k := by rw [← (dt_gss h).2, ← (dt_gss h').2]

theorem dt_text {n : Int} {y m d z k c : Int} (hv : vldB y m d = true) (hn : num y m d = n / 86400) (hv' : vldB z k c = true) (hn' : num z k c = n / 86400) : dtext n y m d = dtext n z k c := by
  obtain ⟨rfl, rfl, rfl⟩ := num_inj hv hv' (hn.trans hn'.symm)
  rfl

/-- what reading a text answers: the second whose text it is, and 0, or 0 and 3 -/
def PR (l : List UInt8) (n c : Int) : Prop := (c = 0 ∧ IsDT l n) ∨ (c = 3 ∧ n = 0 ∧ ∀ k, ¬ IsDT l k)

theorem PR_one {l : List UInt8} {n c m d : Int} (h : PR l n c) (h' : PR l m d) : n = m ∧ c = d := by
  rcases h with ⟨rfl, h⟩ | ⟨rfl, rfl, h⟩ <;> rcases h' with ⟨rfl, h'⟩ | ⟨rfl, rfl, h'⟩
  · exact ⟨dt_inj h h', rfl⟩
  · exact absurd h (h' _)
  · exact absurd h' (h _)
  · exact ⟨rfl, rfl⟩

theorem numb_bd2 {l : List UInt8} (h : l.length = 2) : -528 ≤ numb l ∧ numb l ≤ 2277 := by
  match l, h with
  | [a, b], _ =>
    have := a.toNat_lt; have := b.toNat_lt
    show -528 ≤ (0 * 10 + (a.toNat : Int) - 48) * 10 + (b.toNat : Int) - 48 ∧ (0 * 10 + (a.toNat : Int) - 48) * 10 + (b.toNat : Int) - 48 ≤ 2277
    omega
theorem numb_bd4 {l : List UInt8} (h : l.length = 4) : -53328 ≤ numb l ∧ numb l ≤ 229977 := by
  match l, h with
  | [a, b, c, d], _ =>
    have := a.toNat_lt; have := b.toNat_lt; have := c.toNat_lt; have := d.toNat_lt
    show -53328 ≤ (((0 * 10 + (a.toNat : Int) - 48) * 10 + (b.toNat : Int) - 48) * 10 + (c.toNat : Int) - 48) * 10 + (d.toNat : Int) - 48 ∧ (((0 * 10 + (a.toNat : Int) - 48) * 10 + (b.toNat : Int) - 48) * 10 + (c.toNat : Int) - 48) * 10 + (d.toNat : Int) - 48 ≤ 229977
    omega
theorem sl_len (l : List UInt8) (i j : Nat) (h : l.length = 29) (h1 : i ≤ j) (h2 : j ≤ 29) : (sl l i j).length = j - i := by
  unfold sl; rw [List.length_take, List.length_drop]; omega
end Go.Proofs.YtkmbhgbmdeoppacDoor

/-
  Numbers of digits in plain lists, as the document's answers count them; no program is named here.
-/
namespace Go.Proofs.YtkmbhgbmdeoppacDoor
open Go.RowKit

def isDig (c : UInt8) : Bool := 48 ≤ c && c ≤ 57
def cnt (l : List UInt8) (most : Int) : Int :=
  if l.length = 0 ∨ 18 < l.length ∨ (1 < l.length ∧ l.head? = some 48) ∨ l.all isDig = false then -1 else if most < numb l then -1 else numb l
/-- a number with noughts ahead, as the document's answers count it: -1 for 0 -/
def cn (l : List UInt8) : Int := cnt (Lib.trimLeftB l 48) 9999

theorem dig_iff (c : UInt8) : isDig c = true ↔ 48 ≤ c.toNat ∧ c.toNat ≤ 57 := by
  unfold isDig
  simp [UInt8.le_iff_toNat_le]
theorem dig_tens (c : UInt8) : ([48, 49, 50, 51, 52, 53, 54, 55, 56, 57] : List UInt8).contains c = isDig c := by
  have := byAll (fun c => ([48, 49, 50, 51, 52, 53, 54, 55, 56, 57] : List UInt8).contains c == isDig c) (by decide +kernel) c
  simpa using this
theorem tens_all (l : List UInt8) : allIn [48, 49, 50, 51, 52, 53, 54, 55, 56, 57] l = l.all isDig := congrArg l.all (funext dig_tens)

theorem foldl_bd (l : List UInt8) : ∀ (_ : l.all isDig = true) (n : Int) (_ : 0 ≤ n), 0 ≤ l.foldl (fun n c => n * 10 + (c.toNat : Int) - 48) n ∧ l.foldl (fun n c => n * 10 + (c.toNat : Int) - 48) n < (n + 1) * 10 ^ l.length := by
  induction l with
  | nil => intro _ n hn; simp; omega
  | cons c l ih =>
    intro h n hn
    rw [List.all_cons, Bool.and_eq_true] at h
    obtain ⟨h1, h2⟩ := (dig_iff c).1 h.1
    have := ih h.2 (n * 10 + (c.toNat : Int) - 48) (by omega)
    rw [List.foldl_cons]
    refine ⟨this.1, Int.lt_of_lt_of_le this.2 ?_⟩
    rw [List.length_cons, Int.pow_succ, Int.mul_comm (10 ^ l.length) 10, ← Int.mul_assoc]
    exact Int.mul_le_mul_of_nonneg_right (by omega) (by exact Int.le_of_lt (Int.pow_pos (by omega)))
theorem numb_dig (l : List UInt8) (h : l.all isDig = true) : 0 ≤ numb l ∧ numb l < 10 ^ l.length := by
  have := foldl_bd l h 0 (Int.le_refl _)
  simpa [numb] using this

theorem cnt_most (l : List UInt8) (most : Int) (h : 0 ≤ most) : -1 ≤ cnt l most ∧ cnt l most ≤ most := by
  unfold cnt
  split
  · omega
  · rename_i h1
    split
    · omega
    · rename_i h2
      have : l.all isDig = true := by
        cases hq : l.all isDig with
        | true => rfl
        | false => exact absurd (.inr (.inr (.inr hq))) h1
      have := (numb_dig l this).1
      omega
theorem numb_trim (l : List UInt8) : numb (Lib.trimLeftB l 48) = numb l := by
  unfold Lib.trimLeftB
  induction l with
  | nil => rfl
  | cons c l ih =>
    rw [List.dropWhile_cons]
    split
    · rename_i h
      obtain rfl : c = 48 := by simpa using h
      rw [ih]; rfl
    · rfl
theorem trim_all (l : List UInt8) (h : l.all isDig = true) : (Lib.trimLeftB l 48).all isDig = true :=
  List.all_eq_true.2 fun x hx => List.all_eq_true.1 h x ((List.dropWhile_sublist _).mem hx)
theorem trim_len (l : List UInt8) : (Lib.trimLeftB l 48).length ≤ l.length := (List.dropWhile_sublist _).length_le
theorem trim_head (l : List UInt8) : (Lib.trimLeftB l 48).head? ≠ some 48 := by
  unfold Lib.trimLeftB
  induction l with
  | nil => simp
  | cons c l ih =>
    rw [List.dropWhile_cons]
    split
    · exact ih
    · rename_i h
      simpa using h

theorem numb_dig4 (l : List UInt8) (h : l.all isDig = true) (hl : l.length ≤ 4) : 0 ≤ numb l ∧ numb l ≤ 9999 := by
  obtain ⟨a, b⟩ := numb_dig l h
  refine ⟨a, ?_⟩
  rcases (show l.length = 0 ∨ l.length = 1 ∨ l.length = 2 ∨ l.length = 3 ∨ l.length = 4 by omega) with e | e | e | e | e <;> (rw [e] at b; omega)

theorem cn_is (l : List UInt8) (h : l.all isDig = true) (hl : l.length ≤ 4) : (cn l = -1 ∧ numb l = 0) ∨ cn l = numb l := by
  have b := numb_dig4 l h hl
  have t1 := trim_all l h
  have t2 := trim_len l
  have t3 := trim_head l
  have t4 := numb_trim l
  unfold cn cnt
  rw [t4]
  by_cases he : (Lib.trimLeftB l 48).length = 0
  · left
    refine ⟨if_pos (.inl he), ?_⟩
    rw [← t4, List.length_eq_zero_iff.1 he]; rfl
  · right
    rw [if_neg, if_neg (by omega)]
    rintro (g | g | g | g)
    · exact he g
    · omega
    · exact t3 g.2
    · rw [t1] at g; cases g
theorem cn_max (l : List UInt8) (h : l.all isDig = true) (hl : l.length ≤ 4) : max 0 (cn l) = numb l := by
  have b := numb_dig4 l h hl
  rcases cn_is l h hl with ⟨e, f⟩ | e
  · rw [e, f]; rfl
  · rw [e]; omega
theorem cn_bd (l : List UInt8) (h : l.all isDig = true) (hl : l.length ≤ 4) : -1 ≤ cn l ∧ cn l ≤ 9999 := by
  have b := numb_dig4 l h hl
  rcases cn_is l h hl with ⟨e, f⟩ | e <;> omega

theorem dig_dg (u : Nat) (h : u < 10) : isDig (dg u) = true := by rw [dig_iff, dg_nat u h]; omega
theorem dig2_all (u : Nat) (h : u < 100) : (dig2 u).all isDig = true := by
  unfold dig2; simp [dig_dg (u / 10) (by omega), dig_dg (u % 10) (by omega)]
theorem dig4_all (u : Nat) (h : u < 10000) : (dig4 u).all isDig = true := by
  unfold dig4; simp [dig_dg (u / 1000) (by omega), dig_dg (u / 100 % 10) (by omega), dig_dg (u / 10 % 10) (by omega), dig_dg (u % 10) (by omega)]

def mtext : List UInt8 := [74, 97, 110, 32, 70, 101, 98, 32, 77, 97, 114, 32, 65, 112, 114, 32, 77, 97, 121, 32, 74, 117, 110, 32, 74, 117, 108, 32, 65, 117, 103, 32, 83, 101, 112, 32, 79, 99, 116, 32, 78, 111, 118, 32, 68, 101, 99]
theorem mtext_at (k : Nat) (h : k < 12) : Lib.index mtext (monthS k) = 4 * (k : Int) := by
  rcases (show k = 0 ∨ k = 1 ∨ k = 2 ∨ k = 3 ∨ k = 4 ∨ k = 5 ∨ k = 6 ∨ k = 7 ∨ k = 8 ∨ k = 9 ∨ k = 10 ∨ k = 11 by omega) with rfl | rfl | rfl | rfl | rfl | rfl | rfl | rfl | rfl | rfl | rfl | rfl <;> decide +kernel
theorem mtext_bd (x : List UInt8) : -1 ≤ Lib.index mtext x ∧ Lib.index mtext x ≤ 47 := ⟨Lib.index_ge _ _, Lib.index_le _ _⟩

/-- the five numbers' texts of a date -/
def part (l : List UInt8) (k : Nat) : List UInt8 := ([sl l 5 7, sl l 12 16, sl l 17 19, sl l 20 22, sl l 23 25]).getD k []
theorem part0 (l : List UInt8) : part l 0 = sl l 5 7 := rfl
theorem part1 (l : List UInt8) : part l 1 = sl l 12 16 := rfl
theorem part2 (l : List UInt8) : part l 2 = sl l 17 19 := rfl
theorem part3 (l : List UInt8) : part l 3 = sl l 20 22 := rfl
theorem part4 (l : List UInt8) : part l 4 = sl l 23 25 := rfl
def digs (l : List UInt8) : Prop := ∀ k : Nat, k < 5 → (part l k).all isDig = true
def rN (l : List UInt8) (m : Int) : Int := num (cn (part l 1)) (m / 4 + 1) (numb (part l 0)) * 86400 + 3600 * numb (part l 2) + 60 * numb (part l 3) + numb (part l 4)

theorem part_len (l : List UInt8) (h : l.length = 29) (k : Nat) (hk : k < 5) : (part l k).length ≤ 4 := by
  rcases (show k = 0 ∨ k = 1 ∨ k = 2 ∨ k = 3 ∨ k = 4 by omega) with rfl | rfl | rfl | rfl | rfl
  · exact Nat.le_trans (Nat.le_of_eq (sl_len l 5 7 h (by decide) (by decide))) (by decide)
  · exact Nat.le_trans (Nat.le_of_eq (sl_len l 12 16 h (by decide) (by decide))) (by decide)
  · exact Nat.le_trans (Nat.le_of_eq (sl_len l 17 19 h (by decide) (by decide))) (by decide)
  · exact Nat.le_trans (Nat.le_of_eq (sl_len l 20 22 h (by decide) (by decide))) (by decide)
  · exact Nat.le_trans (Nat.le_of_eq (sl_len l 23 25 h (by decide) (by decide))) (by decide)
theorem part_bd2 (l : List UInt8) (h : l.length = 29) (hd : digs l) (k : Nat) (hk : k < 5) (h1 : k ≠ 1) : 0 ≤ numb (part l k) ∧ numb (part l k) ≤ 99 := by
  obtain ⟨a, b⟩ := numb_dig (part l k) (hd k hk)
  have hl : (part l k).length = 2 := by
    rcases (show k = 0 ∨ k = 2 ∨ k = 3 ∨ k = 4 by omega) with rfl | rfl | rfl | rfl
    · exact sl_len l 5 7 h (by decide) (by decide)
    · exact sl_len l 17 19 h (by decide) (by decide)
    · exact sl_len l 20 22 h (by decide) (by decide)
    · exact sl_len l 23 25 h (by decide) (by decide)
  rw [hl] at b
  omega

/-- what the document's answers read of a date's text -/
theorem dt_ref {l : List UInt8} {n : Int} (h : IsDT l n) : digs l ∧ 0 ≤ Lib.index mtext (sl l 8 11) ∧ vldB (cn (part l 1)) (Lib.index mtext (sl l 8 11) / 4 + 1) (numb (part l 0)) = true ∧ rN l (Lib.index mtext (sl l 8 11)) = n := by
  have hlen := dt_len h
  obtain ⟨h0, h1, y, m, d, hv, hn, rfl⟩ := h
  obtain ⟨a1, a2, a3, a4, a5, a6⟩ := vld_iff.1 hv
  have hd := dim_lo y m
  obtain ⟨p1, p2, p3, p4, p5, p6⟩ := dtext_parts n y m d a3 a4
  have hdg : digs (dtext n y m d) := by
    intro k hk
    rcases (show k = 0 ∨ k = 1 ∨ k = 2 ∨ k = 3 ∨ k = 4 by omega) with rfl | rfl | rfl | rfl | rfl
    · rw [part0, p1]; exact dig2_all _ (by omega)
    · rw [part1, p3]; exact dig4_all _ (by omega)
    · rw [part2, p4]; exact dig2_all _ (by omega)
    · rw [part3, p5]; exact dig2_all _ (by omega)
    · rw [part4, p6]; exact dig2_all _ (by omega)
  have e0 : numb (part (dtext n y m d) 0) = d := by rw [part0, p1, numb_2 _ (by omega)]; omega
  have e1' : numb (part (dtext n y m d) 1) = y := by rw [part1, p3, numb_4 _ (by omega)]; omega
  have e1 : cn (part (dtext n y m d) 1) = y := by
    rcases cn_is _ (hdg 1 (by decide)) (part_len _ hlen 1 (by decide)) with ⟨_, g⟩ | g <;> omega
  have e2 : numb (part (dtext n y m d) 2) = n % 86400 / 3600 := by rw [part2, p4, numb_2 _ (by omega)]; omega
  have e3 : numb (part (dtext n y m d) 3) = n % 3600 / 60 := by rw [part3, p5, numb_2 _ (by omega)]; omega
  have e4 : numb (part (dtext n y m d) 4) = n % 60 := by rw [part4, p6, numb_2 _ (by omega)]; omega
  have em : Lib.index mtext (sl (dtext n y m d) 8 11) = 4 * (m - 1) := by rw [p2, mtext_at _ (by omega)]; omega
  refine ⟨hdg, by rw [em]; omega, ?_, ?_⟩
  · rw [e0, e1, em, show 4 * (m - 1) / 4 + 1 = m by omega]; exact hv
  · unfold rN
    rw [e0, e1, e2, e3, e4, em, show 4 * (m - 1) / 4 + 1 = m by omega, hn]; omega
end Go.Proofs.YtkmbhgbmdeoppacDoor

/-
  Decimal digits of numbers, without noughts ahead; no program is named here.
-/
namespace Go.Proofs.YtkmbhgbmdeoppacDoor
open Go.RowKit

theorem dd_dig (u : Nat) (h : u < 10) : isDig (UInt8.ofNat (48 + u)) = true ∧ (UInt8.ofNat (48 + u)).toNat = 48 + u := by
  have e : (UInt8.ofNat (48 + u)).toNat = 48 + u := by
    rw [UInt8.toNat_ofNat']; omega
  exact ⟨by rw [dig_iff, e]; omega, e⟩
theorem dec_step (u : Nat) (h : ¬ u < 10) : Lib.decDigits u = Lib.decDigits (u / 10) ++ [UInt8.ofNat (48 + u % 10)] := by rw [Lib.decDigits, dif_neg h]
theorem dec_ne (u : Nat) : Lib.decDigits u ≠ [] := by
  rw [Lib.decDigits]; split <;> simp
theorem dec_all (u : Nat) : (Lib.decDigits u).all isDig = true := by
  induction u using Nat.strongRecOn with
  | ind u ih =>
    by_cases h : u < 10
    · rw [Lib.decDigits_one h, List.all_cons, (dd_dig u h).1]; rfl
    · rw [dec_step u h, List.all_append, ih (u / 10) (by omega), List.all_cons, (dd_dig (u % 10) (by omega)).1]; rfl
theorem numb_dec (u : Nat) : numb (Lib.decDigits u) = u := by
  induction u using Nat.strongRecOn with
  | ind u ih =>
    by_cases h : u < 10
    · rw [Lib.decDigits_one h]
      show 0 * 10 + ((UInt8.ofNat (48 + u)).toNat : Int) - 48 = u
      rw [(dd_dig u h).2]; omega
    · rw [dec_step u h, numb_snoc, ih (u / 10) (by omega), (dd_dig (u % 10) (by omega)).2]; omega
theorem dec_head (u : Nat) (h1 : 1 ≤ u) : (Lib.decDigits u).head? ≠ some 48 := by
  induction u using Nat.strongRecOn with
  | ind u ih =>
    by_cases h : u < 10
    · rw [Lib.decDigits_one h]
      intro e
      have e1 : UInt8.ofNat (48 + u) = 48 := by simpa using e
      have := (dd_dig u h).2
      rw [e1] at this
      have h48 : (48 : UInt8).toNat = 48 := rfl
      omega
    · rw [dec_step u h, List.head?_append]
      have := ih (u / 10) (by omega) (by omega)
      cases hc : Lib.decDigits (u / 10) with
      | nil => exact absurd hc (dec_ne _)
      | cons a b => rw [hc] at this; simpa using this
theorem cnt_dec (u : Nat) (h : u ≤ 9999) : cnt (Lib.decDigits u) 9999 = u := by
  have hl : (Lib.decDigits u).length ≤ 4 := by
    rw [Lib.decDigits_length]
    rw [Lib.nDigits]; split
    · omega
    · rw [Lib.nDigits]; split
      · omega
      · rw [Lib.nDigits]; split
        · omega
        · rw [Lib.nDigits]; split <;> omega
  unfold cnt
  rw [if_neg, if_neg (by rw [numb_dec]; omega), numb_dec]
  rintro (h1 | h1 | ⟨h1, h2⟩ | h1)
  · exact dec_ne u (List.eq_nil_of_length_eq_zero h1)
  · omega
  · by_cases h0 : 1 ≤ u
    · exact dec_head u h0 h2
    · obtain rfl : u = 0 := by omega
      rw [Lib.decDigits_one (by omega)] at h1; simp at h1
  · rw [dec_all] at h1; cases h1
theorem canon (p : List UInt8) : ∀ (_ : p ≠ []) (_ : p.all isDig = true) (_ : ¬ (1 < p.length ∧ p.head? = some 48)), p = Lib.decDigits (numb p).toNat ∧ 0 ≤ numb p := by
  induction hn : p.length using Nat.strongRecOn generalizing p with
  | ind n ih =>
    intro hne hall hh
    rcases List.eq_nil_or_concat p with h | ⟨q, c, h⟩
    · exact absurd h hne
    · rw [List.concat_eq_append] at h
      subst h
      rw [List.all_append] at hall
      simp only [Bool.and_eq_true, List.all_cons, List.all_nil, Bool.and_true] at hall
      obtain ⟨hq, hc⟩ := hall
      have hcb := (dig_iff c).1 hc
      have hcc : ∀ d : Nat, d = c.toNat - 48 → UInt8.ofNat (48 + d) = c := by
        intro d hd
        apply UInt8.toNat_inj.1
        rw [UInt8.toNat_ofNat', hd]
        have : c.toNat < 256 := c.toNat_lt
        omega
      by_cases hqe : q = []
      · subst hqe
        have e : numb ([] ++ [c]) = (c.toNat : Int) - 48 := by unfold numb; simp
        rw [e]
        refine ⟨?_, by omega⟩
        rw [Lib.decDigits_one (by omega), List.nil_append, hcc _ (by omega)]
      · have hl : 0 < q.length := List.length_pos_iff.2 hqe
        have hqh : q.head? ≠ some 48 := by
          intro e
          apply hh
          refine ⟨by rw [← hn, List.length_append, List.length_singleton]; omega, ?_⟩
          rw [List.head?_append, e]; rfl
        obtain ⟨h1, h2⟩ := ih q.length (by rw [← hn]; simp) q rfl hqe hq (fun h => hqh h.2)
        have h3 : 1 ≤ (numb q).toNat := by
          rcases Nat.lt_or_ge (numb q).toNat 1 with h | h
          · exfalso
            have h0 : (numb q).toNat = 0 := by omega
            rw [h0, Lib.decDigits_one (by omega)] at h1
            exact hqh (by rw [h1]; rfl)
          · exact h
        rw [numb_snoc]
        refine ⟨?_, by omega⟩
        have e1 : (numb q * 10 + (c.toNat : Int) - 48).toNat = (numb q).toNat * 10 + (c.toNat - 48) := by omega
        rw [e1, dec_step _ (by omega), show ((numb q).toNat * 10 + (c.toNat - 48)) / 10 = (numb q).toNat by omega, show ((numb q).toNat * 10 + (c.toNat - 48)) % 10 = c.toNat - 48 by omega, ← h1, hcc _ rfl]
theorem from_fold (p : List UInt8) : ∀ (_ : p.all isDig = true) (acc : Nat), ∃ m : Nat, Lib.decFrom acc p = some m ∧ (m : Int) = p.foldl (fun n c => n * 10 + (c.toNat : Int) - 48) (acc : Int) := by
  induction p with
  | nil => intro _ acc; exact ⟨acc, rfl, rfl⟩
  | cons c r ih =>
    intro h acc
    simp only [List.all_cons, Bool.and_eq_true] at h
    have hb := (dig_iff c).1 h.1
    obtain ⟨m, h1, h2⟩ := ih h.2 (acc * 10 + (c.toNat - 48))
    refine ⟨m, ?_, ?_⟩
    · rw [Lib.decFrom, show Lib.digitVal c = some (c.toNat - 48) from if_pos hb]; exact h1
    · rw [h2, List.foldl_cons]; congr 1; omega
theorem atoi_dig (p : List UInt8) (hne : p ≠ []) (h : p.all isDig = true) (hl : p.length ≤ 18) : Lib.atoiAll p = .ok (numb p) := by
  rw [Lib.atoiAll_short p hl]
  obtain ⟨m, h1, h2⟩ := from_fold p h 0
  have hd : Lib.decNat p = some m := by
    unfold Lib.decNat
    rw [if_neg (by simpa using hne)]; exact h1
  have e : Lib.atoi p = some (numb p) := by
    cases p with
    | nil => exact absurd rfl hne
    | cons c r =>
      have hb := (dig_iff c).1 (by simp only [List.all_cons, Bool.and_eq_true] at h; exact h.1)
      have n45 : (c == 45) = false := by
        rw [beq_eq_false_iff_ne]; intro e; subst e; have : (45 : UInt8).toNat = 45 := rfl; omega
      have n43 : (c == 43) = false := by
        rw [beq_eq_false_iff_ne]; intro e; subst e; have : (43 : UInt8).toNat = 43 := rfl; omega
      show (if (c == 45) = true then (Lib.decNat r).map fun (m : Nat) => -(m : Int) else if (c == 43) = true then (Lib.decNat r).map fun (m : Nat) => (m : Int) else (Lib.decNat (c :: r)).map fun (m : Nat) => (m : Int)) = _
      rw [n45, n43, hd]
      simp only [Bool.false_eq_true, if_false, Option.map_some, Option.some.injEq]
      unfold numb; exact h2
  rw [e]; rfl
end Go.Proofs.YtkmbhgbmdeoppacDoor

/-
  Plain functions on lists of bytes: what may stand between two quotes, and what is read of it; no program is named here.
-/
namespace Go.Proofs.YtkmbhgbmdeoppacDoor
open Go.RowKit

def plainB (c : UInt8) : Bool := (32 ≤ c && c ≤ 126) || c == 9

def ustep : Option (List UInt8 × Bool) → UInt8 → Option (List UInt8 × Bool)
  | none, _ => none
  | some (acc, true), c => if plainB c = true then some (acc ++ [c], false) else none
  | some (acc, false), c => if plainB c = true then (if c = 34 then none else if c = 92 then some (acc, true) else some (acc ++ [c], false)) else none

def unesc (l : List UInt8) : Option (List UInt8 × Bool) := l.foldl ustep (some ([], false))
def unescT (l : List UInt8) : List UInt8 := match unesc l with | some (acc, _) => acc | none => []
def unescOk (l : List UInt8) : Bool := match unesc l with | some (_, c) => !c | none => false

theorem unesc_snoc (l : List UInt8) (c : UInt8) : unesc (l ++ [c]) = ustep (unesc l) c := by simp [unesc]

theorem ustep_none (l : List UInt8) : l.foldl ustep none = none := by
  induction l with
  | nil => rfl
  | cons a l ih => rw [List.foldl_cons]; exact ih

theorem split_at (s : ByteArray) (k : Nat) (h : k < s.size) : s.data.toList = s.data.toList.take k ++ s[k] :: s.data.toList.drop (k + 1) := by
  have h' : k < s.data.toList.length := by rw [size_list]; exact h
  have e : s.data.toList.drop k = s[k] :: s.data.toList.drop (k + 1) := by
    rw [List.drop_eq_getElem_cons h']; rfl
  rw [← e, List.take_append_drop]

theorem unesc_dead (s : ByteArray) (k : Nat) (h : k < s.size) (x : Option (List UInt8 × Bool)) (hx : unesc (s.data.toList.take k) = x) (hd : ustep x s[k] = none) : unesc s.data.toList = none := by
  rw [split_at s k h]
  unfold unesc at hx ⊢
  rw [List.foldl_append, hx, List.foldl_cons, hd, ustep_none]

theorem ustep_bad (x : Option (List UInt8 × Bool)) (c : UInt8) (h : plainB c = false) : ustep x c = none := by
  rcases x with _ | ⟨acc, b⟩
  · rfl
  · cases b <;> simp [ustep, h]
theorem ustep_took (acc : List UInt8) (c : UInt8) (h : plainB c = true) : ustep (some (acc, true)) c = some (acc ++ [c], false) := by simp [ustep, h]
theorem ustep_quote (acc : List UInt8) (c : UInt8) (hc : c = 34) : ustep (some (acc, false)) c = none := by
  subst hc; rfl
theorem ustep_back (acc : List UInt8) (c : UInt8) (hc : c = 92) : ustep (some (acc, false)) c = some (acc, true) := by
  subst hc; rfl
theorem ustep_else (acc : List UInt8) (c : UInt8) (h : plainB c = true) (h1 : c ≠ 34) (h2 : c ≠ 92) : ustep (some (acc, false)) c = some (acc ++ [c], false) := by simp [ustep, h, h1, h2]

theorem unesc_len (l : List UInt8) : ∀ acc b, unesc l = some (acc, b) → acc.length ≤ l.length := by
  have gen : ∀ (l : List UInt8) (a0 : List UInt8) (b0 : Bool) acc b, l.foldl ustep (some (a0, b0)) = some (acc, b) → acc.length ≤ a0.length + l.length := by
    intro l
    induction l with
    | nil => intro a0 b0 acc b h; simp at h; obtain ⟨rfl, _⟩ := h; simp
    | cons c l ih =>
      intro a0 b0 acc b h
      rw [List.foldl_cons] at h
      cases hu : ustep (some (a0, b0)) c with
      | none => rw [hu, ustep_none] at h; cases h
      | some y =>
        obtain ⟨a1, b1⟩ := y
        rw [hu] at h
        have h1 := ih a1 b1 acc b h
        have h2 : a1.length ≤ a0.length + 1 := by
          cases b0 <;> simp only [ustep] at hu <;> (repeat' split at hu) <;> simp at hu <;> obtain ⟨rfl, _⟩ := hu <;> simp
        simp only [List.length_cons]
        omega
  intro acc b h
  have := gen l [] false acc b h
  simpa using this

theorem ne_of_int (c d : UInt8) (h : (c.toNat : Int) ≠ (d.toNat : Int)) : c ≠ d := fun e => h (by rw [e])
theorem eq_of_int (c d : UInt8) (h : (c.toNat : Int) = (d.toNat : Int)) : c = d := UInt8.toNat.inj (by omega)

theorem plainB_iff (c : UInt8) : plainB c = decide ((32 ≤ (c.toNat : Int) ∧ (c.toNat : Int) ≤ 126) ∨ (c.toNat : Int) = 9) := by
  have h9 : (c == 9) = decide ((c.toNat : Int) = 9) := by
    rw [Bool.eq_iff_iff]; simp
    constructor
    · rintro rfl; rfl
    · intro h; exact eq_of_int c 9 (by simpa using h)
  unfold plainB
  rw [h9, Bool.eq_iff_iff]
  simp [UInt8.le_iff_toNat_le]
  omega
def allPlain (l : List UInt8) : Bool := l.all plainB

theorem allPlain_dead (s : ByteArray) (k : Nat) (h : k < s.size) (hp : plainB s[k] = false) : allPlain s.data.toList = false := all_false s plainB k h hp
theorem allPlain_snoc (l : List UInt8) (c : UInt8) (h : allPlain l = true) (hc : plainB c = true) : allPlain (l ++ [c]) = true := by
  unfold allPlain at *; rw [List.all_append, h]; simp [hc]

def esc1 (c : UInt8) : List UInt8 := if c = 34 ∨ c = 92 then [92, c] else [c]
def esc (l : List UInt8) : List UInt8 := l.flatMap esc1
def qt (l : List UInt8) : List UInt8 × Int := if 1000 < l.length then ([], 2) else if allPlain l = true then (34 :: (esc l ++ [34]), 0) else ([], 3)

theorem esc_snoc (l : List UInt8) (c : UInt8) : esc (l ++ [c]) = esc l ++ esc1 c := by simp [esc]
theorem esc_len (l : List UInt8) : l.length ≤ (esc l).length ∧ (esc l).length ≤ 2 * l.length := by
  induction l with
  | nil => simp [esc]
  | cons c l ih =>
    have e : esc (c :: l) = esc1 c ++ esc l := by simp [esc]
    have h : 1 ≤ (esc1 c).length ∧ (esc1 c).length ≤ 2 := by unfold esc1; split <;> simp
    rw [e, List.length_append, List.length_cons]
    omega
end Go.Proofs.YtkmbhgbmdeoppacDoor

/-
  Plain functions on lists of bytes: how a text is cut at a sign that is not within quotes; no program is named here.
-/
namespace Go.Proofs.YtkmbhgbmdeoppacDoor
open Go.RowKit

def strs (ps : List (List UInt8)) : List Value := ps.map fun p => Value.string ⟨p.toArray⟩
theorem strs_snoc (ps : List (List UInt8)) (p : List UInt8) : strs ps ++ [Value.string ⟨p.toArray⟩] = strs (ps ++ [p]) := by simp [strs]
theorem strs_length (ps : List (List UInt8)) : (strs ps).length = ps.length := by simp [strs]
theorem strs_get (ps : List (List UInt8)) (k : Nat) (h : k < ps.length) : (strs ps)[k]? = some (.string ⟨ps[k].toArray⟩) := by
  simp [strs, h]

/-- What has been cut, what is being read, whether it is within quotes, whether a stroke counts. -/
structure Cut where
  ps : List (List UInt8)
  cur : List UInt8
  q : Bool
  cn : Bool

def cstep (sep : UInt8) (x : Cut) (c : UInt8) : Cut :=
  if c = sep ∧ x.q = false then ⟨x.ps ++ [x.cur], [], x.q, x.cn⟩
  else ⟨x.ps, x.cur ++ [c], if x.cn = true then x.q else if c = 34 then !x.q else x.q, if x.cn = true then false else if c = 34 then false else if c = 92 then x.q else false⟩
def cutS (sep : UInt8) (l : List UInt8) : Cut := l.foldl (cstep sep) ⟨[], [], false, false⟩
def pieces (sep : UInt8) (l : List UInt8) : List (List UInt8) := (cutS sep l).ps ++ [(cutS sep l).cur]
def ends (sep : UInt8) (l : List UInt8) : Bool := !(cutS sep l).q

theorem cutS_snoc (sep : UInt8) (l : List UInt8) (c : UInt8) : cutS sep (l ++ [c]) = cstep sep (cutS sep l) c := by simp [cutS]

theorem cutS_len (sep : UInt8) (l : List UInt8) : (cutS sep l).ps.length ≤ l.length := by
  have gen : ∀ (l : List UInt8) (x : Cut), (l.foldl (cstep sep) x).ps.length ≤ x.ps.length + l.length := by
    intro l
    induction l with
    | nil => intro x; simp
    | cons c l ih =>
      intro x
      rw [List.foldl_cons]
      have h := ih (cstep sep x c)
      have h2 : (cstep sep x c).ps.length ≤ x.ps.length + 1 := by unfold cstep; split <;> simp
      rw [List.length_cons]
      omega
  have := gen l ⟨[], [], false, false⟩
  simpa [cutS] using this

theorem cstep_back (sep : UInt8) (ps : List (List UInt8)) (cur : List UInt8) (c : UInt8) (hc : c = 92) : cstep sep ⟨ps, cur, true, false⟩ c = ⟨ps, cur ++ [c], true, true⟩ := by
  subst hc; simp [cstep]
theorem cstep_took (sep : UInt8) (ps : List (List UInt8)) (cur : List UInt8) (c : UInt8) : cstep sep ⟨ps, cur, true, true⟩ c = ⟨ps, cur ++ [c], true, false⟩ := by
  simp [cstep]
theorem cstep_quote (sep : UInt8) (hs : sep ≠ 34) (ps : List (List UInt8)) (cur : List UInt8) (q : Bool) (c : UInt8) (hc : c = 34) : cstep sep ⟨ps, cur, q, false⟩ c = ⟨ps, cur ++ [c], !q, false⟩ := by
  subst hc
  have : ¬ ((34 : UInt8) = sep ∧ q = false) := fun h => hs h.1.symm
  simp [cstep, this]
theorem cstep_sep (sep : UInt8) (ps : List (List UInt8)) (cur : List UInt8) (c : UInt8) (hc : c = sep) : cstep sep ⟨ps, cur, false, false⟩ c = ⟨ps ++ [cur], [], false, false⟩ := by
  simp [cstep, hc]
theorem cstep_else (sep : UInt8) (ps : List (List UInt8)) (cur : List UInt8) (q : Bool) (c : UInt8) (h1 : ¬ (c = sep ∧ q = false)) (h2 : c ≠ 34) (h3 : ¬ (c = 92 ∧ q = true)) : cstep sep ⟨ps, cur, q, false⟩ c = ⟨ps, cur ++ [c], q, false⟩ := by
  unfold cstep
  rw [if_neg h1]
  cases q
  · simp [h2]
  · have : c ≠ 92 := fun e => h3 ⟨e, rfl⟩
    simp [h2, this]

theorem pieces_len (sep : UInt8) (l : List UInt8) : ∀ p ∈ pieces sep l, p.length ≤ l.length := by
  have gen : ∀ (l : List UInt8) (x : Cut) (N : Nat), (∀ p ∈ x.ps, p.length ≤ N) → x.cur.length ≤ N → (∀ p ∈ (l.foldl (cstep sep) x).ps, p.length ≤ N + l.length) ∧ (l.foldl (cstep sep) x).cur.length ≤ N + l.length := by
    intro l
    induction l with
    | nil => intro x N h1 h2; exact ⟨h1, h2⟩
    | cons c l ih =>
      intro x N h1 h2
      rw [List.foldl_cons, List.length_cons]
      have h3 : (∀ p ∈ (cstep sep x c).ps, p.length ≤ N + 1) ∧ (cstep sep x c).cur.length ≤ N + 1 := by
        unfold cstep
        split
        · refine ⟨fun p hp => ?_, by simp⟩
          simp only [List.mem_append, List.mem_singleton] at hp
          rcases hp with hp | rfl
          · have := h1 p hp; omega
          · omega
        · refine ⟨fun p hp => ?_, by simp; omega⟩
          have := h1 p hp; omega
      have := ih _ (N + 1) h3.1 h3.2
      rw [show N + (l.length + 1) = N + 1 + l.length from by omega]
      exact this
  have h := gen l ⟨[], [], false, false⟩ 0 (fun p hp => by cases hp) (Nat.le_refl _)
  intro p hp
  unfold pieces at hp
  simp only [List.mem_append, List.mem_singleton] at hp
  rw [Nat.zero_add] at h
  rcases hp with hp | rfl
  · exact h.1 p hp
  · exact h.2

theorem seg_snoc (s : ByteArray) (a k : Nat) (ha : a ≤ k) (h : k < s.size) : (s.data.toList.drop a).take (k + 1 - a) = (s.data.toList.drop a).take (k - a) ++ [s[k]] := by
  have h' : k - a < (s.data.toList.drop a).length := by rw [List.length_drop, size_list]; omega
  rw [show k + 1 - a = (k - a) + 1 from by omega, List.take_succ_eq_append_getElem h']
  congr 2
  rw [List.getElem_drop]
  have : a + (k - a) = k := by omega
  simp only [this]
  rfl
theorem extract_seg (s : ByteArray) (a k : Nat) : s.extract a k = ⟨((s.data.toList.drop a).take (k - a)).toArray⟩ := by
  apply ByteArray.ext
  apply Array.ext'
  rw [Lib.extract_data]
end Go.Proofs.YtkmbhgbmdeoppacDoor

/-
  Plain lemmas on a text without the blanks at its ends; no program is named here.
-/
namespace Go.Proofs.YtkmbhgbmdeoppacDoor
open Go.RowKit

def trimL (l : List UInt8) : List UInt8 := Lib.trimS l [32, 9]
def blank (b : UInt8) : Bool := [32, 9].contains b

theorem trimL_eq (l : List UInt8) : trimL l = ((l.reverse.dropWhile blank).reverse).dropWhile blank := rfl

theorem trimL_last (l : List UInt8) (b : UInt8) (h : blank b = true) : trimL (l ++ [b]) = trimL l := by
  rw [trimL_eq, trimL_eq, List.reverse_append, List.reverse_singleton, List.singleton_append, List.dropWhile_cons, if_pos h]

theorem trimL_first (l : List UInt8) (b : UInt8) (h : blank b = true) : trimL (b :: l) = trimL l := by
  rw [trimL_eq, trimL_eq, List.reverse_cons, List.dropWhile_append]
  split
  · rename_i he
    have e : l.reverse.dropWhile blank = [] := by simpa using he
    rw [e]
    simp [h]
  · rw [List.reverse_append, List.reverse_singleton, List.singleton_append, List.dropWhile_cons, if_pos h]

theorem trimL_stays (l : List UInt8) (h1 : ∀ b, l.head? = some b → blank b = false) (h2 : ∀ b, l.getLast? = some b → blank b = false) : trimL l = l := by
  have hd : ∀ m : List UInt8, (∀ b, m.head? = some b → blank b = false) → m.dropWhile blank = m := by
    intro m hm
    cases m with
    | nil => rfl
    | cons a m => rw [List.dropWhile_cons, hm a rfl]; rfl
  rw [trimL_eq, hd l.reverse (fun b hb => h2 b (by rw [← List.head?_reverse]; exact hb)), List.reverse_reverse, hd l h1]

theorem trimL_len (l : List UInt8) : (trimL l).length ≤ l.length := by
  rw [trimL_eq]
  have h1 := (List.dropWhile_sublist blank (l := (l.reverse.dropWhile blank).reverse)).length_le
  have h2 := (List.dropWhile_sublist blank (l := l.reverse)).length_le
  simp only [List.length_reverse] at h1 h2
  omega

theorem dropWhile_head (l : List UInt8) : ∀ b, (l.dropWhile blank).head? = some b → blank b = false := by
  intro b hb
  induction l with
  | nil => simp at hb
  | cons a l ih =>
    rw [List.dropWhile_cons] at hb
    split at hb
    · exact ih hb
    · rename_i ha
      simp only [List.head?_cons, Option.some.injEq] at hb
      subst hb
      simpa using ha

theorem trimL_head (l : List UInt8) : ∀ b, (trimL l).head? = some b → blank b = false := by
  rw [trimL_eq]; exact dropWhile_head _
theorem trimL_tail (l : List UInt8) : ∀ b, (trimL l).getLast? = some b → blank b = false := by
  intro b hb
  rw [trimL_eq] at hb
  have hne : ((l.reverse.dropWhile blank).reverse).dropWhile blank ≠ [] := by
    intro e; rw [e] at hb; simp at hb
  have hsuf : ((l.reverse.dropWhile blank).reverse).dropWhile blank <:+ (l.reverse.dropWhile blank).reverse := List.dropWhile_suffix blank
  obtain ⟨t, ht⟩ := hsuf
  have e1 : ((l.reverse.dropWhile blank).reverse).getLast? = some b := by
    rw [← ht, List.getLast?_append, hb]; rfl
  rw [List.getLast?_reverse] at e1
  exact dropWhile_head _ b e1
theorem trimL_twice (l : List UInt8) : trimL (trimL l) = trimL l := trimL_stays _ (trimL_head l) (trimL_tail l)

theorem pre_yes (l : List UInt8) (b : UInt8) (h : Lib.hasPrefix l [b] = true) : l = b :: l.drop 1 := by
  unfold Lib.hasPrefix at h
  cases l with
  | nil => simp at h
  | cons a l => simp at h; simp [h]
theorem pre_no (l : List UInt8) (b : UInt8) (h : Lib.hasPrefix l [b] = false) : l.head? ≠ some b := by
  unfold Lib.hasPrefix at h
  intro e
  cases l with
  | nil => simp at e
  | cons a l => simp at e; subst e; simp at h
theorem suf_yes (l : List UInt8) (b : UInt8) (h : Lib.hasSuffix l [b] = true) : l = l.take (l.length - 1) ++ [b] := by
  unfold Lib.hasSuffix at h
  obtain ⟨t, ht⟩ := List.isSuffixOf_iff_suffix.1 h
  subst ht
  simp
theorem suf_no (l : List UInt8) (b : UInt8) (h : Lib.hasSuffix l [b] = false) : l.getLast? ≠ some b := by
  unfold Lib.hasSuffix at h
  intro e
  have : [b] <:+ l := by
    obtain ⟨ys, hy⟩ := List.getLast?_eq_some_iff.1 e
    exact ⟨ys, hy.symm⟩
  rw [List.isSuffixOf_iff_suffix.2 this] at h
  cases h
theorem trimL_none (l : List UInt8) (h1 : Lib.hasPrefix l [32] = false) (h2 : Lib.hasSuffix l [32] = false) (h3 : Lib.hasPrefix l [9] = false) (h4 : Lib.hasSuffix l [9] = false) : trimL l = l := by
  apply trimL_stays
  · intro b hb
    cases hbl : blank b
    · rfl
    · exfalso
      unfold blank at hbl
      simp at hbl
      rcases hbl with rfl | rfl
      · exact pre_no _ _ h1 hb
      · exact pre_no _ _ h3 hb
  · intro b hb
    cases hbl : blank b
    · rfl
    · exfalso
      unfold blank at hbl
      simp at hbl
      rcases hbl with rfl | rfl
      · exact suf_no _ _ h2 hb
      · exact suf_no _ _ h4 hb
theorem trimL_pre (l : List UInt8) (b : UInt8) (hb : blank b = true) (h : Lib.hasPrefix l [b] = true) : trimL (l.drop 1) = trimL l ∧ 1 ≤ l.length := by
  have e := pre_yes l b h
  generalize l.drop 1 = m at e
  subst e
  exact ⟨(trimL_first _ b hb).symm, by simp⟩
theorem trimL_suf (l : List UInt8) (b : UInt8) (hb : blank b = true) (h : Lib.hasSuffix l [b] = true) : trimL (l.take (l.length - 1)) = trimL l ∧ 1 ≤ l.length := by
  have e := suf_yes l b h
  generalize l.take (l.length - 1) = m at e
  subst e
  exact ⟨(trimL_last _ b hb).symm, by simp⟩
end Go.Proofs.YtkmbhgbmdeoppacDoor

/-
  Plain functions on fields (a name and a value, each a list of bytes), and what is known of a list of fields in memory; no program is named here.
-/
namespace Go.Proofs.YtkmbhgbmdeoppacDoor
open Go.RowKit

abbrev Fld := List UInt8 × List UInt8
def flds (ps : List Fld) : List Value := ps.flatMap fun x => [Value.string ⟨x.1.toArray⟩, Value.string ⟨x.2.toArray⟩]
theorem flds_snoc (ps : List Fld) (x : Fld) : flds ps ++ [Value.string ⟨x.1.toArray⟩, Value.string ⟨x.2.toArray⟩] = flds (ps ++ [x]) := by simp [flds]
theorem flds_app (ps qs : List Fld) : flds (ps ++ qs) = flds ps ++ flds qs := by simp [flds]
theorem flds_length (ps : List Fld) : (flds ps).length = ps.length * 2 := by
  induction ps with
  | nil => rfl
  | cons x ps ih =>
    have e : flds (x :: ps) = [Value.string ⟨x.1.toArray⟩, Value.string ⟨x.2.toArray⟩] ++ flds ps := by simp [flds]
    rw [e, List.length_append, ih, List.length_cons]; simp; omega
theorem flds_get (ps : List Fld) : ∀ (k : Nat) (h : k < ps.length), (flds ps)[k * 2]? = some (.string ⟨(ps[k]).1.toArray⟩) ∧ (flds ps)[k * 2 + 1]? = some (.string ⟨(ps[k]).2.toArray⟩) := by
  induction ps with
  | nil => intro k h; simp at h
  | cons x ps ih =>
    intro k h
    have e : flds (x :: ps) = Value.string ⟨x.1.toArray⟩ :: Value.string ⟨x.2.toArray⟩ :: flds ps := by simp [flds]
    rw [e]
    cases k with
    | zero => exact ⟨rfl, rfl⟩
    | succ k =>
      have := ih k (by simpa using h)
      rw [show (k + 1) * 2 = k * 2 + 1 + 1 from by omega, show k * 2 + 1 + 1 + 1 = (k * 2 + 1) + 1 + 1 from by omega, List.getElem?_cons_succ, List.getElem?_cons_succ, List.getElem?_cons_succ, List.getElem?_cons_succ]
      exact this

/-- A slice of fields that can be read. -/
def Fl (w : World) (v : Value) (ls : List Fld) : Prop :=
  ∃ ad cap, v = .slice ad ls.length cap ∧ ls.length ≤ cap ∧ cap ≤ maxLen ∧ (0 < ls.length → ∃ g off, ad = some ⟨g, off, none⟩ ∧ g < w.heap.size ∧
    ∀ (k : Nat) (h : k < ls.length), w.cell? ⟨g, off + k * 2, none⟩ = some (.string ⟨(ls[k]).1.toArray⟩) ∧ w.cell? ⟨g, off + k * 2 + 1, none⟩ = some (.string ⟨(ls[k]).2.toArray⟩))
/-- No name and no value is longer than so many bytes. -/
def Most (m : Nat) (ls : List Fld) : Prop := ∀ x ∈ ls, x.1.length ≤ m ∧ x.2.length ≤ m

/-- How many values and letters a list of fields holds. -/
def bulkF (ls : List Fld) : Nat := (ls.map fun y => y.1.length + y.2.length + 3).sum

theorem Fl.below {w w' : World} {v : Value} {ls : List Fld} (h : Fl w v ls) (hb : Below w.heap.size w w') : Fl w' v ls := by
  obtain ⟨ad, cap, hv, h1, h2, h3⟩ := h
  refine ⟨ad, cap, hv, h1, h2, fun h0 => ?_⟩
  obtain ⟨g, off, ha, hg, hc⟩ := h3 h0
  refine ⟨g, off, ha, Nat.lt_of_lt_of_le hg hb.size, fun k hk => ?_⟩
  obtain ⟨c1, c2⟩ := hc k hk
  exact ⟨(hb.cell (p := ⟨g, off + k * 2, none⟩) hg).trans c1, (hb.cell (p := ⟨g, off + k * 2 + 1, none⟩) hg).trans c2⟩
theorem Fl.nil (w : World) : Fl w (.slice none 0 0) [] := ⟨none, 0, rfl, Nat.le_refl _, by unfold maxLen; omega, fun h => absurd h (by simp)⟩

theorem own_below3 {w w1 : World} {B : Nat} {e : TypeId} {size : Nat} {v : Value} {n : Nat} {xs : List Value} (h : w.ownsRow B e size v n xs) (hb : Below w.heap.size w w1) : w1.ownsRow B e size v n xs := by
  refine ⟨h.1, ?_⟩
  rcases h.2 with h0 | ⟨g, cap, cur, hv, hB, hg, h3⟩
  · exact .inl h0
  · exact .inr ⟨g, cap, cur, hv, hB, (hb.block g (Array.getElem?_eq_some_iff.1 hg).1).trans hg, h3⟩
theorem own_form2 {w : World} {B : Nat} {e : TypeId} {size : Nat} {v : Value} {n : Nat} {xs : List Value} (h : w.ownsRow B e size v n xs) : ∃ ad cap, v = .slice ad n cap ∧ cap ≤ maxLen ∧ n ≤ cap ∧ (0 < n → ∃ g, ad = some ⟨g, 0, none⟩ ∧ B ≤ g ∧ g < w.heap.size ∧ ∀ j, j < n * size → w.cell? ⟨g, j, none⟩ = xs[j]?) := by
  rcases h.2 with ⟨rfl, rfl⟩ | ⟨g, cap, cur, hv, hb, hg, hnc, hcm, _, _⟩
  · exact ⟨none, 0, rfl, by unfold maxLen; omega, Nat.le_refl _, fun h => absurd h (by omega)⟩
  · refine ⟨some ⟨g, 0, none⟩, cap, hv, hcm, hnc, fun _ => ⟨g, rfl, hb, (Array.getElem?_eq_some_iff.1 hg).1, fun j hj => ?_⟩⟩
    subst hv
    exact h.cellAt j hj
theorem own_le {w : World} {B B' : Nat} {e : TypeId} {size : Nat} {v : Value} {n : Nat} {xs : List Value} (h : w.ownsRow B e size v n xs) (hb : B' ≤ B) : w.ownsRow B' e size v n xs := by
  refine ⟨h.1, ?_⟩
  rcases h.2 with h0 | ⟨g, cap, cur, hv, hB, h3⟩
  · exact .inl h0
  · exact .inr ⟨g, cap, cur, hv, Nat.le_trans hb hB, h3⟩
/-- A row of fields that the call made itself can be read. -/
theorem Fl.own {w : World} {B : Nat} {e : TypeId} {v : Value} {ls : List Fld} (h : w.ownsRow B e 2 v ls.length (flds ls)) : Fl w v ls := by
  obtain ⟨ad, cap, hv, hcm, hnc, hc⟩ := own_form2 h
  refine ⟨ad, cap, hv, hnc, hcm, fun h0 => ?_⟩
  obtain ⟨g, ha, _, hg, hce⟩ := hc h0
  refine ⟨g, 0, ha, hg, fun k hk => ?_⟩
  obtain ⟨p1, p2⟩ := flds_get ls k hk
  rw [Nat.zero_add, hce _ (by omega), hce _ (by omega)]
  exact ⟨p1, p2⟩

theorem drewN_below (B : Nat) (w : World) (n : Nat) : Below B w (w.drewN n) := by
  induction n with
  | zero => exact Below.refl _ _
  | succ n ih => exact ih.drew
theorem drewN_cell (w : World) (n : Nat) (a : Addr) : (w.drewN n).cell? a = w.cell? a := by
  induction n with
  | zero => rfl
  | succ n ih => exact ih
theorem drewN_frozen (w : World) (n : Nat) (a : Addr) : (w.drewN n).frozen? a = w.frozen? a := by
  induction n with
  | zero => rfl
  | succ n ih => exact ih
theorem drewN_size (w : World) (n : Nat) : (w.drewN n).heap.size = w.heap.size := by
  induction n with
  | zero => rfl
  | succ n ih => exact ih
theorem new_free (w : World) (cs : Array Value) (t : TypeId) (j : Nat) : (w.alloc (.cells cs t)).frozen? ⟨w.heap.size, j, none⟩ = false :=
  Lib.frozen_of_heap (heap_alloc_new w (.cells cs t)) j
theorem cell_in {w : World} {a : Addr} {v : Value} (h : w.cell? a = some v) : a.block < w.heap.size := by
  rcases Nat.lt_or_ge a.block w.heap.size with h1 | h1
  · exact h1
  · exfalso
    unfold World.cell? at h
    rw [Array.getElem?_eq_none h1] at h
    simp at h
theorem cell_keep {w w' : World} {a : Addr} {v : Value} (h : Below w.heap.size w w') (hc : w.cell? a = some v) : w'.cell? a = some v := (h.cell (cell_in hc)).trans hc

def chk1 (x : Fld) : Int := if token x.1 = false then 3 else if 30 < x.1.length ∨ 1000 < x.2.length then 2 else if allPlain x.2 = true ∧ trimL x.2 = x.2 then 0 else 3
def chkL : List Fld → Int
  | [] => 0
  | x :: r => if chk1 x = 0 then chkL r else chk1 x
def chk (ls : List Fld) : Int := if 30 < ls.length then 2 else chkL ls
theorem chk1_tok (x : Fld) (h : token x.1 = false) : chk1 x = 3 := by unfold chk1; rw [if_pos h]
theorem chk1_large (x : Fld) (h : token x.1 = true) (hl : 30 < x.1.length ∨ 1000 < x.2.length) : chk1 x = 2 := by unfold chk1; rw [if_neg (by rw [h]; simp), if_pos hl]
theorem chk1_bad (x : Fld) (h : token x.1 = true) (hl : ¬ (30 < x.1.length ∨ 1000 < x.2.length)) (hp : ¬ (allPlain x.2 = true ∧ trimL x.2 = x.2)) : chk1 x = 3 := by unfold chk1; rw [if_neg (by rw [h]; simp), if_neg hl, if_neg hp]
theorem chk1_ok (x : Fld) (h : token x.1 = true) (hl : ¬ (30 < x.1.length ∨ 1000 < x.2.length)) (hp : allPlain x.2 = true ∧ trimL x.2 = x.2) : chk1 x = 0 := by unfold chk1; rw [if_neg (by rw [h]; simp), if_neg hl, if_pos hp]
theorem chk1_is (x : Fld) (h : chk1 x = 0) : token x.1 = true ∧ x.1.length ≤ 30 ∧ x.2.length ≤ 1000 ∧ allPlain x.2 = true ∧ trimL x.2 = x.2 := by
  unfold chk1 at h
  split at h
  · cases h
  · rename_i ht
    split at h
    · cases h
    · rename_i hl
      split at h
      · rename_i hp
        exact ⟨by simpa using ht, by omega, by omega, hp.1, hp.2⟩
      · cases h
theorem chk1_some (x : Fld) : chk1 x = 0 ∨ chk1 x = 2 ∨ chk1 x = 3 := by
  unfold chk1
  split
  · exact .inr (.inr rfl)
  · split
    · exact .inr (.inl rfl)
    · split
      · exact .inl rfl
      · exact .inr (.inr rfl)
theorem chkL_app (a b : List Fld) (h : chkL a = 0) : chkL (a ++ b) = chkL b := by
  induction a with
  | nil => rfl
  | cons x a ih =>
    unfold chkL at h
    split at h
    · rename_i hx
      rw [List.cons_append]
      show (if chk1 x = 0 then chkL (a ++ b) else chk1 x) = _
      rw [if_pos hx]; exact ih h
    · rename_i hx; exact absurd h hx
theorem chkL_one (x : Fld) : chkL [x] = chk1 x := by
  show (if chk1 x = 0 then chkL [] else chk1 x) = chk1 x
  split
  · rename_i h; rw [h]; rfl
  · rfl
theorem chkL_take (ls : List Fld) (k : Nat) (h : k < ls.length) (h0 : chkL (ls.take k) = 0) (h1 : chk1 ls[k] = 0) : chkL (ls.take (k + 1)) = 0 := by
  rw [List.take_succ_eq_append_getElem h, chkL_app _ _ h0, chkL_one, h1]
theorem chkL_dead (ls : List Fld) (k : Nat) (h : k < ls.length) (h0 : chkL (ls.take k) = 0) (h1 : chk1 ls[k] ≠ 0) : chkL ls = chk1 ls[k] := by
  have e : ls = ls.take k ++ ls[k] :: ls.drop (k + 1) := by rw [← List.drop_eq_getElem_cons h, List.take_append_drop]
  have e2 : chkL (ls.take k ++ ls[k] :: ls.drop (k + 1)) = chk1 ls[k] := by
    rw [chkL_app _ _ h0]
    show (if chk1 ls[k] = 0 then chkL (ls.drop (k + 1)) else chk1 ls[k]) = _
    rw [if_neg h1]
  rw [← e] at e2
  exact e2
theorem chkL_all (ls : List Fld) (h : chkL ls = 0) : ∀ x ∈ ls, chk1 x = 0 := by
  induction ls with
  | nil => intro x hx; cases hx
  | cons a ls ih =>
    unfold chkL at h
    split at h
    · rename_i ha
      intro x hx
      rcases List.mem_cons.1 hx with rfl | hx
      · exact ha
      · exact ih h x hx
    · rename_i ha; exact absurd h ha
theorem chkL_of_all (ls : List Fld) (h : ∀ x ∈ ls, chk1 x = 0) : chkL ls = 0 := by
  induction ls with
  | nil => rfl
  | cons a ls ih =>
    show (if chk1 a = 0 then chkL ls else chk1 a) = 0
    rw [if_pos (h a (List.mem_cons_self ..))]
    exact ih fun x hx => h x (List.mem_cons_of_mem _ hx)
theorem chk_many (ls : List Fld) (h : 30 < ls.length) : chk ls = 2 := by unfold chk; rw [if_pos h]
theorem chk_few (ls : List Fld) (h : ¬ 30 < ls.length) : chk ls = chkL ls := by unfold chk; rw [if_neg h]
theorem chk_zero (ls : List Fld) (h : chk ls = 0) : ls.length ≤ 30 ∧ chkL ls = 0 := by
  unfold chk at h
  split at h
  · cases h
  · exact ⟨by omega, h⟩
end Go.Proofs.YtkmbhgbmdeoppacDoor

/-
  The powers of ten of package strconv, as its text lays them, and what strconv.Itoa answers then.
-/
namespace Go.Proofs.YtkmbhgbmdeoppacDoor
open Go.RowKit Go.Lib

def PowT (w : World) : Prop := TabIs Tryd.prog w "internal/strconv.uint64pow10" .u64 pow10Tab
theorem pkeep {P : Program} {n : String} {cs : Array Value} {w w' : World} (h : w.var? P n = some cs) (hb : Below w.heap.size w w') : w'.var? P n = some cs := by
  unfold World.var? at h ⊢
  cases hg : P.globalNamed n with
  | none => rw [hg] at h; cases h
  | some g =>
    rw [hg, Option.bind_some] at h
    rw [Option.bind_some]
    by_cases hlt : g < w.heap.size
    · rw [hb.block g hlt]; exact h
    · rw [Array.getElem?_eq_none (by omega)] at h; cases h
theorem PowT.below {w w' : World} (h : PowT w) (hb : Below w.heap.size w w') : PowT w' := pkeep h hb
theorem powt_of {l : List (String × DataW Unit)} (w : World) (h : laidMet Tryd.prog l w) (h1 : ("internal/strconv.uint64pow10", Rows.laid_internal_strconv_uint64pow10) ∈ l) : PowT w := by
  have r : VarReads Tryd.prog w "internal/strconv.uint64pow10" Rows.laid_internal_strconv_uint64pow10 := laidMet.reads h h1
  rw [show (Rows.laid_internal_strconv_uint64pow10 : DataW Unit) = tabData .u64 pow10Tab from by kernel_rfl] at r
  obtain ⟨g', t', cs, fuel, p, hg', ht', hv, hd⟩ := r
  obtain rfl := Option.some.inj ((show Tryd.prog.globalNamed "internal/strconv.uint64pow10" = some 1 by kernel_rfl).symm.trans hg')
  obtain rfl := Option.some.inj ((show (Tryd.prog.globals[1]?).map (·.type) = some 83 by kernel_rfl).symm.trans ht')
  unfold PowT TabIs
  rw [hv, ← cells_of_tab Tryd.underlying83 Tryd.underlying69 (by kernel_rfl) (by kernel_rfl) hd]
theorem grow_belowP (w : World) (k : Nat) (os : Array Obj) : Below w.heap.size w (Sort.grow (w.drewN k) os) := by
  have h1 := drewN_below w.heap.size w k
  refine ⟨h1.os, h1.tape, h1.output, ?_, fun j hj => ?_⟩
  · rw [Sort.size_grow]; have := h1.size; omega
  · rw [Sort.heap_grow_old _ _ (by have := h1.size; omega)]
    exact h1.block j hj
/-- The digits of a number that is not below 0. -/
theorem pitoa_at (n : Int) (t : ByteArray) (h0 : 0 ≤ n) (hn : n ≤ 9223372036854775807) (ht : t.data.toList = Lib.decDigits n.toNat) (w : World) (hT : PowT w) :
    Calls Tryd.prog 11 #[.int .i64 n] w fun e w' => e = .returned (.string t) ∧ Below w.heap.size w w' := by
  refine (Tryd.strconv_Itoa n (by omega) (by omega) w hT).mono ?_
  rintro e w' ⟨rfl, k, os, rfl⟩
  refine ⟨ret_str ?_, grow_belowP w k os⟩
  apply ByteArray.ext; apply Array.ext'
  rw [ht]
  unfold Lib.itoa; rw [if_neg (by omega)]
end Go.Proofs.YtkmbhgbmdeoppacDoor

/-
  New blocks lie above all that was there; no program is named here.
-/
namespace Go.Proofs.YtkmbhgbmdeoppacDoor
open Go.RowKit

theorem below_alloc (w : World) (o : Obj) : Below w.heap.size w (w.alloc o) := (Below.refl _ w).alloc (Nat.le_refl _) o
theorem below_alloc2 (w : World) (o o' : Obj) : Below w.heap.size w ((w.alloc o).alloc o') := (below_alloc w o).alloc (by simp) o'
theorem below_new {w w1 : World} {o : Obj} (h : Below (w.alloc o).heap.size (w.alloc o) w1) : Below w.heap.size w w1 := (below_alloc w o).trans (h.mono (by simp))
theorem below_new2 {w w1 : World} {o o' : Obj} (h : Below ((w.alloc o).alloc o').heap.size ((w.alloc o).alloc o') w1) : Below w.heap.size w w1 := (below_alloc2 w o o').trans (h.mono (by simp; omega))
theorem new_cell {w w1 : World} {cs : Array Value} {t : TypeId} (h : Below (w.alloc (.cells cs t)).heap.size (w.alloc (.cells cs t)) w1) (j : Nat) : w1.cell? ⟨w.heap.size, j, none⟩ = cs[j]? :=
  (h.cell (p := ⟨w.heap.size, j, none⟩) (by simp)).trans (by simp)
theorem new_cell2 {w w1 : World} {cs ds : Array Value} {t u : TypeId} (h : Below ((w.alloc (.cells cs t)).alloc (.cells ds u)).heap.size ((w.alloc (.cells cs t)).alloc (.cells ds u)) w1) (j : Nat) : w1.cell? ⟨w.heap.size, j, none⟩ = cs[j]? ∧ w1.cell? ⟨w.heap.size + 1, j, none⟩ = ds[j]? :=
  ⟨(h.cell (p := ⟨w.heap.size, j, none⟩) (by simp; omega)).trans (by simp), (h.cell (p := ⟨w.heap.size + 1, j, none⟩) (by simp)).trans (by simp)⟩
theorem two_cells {w W : World} {t : TypeId} {a b : Value} (h : Below (w.alloc (.cells #[a, b] t)).heap.size (w.alloc (.cells #[a, b] t)) W) :
    W.cell? ⟨w.heap.size, 0, none⟩ = some a ∧ W.cell? ⟨w.heap.size, 1, none⟩ = some b ∧ (∀ o, W.frozen? ⟨w.heap.size, o, none⟩ = false) ∧ w.heap.size < W.heap.size ∧ Below w.heap.size w W := by
  refine ⟨new_cell h 0, new_cell h 1, fun o => ?_, ?_, below_new h⟩
  · exact (h.frozen (p := ⟨w.heap.size, o, none⟩) (by simp)).trans (new_free _ _ _ _)
  · have := h.size; simp at this; omega
/-- A block of four cells, all of them written anew. -/
def set4 (w : World) (g : Nat) (a b c d : Value) : World := (((w.setCell ⟨g, 0, none⟩ a).setCell ⟨g, 1, none⟩ b).setCell ⟨g, 2, none⟩ c).setCell ⟨g, 3, none⟩ d
theorem set4_own {w : World} {g : Nat} {t : TypeId} {p q r s a b c d : Value} (h : w.heap[g]? = some (.cells #[p, q, r, s] t (0, 0))) : (set4 w g a b c d).heap[g]? = some (.cells #[a, b, c, d] t (0, 0)) := by
  unfold set4
  have h1 := heap_setCell_same w g 0 _ t a h
  have h2 := heap_setCell_same _ g 1 _ t b h1
  have h3 := heap_setCell_same _ g 2 _ t c h2
  exact heap_setCell_same _ g 3 _ t d h3
theorem set4_other {w : World} {g k : Nat} {a b c d : Value} (h : k ≠ g) : (set4 w g a b c d).heap[k]? = w.heap[k]? := by
  unfold set4
  rw [heap_setCell_other _ _ _ _ h, heap_setCell_other _ _ _ _ h, heap_setCell_other _ _ _ _ h, heap_setCell_other _ _ _ _ h]
theorem set4_below {B : Nat} {w0 w : World} {g : Nat} (a b c d : Value) (hb : Below B w0 w) (hg : B ≤ g) : Below B w0 (set4 w g a b c d) := (((hb.setCell hg a).setCell hg b).setCell hg c).setCell hg d
theorem set4_cell {w : World} {g : Nat} {t : TypeId} {p q r s a b c d : Value} (h : w.heap[g]? = some (.cells #[p, q, r, s] t (0, 0))) (j : Nat) : (set4 w g a b c d).cell? ⟨g, j, none⟩ = #[a, b, c, d][j]? := by
  simp [World.cell?, set4_own h]
end Go.Proofs.YtkmbhgbmdeoppacDoor

/-
  What hasBytes of package span computes.
-/
namespace Go.Proofs.YtkmbhgbmdeoppacDoor
open Go.RowKit

set_option maxRecDepth 100000 in
theorem shas_any (a b : Int) (w : World) :
    Calls Tryd.prog 10 #[.agg #[.int .i64 a, .int .i64 b]] w fun e w' => e = .returned (.bool (decide (a < b))) ∧ Below w.heap.size w w' := by
  have hw0 : Below w.heap.size w (w.alloc (.cells #[.int .i64 a, .int .i64 b] 23)) := (Below.refl _ w).alloc (Nat.le_refl _) _
  go_enter Tryd.func10, Tryd.ntmps10
  go_wp2_with fail
  go_ret
  exact ⟨rfl, hw0⟩
theorem shas_is (a b : Int) (r : Bool) (h : decide (a < b) = r) (w : World) :
    Calls Tryd.prog 10 #[.agg #[.int .i64 a, .int .i64 b]] w fun e w' => e = .returned (.bool r) ∧ Below w.heap.size w w' := by
  subst h; exact shas_any a b w
end Go.Proofs.YtkmbhgbmdeoppacDoor

/-
  Plain lemmas on where a text lies in another one for the first time; no program is named here.
-/
namespace Go.Proofs.YtkmbhgbmdeoppacDoor
open Go.RowKit

theorem index_two' (l sub : List UInt8) : Lib.index l sub = -1 ∨ ∃ k : Nat, Lib.index l sub = k ∧ k + sub.length ≤ l.length := by
  have h := Lib.index_ge l sub
  by_cases h1 : Lib.index l sub = -1
  · exact .inl h1
  · refine .inr ⟨(Lib.index l sub).toNat, by omega, ?_⟩
    have := Lib.index_room l sub (by omega)
    omega
theorem cut_no (l sub : List UInt8) (h : Lib.index l sub = -1) : Lib.cut l sub = (l, [], false) := by
  unfold Lib.cut; rw [h]; rfl
theorem cut_yes (l sub : List UInt8) (k : Nat) (h : Lib.index l sub = k) : Lib.cut l sub = (l.take k, l.drop (k + sub.length), true) := by
  unfold Lib.cut; rw [h, if_pos (by omega)]; simp

theorem cut_split (l sub : List UInt8) (k : Nat) (h : Lib.index l sub = k) : l = l.take k ++ (sub ++ l.drop (k + sub.length)) := by
  rcases Lib.index_spec l sub with ⟨h1, _⟩ | ⟨i, h1, h2, h3, _⟩
  · omega
  · obtain rfl : i = k := by omega
    unfold Lib.occAt at h3
    obtain ⟨t, ht⟩ := List.isPrefixOf_iff_prefix.1 h3
    have e : l.drop (i + sub.length) = t := by rw [← List.drop_drop, ← ht, List.drop_left']; rfl
    rw [e, ht, List.take_append_drop]
theorem index_at_crlf (l t : List UInt8) (h : ∀ b ∈ l, b ≠ 13) : Lib.index (l ++ 13 :: 10 :: t) [13, 10] = (l.length : Int) := by
  induction l with
  | nil => simp [Lib.index]
  | cons b l ih =>
    have ih := ih fun c hc => h c (List.mem_cons_of_mem _ hc)
    have hb : b ≠ 13 := h b (List.mem_cons_self ..)
    have hp : ([13, 10] : List UInt8).isPrefixOf (b :: (l ++ 13 :: 10 :: t)) = false := by
      simp [List.isPrefixOf]
      intro e; exact absurd e.symm hb
    rw [List.cons_append]
    unfold Lib.index
    rw [hp, ih]
    have : ((l.length : Int) == -1) = false := by rw [beq_eq_false_iff_ne]; omega
    rw [this]; simp
theorem index_no_crlf (l : List UInt8) (h : ∀ b ∈ l, b ≠ 13) : Lib.index l [13, 10] = -1 := by
  induction l with
  | nil => rfl
  | cons b l ih =>
    have ih := ih fun c hc => h c (List.mem_cons_of_mem _ hc)
    have hb : b ≠ 13 := h b (List.mem_cons_self ..)
    have hp : ([13, 10] : List UInt8).isPrefixOf (b :: l) = false := by
      cases l <;> simp [List.isPrefixOf]
      intro e; exact absurd e.symm hb
    unfold Lib.index
    rw [hp, ih]; rfl
theorem index_no_crlf1 (l : List UInt8) (h : ∀ b ∈ l, b ≠ 13) : Lib.index (l ++ [13]) [13, 10] = -1 := by
  induction l with
  | nil => rfl
  | cons b l ih =>
    have ih := ih fun c hc => h c (List.mem_cons_of_mem _ hc)
    have hb : b ≠ 13 := h b (List.mem_cons_self ..)
    have hp : ([13, 10] : List UInt8).isPrefixOf (b :: (l ++ [13])) = false := by
      cases l <;> simp [List.isPrefixOf]
      all_goals (intro e; exact absurd e.symm hb)
    rw [List.cons_append]
    unfold Lib.index
    rw [hp, ih]; rfl
theorem index_byte_at (d : UInt8) (l t : List UInt8) (h : ∀ b ∈ l, b ≠ d) : Lib.index (l ++ d :: t) [d] = (l.length : Int) := by
  induction l with
  | nil => simp [Lib.index]
  | cons b l ih =>
    have ih := ih fun c hc => h c (List.mem_cons_of_mem _ hc)
    have hb : b ≠ d := h b (List.mem_cons_self ..)
    have hp : ([d] : List UInt8).isPrefixOf (b :: (l ++ d :: t)) = false := by
      simp [List.isPrefixOf]
      intro e; exact absurd e.symm hb
    rw [List.cons_append]
    unfold Lib.index
    rw [hp, ih]
    have : ((l.length : Int) == -1) = false := by rw [beq_eq_false_iff_ne]; omega
    rw [this]; simp

theorem index_colon (l t : List UInt8) (h : ∀ b ∈ l, b ≠ 58) : Lib.index (l ++ 58 :: t) [58] = (l.length : Int) := index_byte_at 58 l t h
theorem tok_not (c d : UInt8) (hd : isTok d = false) (h : isTok c = true) : c ≠ d := by
  rintro rfl; rw [hd] at h; cases h
theorem plain_not13 (c : UInt8) (h : plainB c = true) : c ≠ 13 := by
  rintro rfl; exact absurd h (by decide)
theorem token_all (l : List UInt8) (h : token l = true) : ∀ c ∈ l, isTok c = true := by
  unfold token at h
  rw [Bool.and_eq_true] at h
  exact List.all_eq_true.1 h.2

end Go.Proofs.YtkmbhgbmdeoppacDoor

/-
  What is asked for of a body (wants) in plain lists: texts of one, and whether it is so; no program is named here.
-/
namespace Go.Proofs.YtkmbhgbmdeoppacDoor
open Go.RowKit

abbrev Wn := Int × Int
/-- Is a want one? -/
def okW (w : Wn) : Bool := if w.1 = -1 then decide (0 ≤ w.2 ∧ w.2 ≤ 99999) else (decide (0 ≤ w.1 ∧ w.1 ≤ 99999) && (decide (w.2 = -1) || decide (w.1 ≤ w.2 ∧ w.2 ≤ 99999)))
def chkW (l : List Wn) : Int := if l.all okW = false then 1 else if l.length = 0 then 1 else if 20 < l.length then 2 else 0
def sgn (n : Int) : List UInt8 := if n < 0 then [] else Lib.decDigits n.toNat
def prW (w : Wn) : List UInt8 := sgn w.1 ++ 45 :: sgn w.2
theorem okW_is {w : Wn} (h : okW w = true) : -1 ≤ w.1 ∧ w.1 ≤ 99999 ∧ -1 ≤ w.2 ∧ w.2 ≤ 99999 ∧ (w.1 = -1 → 0 ≤ w.2) ∧ (w.1 ≠ -1 → 0 ≤ w.1 ∧ (w.2 = -1 ∨ w.1 ≤ w.2)) := by
  unfold okW at h
  split at h
  · simp at h; omega
  · simp at h; omega
theorem okW_of {w : Wn} (h : (w.1 = -1 ∧ 0 ≤ w.2 ∧ w.2 ≤ 99999) ∨ (0 ≤ w.1 ∧ w.1 ≤ 99999 ∧ (w.2 = -1 ∨ (w.1 ≤ w.2 ∧ w.2 ≤ 99999)))) : okW w = true := by
  unfold okW
  split
  · simp; omega
  · simp; omega
theorem sgn_neg {n : Int} (h : n < 0) : sgn n = [] := by unfold sgn; rw [if_pos h]
theorem sgn_pos {n : Int} (h : 0 ≤ n) : sgn n = Lib.decDigits n.toNat := by unfold sgn; rw [if_neg (by omega)]
theorem sgn_dig (n : Int) : (sgn n).all isDig = true := by
  unfold sgn; split
  · rfl
  · exact dec_all _
theorem dec_len5 (u : Nat) (h : u ≤ 99999) : (Lib.decDigits u).length ≤ 5 := by
  rw [Lib.decDigits_length]
  rw [Lib.nDigits]; split
  · omega
  · rw [Lib.nDigits]; split
    · omega
    · rw [Lib.nDigits]; split
      · omega
      · rw [Lib.nDigits]; split
        · omega
        · rw [Lib.nDigits]; split <;> omega
theorem cnt_dec5 (u : Nat) (h : u ≤ 99999) : cnt (Lib.decDigits u) 99999 = u := by
  have hl := dec_len5 u h
  unfold cnt
  rw [if_neg, if_neg (by rw [numb_dec]; omega), numb_dec]
  rintro (h1 | h1 | ⟨h1, h2⟩ | h1)
  · exact dec_ne u (List.eq_nil_of_length_eq_zero h1)
  · omega
  · by_cases h0 : 1 ≤ u
    · exact dec_head u h0 h2
    · obtain rfl : u = 0 := by omega
      rw [Lib.decDigits_one (by omega)] at h1; simp at h1
  · rw [dec_all] at h1; cases h1
theorem cnt_sgn {n : Int} (h1 : -1 ≤ n) (h2 : n ≤ 99999) : cnt (sgn n) 99999 = n := by
  by_cases h : n < 0
  · rw [sgn_neg h]
    unfold cnt
    rw [if_pos (.inl rfl)]; omega
  · rw [sgn_pos (by omega), cnt_dec5 _ (by omega)]; omega
theorem sgn_no (n : Int) (d : UInt8) (hd : isDig d = false) : ∀ b ∈ sgn n, b ≠ d := by
  intro b hb e
  subst e
  have := List.all_eq_true.1 (sgn_dig n) b hb
  rw [hd] at this; cases this
theorem sgn_len {n : Int} (h : n ≤ 99999) : (sgn n).length ≤ 5 := by
  unfold sgn; split
  · simp
  · exact dec_len5 _ (by omega)
theorem prW_len {w : Wn} (h : okW w = true) : (prW w).length ≤ 11 := by
  obtain ⟨h1, h2, h3, h4, _⟩ := okW_is h
  have a := sgn_len h2
  have b := sgn_len h4
  unfold prW
  rw [List.length_append, List.length_cons]; omega
theorem prW_index (w : Wn) : Lib.index (prW w) [45] = ((sgn w.1).length : Int) := index_byte_at 45 _ _ (sgn_no w.1 45 (by decide))
/-- One want, read as the document's answer reads it. -/
def paW (t : List UInt8) : Option Wn :=
  if Lib.index t [45] < 0 then none
  else if okW (cnt (t.take (Lib.index t [45]).toNat) 99999, cnt (t.drop ((Lib.index t [45]).toNat + 1)) 99999) = true ∧ prW (cnt (t.take (Lib.index t [45]).toNat) 99999, cnt (t.drop ((Lib.index t [45]).toNat + 1)) 99999) = t then
    some (cnt (t.take (Lib.index t [45]).toNat) 99999, cnt (t.drop ((Lib.index t [45]).toNat + 1)) 99999)
  else none
theorem paW_back {w : Wn} (h : okW w = true) : paW (prW w) = some w := by
  obtain ⟨h1, h2, h3, h4, _⟩ := okW_is h
  have e1 : (prW w).take (sgn w.1).length = sgn w.1 := by unfold prW; simp
  have e2 : (prW w).drop ((sgn w.1).length + 1) = sgn w.2 := by unfold prW; simp
  unfold paW
  rw [prW_index, if_neg (by omega)]
  simp only [Int.toNat_natCast, e1, e2, cnt_sgn h1 h2, cnt_sgn h3 h4]
  rw [if_pos ⟨h, trivial⟩]
theorem paW_some {t : List UInt8} {w : Wn} (h : paW t = some w) : okW w = true ∧ prW w = t := by
  unfold paW at h
  split at h
  · cases h
  · split at h
    · rename_i h2
      cases h
      exact h2
    · cases h
theorem paW_iff (t : List UInt8) (w : Wn) : paW t = some w ↔ okW w = true ∧ prW w = t :=
  ⟨paW_some, fun ⟨h, e⟩ => by rw [← e]; exact paW_back h⟩
theorem paW_none {t : List UInt8} (h : paW t = none) {w : Wn} (hw : okW w = true) : prW w ≠ t := by
  intro e
  rw [(paW_iff t w).2 ⟨hw, e⟩] at h; cases h
def wns (ws : List Wn) : List Value := ws.flatMap fun w => [Value.int .i64 w.1, Value.int .i64 w.2]
theorem wns_snoc (ws : List Wn) (w : Wn) : wns ws ++ [Value.int .i64 w.1, Value.int .i64 w.2] = wns (ws ++ [w]) := by simp [wns]
theorem wns_app (a b : List Wn) : wns (a ++ b) = wns a ++ wns b := by simp [wns]
theorem wns_length (ws : List Wn) : (wns ws).length = ws.length * 2 := by
  induction ws with
  | nil => rfl
  | cons t ts ih =>
    have : wns (t :: ts) = [Value.int .i64 t.1, Value.int .i64 t.2] ++ wns ts := by simp [wns]
    rw [this, List.length_append, ih, List.length_cons]; simp; omega
theorem wns_get (ts : List Wn) : ∀ (k : Nat) (h : k < ts.length), (wns ts)[k * 2]? = some (.int .i64 (ts[k]).1) ∧ (wns ts)[k * 2 + 1]? = some (.int .i64 (ts[k]).2) := by
  induction ts with
  | nil => intro k h; simp at h
  | cons t ts ih =>
    intro k h
    have he : wns (t :: ts) = Value.int .i64 t.1 :: Value.int .i64 t.2 :: wns ts := by simp [wns]
    cases k with
    | zero => rw [he]; exact ⟨rfl, rfl⟩
    | succ k =>
      have := ih k (by simpa using h)
      rw [he, show (k + 1) * 2 = k * 2 + 2 by omega]
      simpa using this
theorem wns_one (ts : List Wn) : ∀ u ∈ wns ts, u.oneCell' = true := by
  intro u hu
  unfold wns at hu
  obtain ⟨x, _, hx⟩ := List.mem_flatMap.1 hu
  simp at hx
  rcases hx with rfl | rfl <;> rfl
theorem idx_one_is (l : List UInt8) (c : UInt8) : Lib.indexByte l c = -1 ∨ ∃ k : Nat, Lib.indexByte l c = k ∧ k < l.length := by
  rw [← Lib.index_one]
  rcases index_two' l [c] with h | ⟨k, h1, h2⟩
  · exact .inl h
  · exact .inr ⟨k, h1, by simp at h2; omega⟩
end Go.Proofs.YtkmbhgbmdeoppacDoor
