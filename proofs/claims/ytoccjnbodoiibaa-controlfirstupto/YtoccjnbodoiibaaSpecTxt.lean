/-
  Dates as lists of bytes: the names of days and months, numbers in two and in four digits, the text of a second; no program is named here.
-/
import Derived.Test.YtoccjnbodoiibaaSpecCal
import Derived.Lib.ItoaNum
namespace Go.Proofs.Ytoccjnbodoiibaa
open Go.RowKit

def weekL : List (List UInt8) := [[84, 104, 117], [70, 114, 105], [83, 97, 116], [83, 117, 110], [77, 111, 110], [84, 117, 101], [87, 101, 100]]
def monthL : List (List UInt8) := [[74, 97, 110], [70, 101, 98], [77, 97, 114], [65, 112, 114], [77, 97, 121], [74, 117, 110], [74, 117, 108], [65, 117, 103], [83, 101, 112], [79, 99, 116], [78, 111, 118], [68, 101, 99]]
def weekS (k : Nat) : List UInt8 := weekL.getD k []
def monthS (k : Nat) : List UInt8 := monthL.getD k []
def dg (u : Nat) : UInt8 := UInt8.ofNat (48 + u)
def dig2 (u : Nat) : List UInt8 := [dg (u / 10), dg (u % 10)]
def dig4 (u : Nat) : List UInt8 := [dg (u / 1000), dg (u / 100 % 10), dg (u / 10 % 10), dg (u % 10)]

/-- the text of second n, on the day (y, m, d) -/
def dtext (n y m d : Int) : List UInt8 :=
  weekS (n / 86400 % 7).toNat ++ [44, 32] ++ dig2 d.toNat ++ [32] ++ monthS (m - 1).toNat ++ [32] ++ dig4 y.toNat ++ [32]
    ++ dig2 (n % 86400 / 3600).toNat ++ [58] ++ dig2 (n % 3600 / 60).toNat ++ [58] ++ dig2 (n % 60).toNat ++ [32, 71, 77, 84]

theorem week_len (k : Nat) (h : k < 7) : (weekS k).length = 3 := by
  rcases (show k = 0 ∨ k = 1 ∨ k = 2 ∨ k = 3 ∨ k = 4 ∨ k = 5 ∨ k = 6 by omega) with rfl | rfl | rfl | rfl | rfl | rfl | rfl <;> rfl
theorem month_len (k : Nat) (h : k < 12) : (monthS k).length = 3 := by
  rcases (show k = 0 ∨ k = 1 ∨ k = 2 ∨ k = 3 ∨ k = 4 ∨ k = 5 ∨ k = 6 ∨ k = 7 ∨ k = 8 ∨ k = 9 ∨ k = 10 ∨ k = 11 by omega) with rfl | rfl | rfl | rfl | rfl | rfl | rfl | rfl | rfl | rfl | rfl | rfl <;> rfl
theorem dig2_len (u : Nat) : (dig2 u).length = 2 := rfl
theorem dig4_len (u : Nat) : (dig4 u).length = 4 := rfl

theorem dec_1 (u : Nat) (h : u < 10) : [48] ++ Lib.decDigits u = dig2 u := by
  rw [Lib.decDigits_one h]
  unfold dig2
  rw [show u / 10 = 0 by omega, show u % 10 = u by omega]; rfl
theorem dec_2 (u : Nat) (h1 : ¬ u < 10) (h2 : u < 100) : Lib.decDigits u = dig2 u := Lib.decDigits_two h1 h2
theorem dec_4 (u : Nat) (h1 : 1000 ≤ u) (h2 : u ≤ 9999) : Lib.decDigits u = dig4 u := by
  rw [Lib.decDigits, dif_neg (by omega), Lib.decDigits, dif_neg (by omega), Lib.decDigits_two (by omega) (by omega)]
  unfold dig4
  rw [show u / 10 / 10 / 10 = u / 1000 by omega, show u / 10 / 10 % 10 = u / 100 % 10 by omega]
  rfl

theorem dtext_len (n y m d : Int) (h1 : 1 ≤ m) (h2 : m ≤ 12) : (dtext n y m d).length = 29 := by
  unfold dtext
  simp only [List.length_append, dig2_len, dig4_len, week_len (n / 86400 % 7).toNat (by omega), month_len (m - 1).toNat (by omega), List.length_cons, List.length_nil]
end Go.Proofs.Ytoccjnbodoiibaa
