/-
  Numbers of digits in plain lists, as the document's answers count them; no program is named here.
-/
import Derived.Test.YtoccjnbodoiibaaSpecGs
import Derived.Lib.TrimByte
import Derived.Lib.IndexBytes
namespace Go.Proofs.Ytoccjnbodoiibaa
open Go.RowKit

def isDig (c : UInt8) : Bool := 48 ≤ c && c ≤ 57
def cnt (l : List UInt8) (most : Int) : Int :=
  if l.length = 0 ∨ 18 < l.length ∨ (1 < l.length ∧ l.head? = some 48) ∨ l.all isDig = false then -1 else if most < numb l then -1 else numb l
/-- a number with noughts ahead, as the document's answers count it: -1 for 0 -/
def cn (l : List UInt8) : Int := cnt (Lib.trimLeftB l 48) 9999

theorem dig_iff (c : UInt8) : isDig c = true ↔ 48 ≤ c.toNat ∧ c.toNat ≤ 57 := by
  unfold isDig
  simp [UInt8.le_iff_toNat_le]
theorem dig_tens (c : UInt8) : ([48, 49, 50, 51, 52, 53, 54, 55, 56, 57] : List UInt8).contains c = isDig c := by
  have := byAll (fun c => ([48, 49, 50, 51, 52, 53, 54, 55, 56, 57] : List UInt8).contains c == isDig c) (by decide +kernel) c
  simpa using this
theorem tens_all (l : List UInt8) : allIn [48, 49, 50, 51, 52, 53, 54, 55, 56, 57] l = l.all isDig := congrArg l.all (funext dig_tens)

theorem foldl_bd (l : List UInt8) : ∀ (_ : l.all isDig = true) (n : Int) (_ : 0 ≤ n), 0 ≤ l.foldl (fun n c => n * 10 + (c.toNat : Int) - 48) n ∧ l.foldl (fun n c => n * 10 + (c.toNat : Int) - 48) n < (n + 1) * 10 ^ l.length := by
  induction l with
  | nil => intro _ n hn; simp; omega
  | cons c l ih =>
    intro h n hn
    rw [List.all_cons, Bool.and_eq_true] at h
    obtain ⟨h1, h2⟩ := (dig_iff c).1 h.1
    have := ih h.2 (n * 10 + (c.toNat : Int) - 48) (by omega)
    rw [List.foldl_cons]
    refine ⟨this.1, Int.lt_of_lt_of_le this.2 ?_⟩
    rw [List.length_cons, Int.pow_succ, Int.mul_comm (10 ^ l.length) 10, ← Int.mul_assoc]
    exact Int.mul_le_mul_of_nonneg_right (by omega) (by exact Int.le_of_lt (Int.pow_pos (by omega)))
theorem numb_dig (l : List UInt8) (h : l.all isDig = true) : 0 ≤ numb l ∧ numb l < 10 ^ l.length := by
  have := foldl_bd l h 0 (Int.le_refl _)
  simpa [numb] using this

theorem cnt_most (l : List UInt8) (most : Int) (h : 0 ≤ most) : -1 ≤ cnt l most ∧ cnt l most ≤ most := by
  unfold cnt
  split
  · omega
  · rename_i h1
    split
    · omega
    · rename_i h2
      have : l.all isDig = true := by
        cases hq : l.all isDig with
        | true => rfl
        | false => exact absurd (.inr (.inr (.inr hq))) h1
      have := (numb_dig l this).1
      omega
theorem numb_trim (l : List UInt8) : numb (Lib.trimLeftB l 48) = numb l := by
  unfold Lib.trimLeftB
  induction l with
  | nil => rfl
  | cons c l ih =>
    rw [List.dropWhile_cons]
    split
    · rename_i h
      obtain rfl : c = 48 := by simpa using h
      rw [ih]; rfl
    · rfl
theorem trim_all (l : List UInt8) (h : l.all isDig = true) : (Lib.trimLeftB l 48).all isDig = true :=
  List.all_eq_true.2 fun x hx => List.all_eq_true.1 h x ((List.dropWhile_sublist _).mem hx)
theorem trim_len (l : List UInt8) : (Lib.trimLeftB l 48).length ≤ l.length := (List.dropWhile_sublist _).length_le
theorem trim_head (l : List UInt8) : (Lib.trimLeftB l 48).head? ≠ some 48 := by
  unfold Lib.trimLeftB
  induction l with
  | nil => simp
  | cons c l ih =>
    rw [List.dropWhile_cons]
    split
    · exact ih
    · rename_i h
      simpa using h

theorem numb_dig4 (l : List UInt8) (h : l.all isDig = true) (hl : l.length ≤ 4) : 0 ≤ numb l ∧ numb l ≤ 9999 := by
  obtain ⟨a, b⟩ := numb_dig l h
  refine ⟨a, ?_⟩
  rcases (show l.length = 0 ∨ l.length = 1 ∨ l.length = 2 ∨ l.length = 3 ∨ l.length = 4 by omega) with e | e | e | e | e <;> (rw [e] at b; omega)

theorem cn_is (l : List UInt8) (h : l.all isDig = true) (hl : l.length ≤ 4) : (cn l = -1 ∧ numb l = 0) ∨ cn l = numb l := by
  have b := numb_dig4 l h hl
  have t1 := trim_all l h
  have t2 := trim_len l
  have t3 := trim_head l
  have t4 := numb_trim l
  unfold cn cnt
  rw [t4]
  by_cases he : (Lib.trimLeftB l 48).length = 0
  · left
    refine ⟨if_pos (.inl he), ?_⟩
    rw [← t4, List.length_eq_zero_iff.1 he]; rfl
  · right
    rw [if_neg, if_neg (by omega)]
    rintro (g | g | g | g)
    · exact he g
    · omega
    · exact t3 g.2
    · rw [t1] at g; cases g
theorem cn_max (l : List UInt8) (h : l.all isDig = true) (hl : l.length ≤ 4) : max 0 (cn l) = numb l := by
  have b := numb_dig4 l h hl
  rcases cn_is l h hl with ⟨e, f⟩ | e
  · rw [e, f]; rfl
  · rw [e]; omega
theorem cn_bd (l : List UInt8) (h : l.all isDig = true) (hl : l.length ≤ 4) : -1 ≤ cn l ∧ cn l ≤ 9999 := by
  have b := numb_dig4 l h hl
  rcases cn_is l h hl with ⟨e, f⟩ | e <;> omega

theorem dig_dg (u : Nat) (h : u < 10) : isDig (dg u) = true := by rw [dig_iff, dg_nat u h]; omega
theorem dig2_all (u : Nat) (h : u < 100) : (dig2 u).all isDig = true := by
  unfold dig2; simp [dig_dg (u / 10) (by omega), dig_dg (u % 10) (by omega)]
theorem dig4_all (u : Nat) (h : u < 10000) : (dig4 u).all isDig = true := by
  unfold dig4; simp [dig_dg (u / 1000) (by omega), dig_dg (u / 100 % 10) (by omega), dig_dg (u / 10 % 10) (by omega), dig_dg (u % 10) (by omega)]

def mtext : List UInt8 := [74, 97, 110, 32, 70, 101, 98, 32, 77, 97, 114, 32, 65, 112, 114, 32, 77, 97, 121, 32, 74, 117, 110, 32, 74, 117, 108, 32, 65, 117, 103, 32, 83, 101, 112, 32, 79, 99, 116, 32, 78, 111, 118, 32, 68, 101, 99]
theorem mtext_at (k : Nat) (h : k < 12) : Lib.index mtext (monthS k) = 4 * (k : Int) := by
  rcases (show k = 0 ∨ k = 1 ∨ k = 2 ∨ k = 3 ∨ k = 4 ∨ k = 5 ∨ k = 6 ∨ k = 7 ∨ k = 8 ∨ k = 9 ∨ k = 10 ∨ k = 11 by omega) with rfl | rfl | rfl | rfl | rfl | rfl | rfl | rfl | rfl | rfl | rfl | rfl <;> decide +kernel
theorem mtext_bd (x : List UInt8) : -1 ≤ Lib.index mtext x ∧ Lib.index mtext x ≤ 47 := ⟨Lib.index_ge _ _, Lib.index_le _ _⟩

/-- the five numbers' texts of a date -/
def part (l : List UInt8) (k : Nat) : List UInt8 := ([sl l 5 7, sl l 12 16, sl l 17 19, sl l 20 22, sl l 23 25]).getD k []
theorem part0 (l : List UInt8) : part l 0 = sl l 5 7 := rfl
theorem part1 (l : List UInt8) : part l 1 = sl l 12 16 := rfl
theorem part2 (l : List UInt8) : part l 2 = sl l 17 19 := rfl
theorem part3 (l : List UInt8) : part l 3 = sl l 20 22 := rfl
theorem part4 (l : List UInt8) : part l 4 = sl l 23 25 := rfl
def digs (l : List UInt8) : Prop := ∀ k : Nat, k < 5 → (part l k).all isDig = true
def rN (l : List UInt8) (m : Int) : Int := num (cn (part l 1)) (m / 4 + 1) (numb (part l 0)) * 86400 + 3600 * numb (part l 2) + 60 * numb (part l 3) + numb (part l 4)

theorem part_len (l : List UInt8) (h : l.length = 29) (k : Nat) (hk : k < 5) : (part l k).length ≤ 4 := by
  rcases (show k = 0 ∨ k = 1 ∨ k = 2 ∨ k = 3 ∨ k = 4 by omega) with rfl | rfl | rfl | rfl | rfl
  · exact Nat.le_trans (Nat.le_of_eq (sl_len l 5 7 h (by decide) (by decide))) (by decide)
  · exact Nat.le_trans (Nat.le_of_eq (sl_len l 12 16 h (by decide) (by decide))) (by decide)
  · exact Nat.le_trans (Nat.le_of_eq (sl_len l 17 19 h (by decide) (by decide))) (by decide)
  · exact Nat.le_trans (Nat.le_of_eq (sl_len l 20 22 h (by decide) (by decide))) (by decide)
  · exact Nat.le_trans (Nat.le_of_eq (sl_len l 23 25 h (by decide) (by decide))) (by decide)
theorem part_bd2 (l : List UInt8) (h : l.length = 29) (hd : digs l) (k : Nat) (hk : k < 5) (h1 : k ≠ 1) : 0 ≤ numb (part l k) ∧ numb (part l k) ≤ 99 := by
  obtain ⟨a, b⟩ := numb_dig (part l k) (hd k hk)
  have hl : (part l k).length = 2 := by
    rcases (show k = 0 ∨ k = 2 ∨ k = 3 ∨ k = 4 by omega) with rfl | rfl | rfl | rfl
    · exact sl_len l 5 7 h (by decide) (by decide)
    · exact sl_len l 17 19 h (by decide) (by decide)
    · exact sl_len l 20 22 h (by decide) (by decide)
    · exact sl_len l 23 25 h (by decide) (by decide)
  rw [hl] at b
  omega

/-- what the document's answers read of a date's text -/
theorem dt_ref {l : List UInt8} {n : Int} (h : IsDT l n) : digs l ∧ 0 ≤ Lib.index mtext (sl l 8 11) ∧ vldB (cn (part l 1)) (Lib.index mtext (sl l 8 11) / 4 + 1) (numb (part l 0)) = true ∧ rN l (Lib.index mtext (sl l 8 11)) = n := by
  have hlen := dt_len h
  obtain ⟨h0, h1, y, m, d, hv, hn, rfl⟩ := h
  obtain ⟨a1, a2, a3, a4, a5, a6⟩ := vld_iff.1 hv
  have hd := dim_lo y m
  obtain ⟨p1, p2, p3, p4, p5, p6⟩ := dtext_parts n y m d a3 a4
  have hdg : digs (dtext n y m d) := by
    intro k hk
    rcases (show k = 0 ∨ k = 1 ∨ k = 2 ∨ k = 3 ∨ k = 4 by omega) with rfl | rfl | rfl | rfl | rfl
    · rw [part0, p1]; exact dig2_all _ (by omega)
    · rw [part1, p3]; exact dig4_all _ (by omega)
    · rw [part2, p4]; exact dig2_all _ (by omega)
    · rw [part3, p5]; exact dig2_all _ (by omega)
    · rw [part4, p6]; exact dig2_all _ (by omega)
  have e0 : numb (part (dtext n y m d) 0) = d := by rw [part0, p1, numb_2 _ (by omega)]; omega
  have e1' : numb (part (dtext n y m d) 1) = y := by rw [part1, p3, numb_4 _ (by omega)]; omega
  have e1 : cn (part (dtext n y m d) 1) = y := by
    rcases cn_is _ (hdg 1 (by decide)) (part_len _ hlen 1 (by decide)) with ⟨_, g⟩ | g <;> omega
  have e2 : numb (part (dtext n y m d) 2) = n % 86400 / 3600 := by rw [part2, p4, numb_2 _ (by omega)]; omega
  have e3 : numb (part (dtext n y m d) 3) = n % 3600 / 60 := by rw [part3, p5, numb_2 _ (by omega)]; omega
  have e4 : numb (part (dtext n y m d) 4) = n % 60 := by rw [part4, p6, numb_2 _ (by omega)]; omega
  have em : Lib.index mtext (sl (dtext n y m d) 8 11) = 4 * (m - 1) := by rw [p2, mtext_at _ (by omega)]; omega
  refine ⟨hdg, by rw [em]; omega, ?_, ?_⟩
  · rw [e0, e1, em, show 4 * (m - 1) / 4 + 1 = m by omega]; exact hv
  · unfold rN
    rw [e0, e1, e2, e3, e4, em, show 4 * (m - 1) / 4 + 1 = m by omega, hn]; omega
end Go.Proofs.Ytoccjnbodoiibaa
