/-
  What is asked for of a body (wants) in plain lists: texts of one, and whether it is so; no program is named here.
-/
import Derived.Test.YtkmbhgbmdeoppabSpecDd
import Derived.Test.YtkmbhgbmdeoppabSpecIx
namespace Go.Proofs.Ytkmbhgbmdeoppab
open Go.RowKit

abbrev Wn := Int × Int
/-- Is a want one? -/
def okW (w : Wn) : Bool := if w.1 = -1 then decide (0 ≤ w.2 ∧ w.2 ≤ 99999) else (decide (0 ≤ w.1 ∧ w.1 ≤ 99999) && (decide (w.2 = -1) || decide (w.1 ≤ w.2 ∧ w.2 ≤ 99999)))
def chkW (l : List Wn) : Int := if l.all okW = false then 1 else if l.length = 0 then 1 else if 20 < l.length then 2 else 0
def sgn (n : Int) : List UInt8 := if n < 0 then [] else Lib.decDigits n.toNat
def prW (w : Wn) : List UInt8 := sgn w.1 ++ 45 :: sgn w.2
theorem okW_is {w : Wn} (h : okW w = true) : -1 ≤ w.1 ∧ w.1 ≤ 99999 ∧ -1 ≤ w.2 ∧ w.2 ≤ 99999 ∧ (w.1 = -1 → 0 ≤ w.2) ∧ (w.1 ≠ -1 → 0 ≤ w.1 ∧ (w.2 = -1 ∨ w.1 ≤ w.2)) := by
  unfold okW at h
  split at h
  · simp at h; omega
  · simp at h; omega
theorem okW_of {w : Wn} (h : (w.1 = -1 ∧ 0 ≤ w.2 ∧ w.2 ≤ 99999) ∨ (0 ≤ w.1 ∧ w.1 ≤ 99999 ∧ (w.2 = -1 ∨ (w.1 ≤ w.2 ∧ w.2 ≤ 99999)))) : okW w = true := by
  unfold okW
  split
  · simp; omega
  · simp; omega
theorem sgn_neg {n : Int} (h : n < 0) : sgn n = [] := by unfold sgn; rw [if_pos h]
theorem sgn_pos {n : Int} (h : 0 ≤ n) : sgn n = Lib.decDigits n.toNat := by unfold sgn; rw [if_neg (by omega)]
theorem sgn_dig (n : Int) : (sgn n).all isDig = true := by
  unfold sgn; split
  · rfl
  · exact dec_all _
theorem dec_len5 (u : Nat) (h : u ≤ 99999) : (Lib.decDigits u).length ≤ 5 := by
  rw [Lib.decDigits_length]
  rw [Lib.nDigits]; split
  · omega
  · rw [Lib.nDigits]; split
    · omega
    · rw [Lib.nDigits]; split
      · omega
      · rw [Lib.nDigits]; split
        · omega
        · rw [Lib.nDigits]; split <;> omega
theorem cnt_dec5 (u : Nat) (h : u ≤ 99999) : cnt (Lib.decDigits u) 99999 = u := by
  have hl := dec_len5 u h
  unfold cnt
  rw [if_neg, if_neg (by rw [numb_dec]; omega), numb_dec]
  rintro (h1 | h1 | ⟨h1, h2⟩ | h1)
  · exact dec_ne u (List.eq_nil_of_length_eq_zero h1)
  · omega
  · by_cases h0 : 1 ≤ u
    · exact dec_head u h0 h2
    · obtain rfl : u = 0 := by omega
      rw [Lib.decDigits_one (by omega)] at h1; simp at h1
  · rw [dec_all] at h1; cases h1
theorem cnt_sgn {n : Int} (h1 : -1 ≤ n) (h2 : n ≤ 99999) : cnt (sgn n) 99999 = n := by
  by_cases h : n < 0
  · rw [sgn_neg h]
    unfold cnt
    rw [if_pos (.inl rfl)]; omega
  · rw [sgn_pos (by omega), cnt_dec5 _ (by omega)]; omega
theorem sgn_no (n : Int) (d : UInt8) (hd : isDig d = false) : ∀ b ∈ sgn n, b ≠ d := by
  intro b hb e
  subst e
  have := List.all_eq_true.1 (sgn_dig n) b hb
  rw [hd] at this; cases this
theorem sgn_len {n : Int} (h : n ≤ 99999) : (sgn n).length ≤ 5 := by
  unfold sgn; split
  · simp
  · exact dec_len5 _ (by omega)
theorem prW_len {w : Wn} (h : okW w = true) : (prW w).length ≤ 11 := by
  obtain ⟨h1, h2, h3, h4, _⟩ := okW_is h
  have a := sgn_len h2
  have b := sgn_len h4
  unfold prW
  rw [List.length_append, List.length_cons]; omega
theorem prW_index (w : Wn) : Lib.index (prW w) [45] = ((sgn w.1).length : Int) := index_byte_at 45 _ _ (sgn_no w.1 45 (by decide))
/-- One want, read as the document's answer reads it. -/
def paW (t : List UInt8) : Option Wn :=
  if Lib.index t [45] < 0 then none
  else if okW (cnt (t.take (Lib.index t [45]).toNat) 99999, cnt (t.drop ((Lib.index t [45]).toNat + 1)) 99999) = true ∧ prW (cnt (t.take (Lib.index t [45]).toNat) 99999, cnt (t.drop ((Lib.index t [45]).toNat + 1)) 99999) = t then
    some (cnt (t.take (Lib.index t [45]).toNat) 99999, cnt (t.drop ((Lib.index t [45]).toNat + 1)) 99999)
  else none
theorem paW_back {w : Wn} (h : okW w = true) : paW (prW w) = some w := by
  obtain ⟨h1, h2, h3, h4, _⟩ := okW_is h
  have e1 : (prW w).take (sgn w.1).length = sgn w.1 := by unfold prW; simp
  have e2 : (prW w).drop ((sgn w.1).length + 1) = sgn w.2 := by unfold prW; simp
  unfold paW
  rw [prW_index, if_neg (by omega)]
  simp only [Int.toNat_natCast, e1, e2, cnt_sgn h1 h2, cnt_sgn h3 h4]
  rw [if_pos ⟨h, trivial⟩]
theorem paW_some {t : List UInt8} {w : Wn} (h : paW t = some w) : okW w = true ∧ prW w = t := by
  unfold paW at h
  split at h
  · cases h
  · split at h
    · rename_i h2
      cases h
      exact h2
    · cases h
theorem paW_iff (t : List UInt8) (w : Wn) : paW t = some w ↔ okW w = true ∧ prW w = t :=
  ⟨paW_some, fun ⟨h, e⟩ => by rw [← e]; exact paW_back h⟩
theorem paW_none {t : List UInt8} (h : paW t = none) {w : Wn} (hw : okW w = true) : prW w ≠ t := by
  intro e
  rw [(paW_iff t w).2 ⟨hw, e⟩] at h; cases h
def wns (ws : List Wn) : List Value := ws.flatMap fun w => [Value.int .i64 w.1, Value.int .i64 w.2]
theorem wns_snoc (ws : List Wn) (w : Wn) : wns ws ++ [Value.int .i64 w.1, Value.int .i64 w.2] = wns (ws ++ [w]) := by simp [wns]
theorem wns_app (a b : List Wn) : wns (a ++ b) = wns a ++ wns b := by simp [wns]
theorem wns_length (ws : List Wn) : (wns ws).length = ws.length * 2 := by
  induction ws with
  | nil => rfl
  | cons t ts ih =>
    have : wns (t :: ts) = [Value.int .i64 t.1, Value.int .i64 t.2] ++ wns ts := by simp [wns]
    rw [this, List.length_append, ih, List.length_cons]; simp; omega
theorem wns_get (ts : List Wn) : ∀ (k : Nat) (h : k < ts.length), (wns ts)[k * 2]? = some (.int .i64 (ts[k]).1) ∧ (wns ts)[k * 2 + 1]? = some (.int .i64 (ts[k]).2) := by
  induction ts with
  | nil => intro k h; simp at h
  | cons t ts ih =>
    intro k h
    have he : wns (t :: ts) = Value.int .i64 t.1 :: Value.int .i64 t.2 :: wns ts := by simp [wns]
    cases k with
    | zero => rw [he]; exact ⟨rfl, rfl⟩
    | succ k =>
      have := ih k (by simpa using h)
      rw [he, show (k + 1) * 2 = k * 2 + 2 by omega]
      simpa using this
theorem wns_one (ts : List Wn) : ∀ u ∈ wns ts, u.oneCell' = true := by
  intro u hu
  unfold wns at hu
  obtain ⟨x, _, hx⟩ := List.mem_flatMap.1 hu
  simp at hx
  rcases hx with rfl | rfl <;> rfl
theorem idx_one_is (l : List UInt8) (c : UInt8) : Lib.indexByte l c = -1 ∨ ∃ k : Nat, Lib.indexByte l c = k ∧ k < l.length := by
  rw [← Lib.index_one]
  rcases index_two' l [c] with h | ⟨k, h1, h2⟩
  · exact .inl h
  · exact .inr ⟨k, h1, by simp at h2; omega⟩
end Go.Proofs.Ytkmbhgbmdeoppab
