/-
  The calendar in plain numbers: leap years, months, how many days are ahead of a year and of a month; days and their numbers, one for one. No program is named here.
-/
import Derived.Test.YtoccjnbodoiibaaSpec
namespace Go.Proofs.Ytoccjnbodoiibaa
open Go.RowKit

def lp (y : Int) : Int := if y % 4 = 0 ∧ (y % 100 ≠ 0 ∨ y % 400 = 0) then 1 else 0
def lpB (y : Int) : Bool := lp y == 1
def dim (y m : Int) : Int := if m = 2 then 28 + lp y else if m = 4 ∨ m = 6 ∨ m = 9 ∨ m = 11 then 30 else 31
def dby (y : Int) : Int := (y - 1970) * 365 + ((y - 1) / 4 - (y - 1) / 100 + (y - 1) / 400) - 477
def cum (y m : Int) : Int :=
  if m ≤ 1 then 0 else if m = 2 then 31 else if m = 3 then 59 + lp y else if m = 4 then 90 + lp y else if m = 5 then 120 + lp y
  else if m = 6 then 151 + lp y else if m = 7 then 181 + lp y else if m = 8 then 212 + lp y else if m = 9 then 243 + lp y
  else if m = 10 then 273 + lp y else if m = 11 then 304 + lp y else if m = 12 then 334 + lp y else 365 + lp y
def num (y m d : Int) : Int := dby y + cum y m + d - 1
def vldB (y m d : Int) : Bool := decide (1970 ≤ y ∧ y ≤ 9999 ∧ 1 ≤ m ∧ m ≤ 12 ∧ 1 ≤ d ∧ d ≤ dim y m)

theorem vld_iff {y m d : Int} : vldB y m d = true ↔ 1970 ≤ y ∧ y ≤ 9999 ∧ 1 ≤ m ∧ m ≤ 12 ∧ 1 ≤ d ∧ d ≤ dim y m := by unfold vldB; simp
theorem vld_mk {y m d : Int} (h : 1970 ≤ y ∧ y ≤ 9999 ∧ 1 ≤ m ∧ m ≤ 12 ∧ 1 ≤ d ∧ d ≤ dim y m) : vldB y m d = true := vld_iff.2 h
theorem vld_no {y m d : Int} (h : ¬ (1970 ≤ y ∧ y ≤ 9999 ∧ 1 ≤ m ∧ m ≤ 12 ∧ 1 ≤ d ∧ d ≤ dim y m)) : vldB y m d = false := by unfold vldB; simpa using h

theorem lp_01 (y : Int) : 0 ≤ lp y ∧ lp y ≤ 1 := by unfold lp; split <;> omega
theorem lp_or (y : Int) : lp y = 0 ∨ lp y = 1 := by unfold lp; split <;> simp
theorem dim_lo (y m : Int) : 28 ≤ dim y m ∧ dim y m ≤ 31 := by
  have := lp_01 y
  unfold dim; split <;> (try split) <;> omega
theorem dby_succ (y : Int) : dby (y + 1) = dby y + 365 + lp y := by
  unfold dby lp; split <;> omega
theorem dby_mono (a b : Int) (h : a ≤ b) : dby a ≤ dby b := by unfold dby; omega
theorem dby_bd (a : Int) (h0 : 1970 ≤ a) (h : a ≤ 10000) : 0 ≤ dby a ∧ dby a ≤ 2932897 := by unfold dby; omega
theorem dby_0 : dby 1970 = 0 := by decide
theorem dby_max : dby 10000 = 2932897 := by decide
theorem dby_guess (n : Int) (h : 0 ≤ n) : dby (1970 + n / 366) ≤ n := by unfold dby; omega
theorem dby_400 (y : Int) : dby (y + 400) = dby y + 146097 := by unfold dby; omega
theorem lp_400 (y : Int) : lp (y + 400) = lp y := by unfold lp; split <;> split <;> omega
theorem dim_400 (y m : Int) : dim (y + 400) m = dim y m := by unfold dim; rw [lp_400]
theorem cum_400 (y m : Int) : cum (y + 400) m = cum y m := by unfold cum; rw [lp_400]

theorem m12 {m : Int} (h1 : 1 ≤ m) (h2 : m ≤ 12) : m = 1 ∨ m = 2 ∨ m = 3 ∨ m = 4 ∨ m = 5 ∨ m = 6 ∨ m = 7 ∨ m = 8 ∨ m = 9 ∨ m = 10 ∨ m = 11 ∨ m = 12 := by omega

theorem cum_succ (y m : Int) (h1 : 1 ≤ m) (h2 : m ≤ 12) : cum y (m + 1) = cum y m + dim y m := by
  rcases m12 h1 h2 with rfl | rfl | rfl | rfl | rfl | rfl | rfl | rfl | rfl | rfl | rfl | rfl <;> simp [cum, dim] <;> omega
theorem cum_one (y : Int) : cum y 1 = 0 := by simp [cum]
theorem cum_13 (y : Int) : cum y 13 = 365 + lp y := by simp [cum]
theorem cum_bd (y m : Int) : 0 ≤ cum y m ∧ cum y m ≤ 366 := by
  have := lp_01 y
  unfold cum
  repeat (first | omega | split)
theorem cum_mono (y a b : Int) (h1 : 1 ≤ a) (h2 : a < b) (h3 : b ≤ 13) : cum y a + dim y a ≤ cum y b := by
  have := lp_01 y
  rcases m12 h1 (show a ≤ 12 by omega) with rfl | rfl | rfl | rfl | rfl | rfl | rfl | rfl | rfl | rfl | rfl | rfl
  all_goals
    rcases (show b = 2 ∨ b = 3 ∨ b = 4 ∨ b = 5 ∨ b = 6 ∨ b = 7 ∨ b = 8 ∨ b = 9 ∨ b = 10 ∨ b = 11 ∨ b = 12 ∨ b = 13 by omega) with rfl | rfl | rfl | rfl | rfl | rfl | rfl | rfl | rfl | rfl | rfl | rfl
    all_goals first | omega | (simp [cum, dim] <;> omega)

theorem num_lo {y m d : Int} (h : vldB y m d = true) : dby y ≤ num y m d ∧ num y m d < dby (y + 1) := by
  obtain ⟨a, b, c, e, f, g⟩ := vld_iff.1 h
  have h1 := cum_bd y m
  have h2 := cum_succ y m c e
  have h3 : cum y (m + 1) ≤ cum y 13 := by
    by_cases hm : m = 12
    · subst hm; exact Int.le_refl _
    · have := cum_mono y (m + 1) 13 (by omega) (by omega) (by omega)
      have := dim_lo y (m + 1); omega
  have h4 := dby_succ y
  rw [cum_13] at h3
  unfold num; omega
theorem num_bd {y m d : Int} (h : vldB y m d = true) : 0 ≤ num y m d ∧ num y m d ≤ 2932896 := by
  obtain ⟨a, b, _⟩ := vld_iff.1 h
  have h1 := num_lo h
  have h2 := dby_bd y a (by omega)
  have h3 := dby_mono (y + 1) 10000 (by omega)
  rw [dby_max] at h3; omega

theorem num_lt {y m d z k c : Int} (h : vldB y m d = true) (h' : vldB z k c = true) (hl : y < z ∨ y = z ∧ (m < k ∨ m = k ∧ d < c)) : num y m d < num z k c := by
  rcases hl with hl | ⟨rfl, hl | ⟨rfl, hl⟩⟩
  · have := num_lo h
    have := num_lo h'
    have := dby_mono (y + 1) z (by omega)
    omega
  · obtain ⟨a, b, c, e, f, g⟩ := vld_iff.1 h
    obtain ⟨a', b', c', e', f', g'⟩ := vld_iff.1 h'
    have := cum_mono y m k c hl (by omega)
    unfold num; omega
  · unfold num; omega
theorem num_order {y m d z k c : Int} (h : vldB y m d = true) (h' : vldB z k c = true) : num y m d < num z k c ↔ y < z ∨ y = z ∧ (m < k ∨ m = k ∧ d < c) := by
  refine ⟨fun hl => ?_, num_lt h h'⟩
  by_cases g : y < z ∨ y = z ∧ (m < k ∨ m = k ∧ d < c)
  · exact g
  · rcases (show z < y ∨ z = y ∧ (k < m ∨ k = m ∧ c < d) ∨ (y = z ∧ m = k ∧ d = c) by omega) with g' | g' | ⟨rfl, rfl, rfl⟩
    · have := num_lt h' h (.inl g'); omega
    · have := num_lt h' h (.inr g'); omega
    · omega
theorem num_inj {y m d z k c : Int} (h : vldB y m d = true) (h' : vldB z k c = true) (e : num y m d = num z k c) : y = z ∧ m = k ∧ d = c := by
  have a := (num_order h h').2
  have b := (num_order h' h).2
  rcases (show (y < z ∨ y = z ∧ (m < k ∨ m = k ∧ d < c)) ∨ (z < y ∨ z = y ∧ (k < m ∨ k = m ∧ c < d)) ∨ (y = z ∧ m = k ∧ d = c) by omega) with g | g | g
  · have := a g; omega
  · have := b g; omega
  · exact g
theorem num_400 (y m d : Int) : num (y + 400) m d = num y m d + 146097 := by
  unfold num; rw [dby_400, cum_400]; omega
theorem vld_400 (y m d : Int) (h : vldB y m d = true) (h' : y ≤ 9599) : vldB (y + 400) m d = true := by
  have := vld_iff.1 h
  refine vld_mk ?_
  rw [dim_400]; omega
theorem vld_400' (y m d : Int) (h : vldB (y + 400) m d = true) (h' : 1970 ≤ y) : vldB y m d = true := by
  have := vld_iff.1 h
  rw [dim_400] at this
  exact vld_mk (by omega)

theorem num_of (n y k : Int) : num y k (n - dby y - cum y k + 1) = n := by unfold num; omega
theorem vld_of (n y k : Int) (a : 1970 ≤ y) (b : y ≤ 9999) (c : 1 ≤ k) (d : k ≤ 12) (e : 0 ≤ n - dby y - cum y k) (f : n - dby y - cum y k < dim y k) : vldB y k (n - dby y - cum y k + 1) = true :=
  vld_mk (by omega)

/-- the day behind a day -/
theorem num_next {y m d z k c : Int} (h : vldB y m d = true) (h' : vldB z k c = true) (e : num z k c = num y m d + 1) :
    (z = y ∧ k = m ∧ c = d + 1 ∧ c ≤ 31) ∨ (z = y ∧ k = m + 1 ∧ c = 1 ∧ 28 ≤ d ∧ d ≤ 31) ∨ (z = y + 1 ∧ m = 12 ∧ k = 1 ∧ c = 1 ∧ 28 ≤ d ∧ d ≤ 31) := by
  obtain ⟨a1, a2, a3, a4, a5, a6⟩ := vld_iff.1 h
  have hd := dim_lo y m
  have b := vld_iff.1 h'
  by_cases h1 : d < dim y m
  · have hv : vldB y m (d + 1) = true := vld_mk (by omega)
    have := num_inj h' hv (by rw [e]; unfold num; omega)
    left; omega
  · by_cases h2 : m = 12
    · subst h2
      have hy : y < 9999 := by
        by_cases hy : y < 9999
        · exact hy
        · have hb := num_bd h'
          obtain rfl : y = 9999 := by omega
          rw [e] at hb
          have h3 : dim 9999 12 = 31 := by decide
          obtain rfl : d = 31 := by omega
          have h4 : num 9999 12 31 = 2932896 := by decide
          rw [h4] at hb; omega
      have hdd := dim_lo (y + 1) 1
      have hv : vldB (y + 1) 1 1 = true := vld_mk (by omega)
      have h4 := dby_succ y
      have h5 : cum y 12 = 334 + lp y := by simp [cum]
      have h6 : dim y 12 = 31 := by simp [dim]
      have := num_inj h' hv (by rw [e]; unfold num; rw [cum_one]; omega)
      right; right; omega
    · have hdd := dim_lo y (m + 1)
      have hv : vldB y (m + 1) 1 = true := vld_mk (by omega)
      have hc := cum_succ y m a3 a4
      have := num_inj h' hv (by rw [e]; unfold num; omega)
      right; left; omega
end Go.Proofs.Ytoccjnbodoiibaa
