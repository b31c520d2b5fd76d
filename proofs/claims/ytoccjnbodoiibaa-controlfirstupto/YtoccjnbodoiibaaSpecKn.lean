/-
  The number that digits tell, held down at 2^31, and the first directive of a name, in plain lists; no program is named here.
-/
import Derived.Test.YtoccjnbodoiibaaSpecCn
import Derived.Test.YtoccjnbodoiibaaSpecDl
namespace Go.Proofs.Ytoccjnbodoiibaa
open Go.RowKit

def stepK (n : Int) (c : UInt8) : Int := min (n * 10 + ((c.toNat : Int) - 48)) 2147483648
def runK (l : List UInt8) : Int := l.foldl stepK 0
def numK (l : List UInt8) : Int := if l.all isDig = true then runK l else 0
theorem runK_snoc (l : List UInt8) (c : UInt8) : runK (l ++ [c]) = stepK (runK l) c := by simp [runK]
theorem runK_in (l : List UInt8) (h : l.all isDig = true) : 0 ≤ runK l ∧ runK l ≤ 2147483648 := by
  have gen : ∀ (l : List UInt8) (a : Int), l.all isDig = true → 0 ≤ a → a ≤ 2147483648 → 0 ≤ l.foldl stepK a ∧ l.foldl stepK a ≤ 2147483648 := by
    intro l
    induction l with
    | nil => intro a _ h1 h2; exact ⟨h1, h2⟩
    | cons c l ih =>
      intro a h h1 h2
      rw [List.all_cons, Bool.and_eq_true] at h
      have hc := (dig_iff c).1 h.1
      rw [List.foldl_cons]
      apply ih _ h.2
      · unfold stepK; omega
      · unfold stepK; omega
  exact gen l 0 h (Int.le_refl _) (by omega)
theorem numK_in (l : List UInt8) : 0 ≤ numK l ∧ numK l ≤ 2147483648 := by
  unfold numK
  split
  · rename_i h; exact runK_in l h
  · omega
theorem numK_yes (l : List UInt8) (h : l.all isDig = true) : numK l = runK l := by unfold numK; rw [if_pos h]
theorem numK_no (l : List UInt8) (h : l.all isDig = false) : numK l = 0 := by unfold numK; rw [if_neg (by rw [h]; simp)]
def isNm (n : List UInt8) (x : List UInt8 × Bool × List UInt8) : Bool := x.1 == n
/-- What Seconds answers. -/
def secK (ds : List (List UInt8 × Bool × List UInt8)) (n : List UInt8) : Int × Bool := match ds.find? (isNm n) with | some d => (numK d.2.2, true) | none => (0, false)
theorem find_first (ds : List (List UInt8 × Bool × List UInt8)) (p : List UInt8 × Bool × List UInt8 → Bool) (k : Nat) (h : k < ds.length) (h0 : (ds.take k).any p = false) (h1 : p ds[k] = true) : ds.find? p = some ds[k] := by
  have e : ds = ds.take k ++ ds[k] :: ds.drop (k + 1) := by rw [← List.drop_eq_getElem_cons h, List.take_append_drop]
  have hn : (ds.take k).find? p = none := by
    rw [List.find?_eq_none]
    intro x hx
    rw [List.any_eq_false] at h0
    exact h0 x hx
  have e2 : (ds.take k ++ ds[k] :: ds.drop (k + 1)).find? p = some ds[k] := by
    rw [List.find?_append, hn, List.find?_cons, h1]; rfl
  rw [← e] at e2
  exact e2
theorem find_none (ds : List (List UInt8 × Bool × List UInt8)) (p : List UInt8 × Bool × List UInt8 → Bool) (h0 : ds.any p = false) : ds.find? p = none := by
  rw [List.find?_eq_none]
  intro x hx
  rw [List.any_eq_false] at h0
  exact h0 x hx
theorem secK_at (ds : List (List UInt8 × Bool × List UInt8)) (n : List UInt8) (k : Nat) (h : k < ds.length) (h0 : (ds.take k).any (isNm n) = false) (h1 : isNm n ds[k] = true) : secK ds n = (numK (ds[k]).2.2, true) := by
  unfold secK; rw [find_first ds _ k h h0 h1]
theorem secK_no (ds : List (List UInt8 × Bool × List UInt8)) (n : List UInt8) (h : ds.any (isNm n) = false) : secK ds n = (0, false) := by
  unfold secK; rw [find_none ds _ h]
theorem secK_in (ds : List (List UInt8 × Bool × List UInt8)) (n : List UInt8) : 0 ≤ (secK ds n).1 ∧ (secK ds n).1 ≤ 2147483648 := by
  unfold secK
  split
  · exact numK_in _
  · omega
theorem secK_any (ds : List (List UInt8 × Bool × List UInt8)) (n : List UInt8) : (secK ds n).2 = ds.any (isNm n) := by
  unfold secK
  cases h : ds.find? (isNm n) with
  | none =>
    rw [List.find?_eq_none] at h
    simp only
    symm
    rw [List.any_eq_false]
    exact h
  | some x =>
    simp only
    symm
    rw [List.any_eq_true]
    exact ⟨x, List.mem_of_find?_eq_some h, List.find?_some h⟩
/-- Two lists, one behind the other: the first one counts. -/
theorem secK_app (a b : List (List UInt8 × Bool × List UInt8)) (n : List UInt8) : secK (a ++ b) n = if (secK a n).2 = true then secK a n else secK b n := by
  unfold secK
  rw [List.find?_append]
  cases h : a.find? (isNm n) <;> simp
theorem any_snoc (ds : List (List UInt8 × Bool × List UInt8)) (p : List UInt8 × Bool × List UInt8 → Bool) (k : Nat) (h : k < ds.length) (h0 : (ds.take k).any p = false) (h1 : p ds[k] = false) : (ds.take (k + 1)).any p = false := by
  rw [List.take_succ_eq_append_getElem h, List.any_append, h0, List.any_cons, h1]; rfl
end Go.Proofs.Ytoccjnbodoiibaa
