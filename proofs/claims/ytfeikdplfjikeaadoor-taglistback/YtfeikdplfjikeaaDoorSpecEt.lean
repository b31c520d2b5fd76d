/-
  Entity tags in plain lists: what Print and Parse tell; no program is named here.
-/
import Derived.Test.YtfeikdplfjikeaaDoorSpecQ
namespace Go.Proofs.YtfeikdplfjikeaaDoor
open Go.RowKit

abbrev Tg := Bool × List UInt8
def etB (c : UInt8) : Bool := c == 33 || (decide (35 ≤ c) && decide (c ≤ 126))
def prG (t : Tg) : List UInt8 := (if t.1 = true then [87, 47] else []) ++ (34 :: (t.2 ++ [34]))
def prE (t : Tg) : List UInt8 × Int := if 100 < t.2.length then ([], 2) else if t.2.all etB = true then (prG t, 0) else ([], 3)
def weakB (s : List UInt8) : Bool := Lib.hasPrefix s [87, 47]
def restE (s : List UInt8) : List UInt8 := if weakB s = true then s.drop 2 else s
def textE (r : List UInt8) : List UInt8 := if 1 < r.length then (r.drop 1).take (r.length - 2) else []
def candE (s : List UInt8) : Tg := (weakB s, textE (restE s))
def paE (s : List UInt8) : Tg × Int := if prE (candE s) = (s, 0) then (candE s, 0) else ((false, []), 3)
theorem prE_ok (t : Tg) (h : (prE t).2 = 0) : prE t = (prG t, 0) ∧ t.2.length ≤ 100 ∧ t.2.all etB = true := by
  unfold prE at h ⊢
  by_cases h1 : 100 < t.2.length
  · rw [if_pos h1] at h; cases h
  · rw [if_neg h1] at h ⊢
    cases h2 : t.2.all etB
    · rw [h2] at h; cases h
    · exact ⟨rfl, by omega, rfl⟩
theorem prE_bad (t : Tg) (h : (prE t).2 ≠ 0) : (prE t).1 = [] := by
  unfold prE at h ⊢
  by_cases h1 : 100 < t.2.length
  · rw [if_pos h1]
  · rw [if_neg h1] at h ⊢
    cases h2 : t.2.all etB
    · rfl
    · rw [h2] at h; exact absurd rfl h
theorem prG_len (t : Tg) : (prG t).length = t.2.length + 2 + if t.1 = true then 2 else 0 := by
  unfold prG
  cases t.1 <;> simp <;> omega
theorem weak_prG (t : Tg) : weakB (prG t) = t.1 := by
  obtain ⟨w, x⟩ := t
  cases w
  · show Lib.hasPrefix (34 :: _) [87, 47] = false; rfl
  · show Lib.hasPrefix (87 :: 47 :: _) [87, 47] = true; rfl
theorem cand_prG (t : Tg) : candE (prG t) = t := by
  have hw := weak_prG t
  have hr : restE (prG t) = 34 :: (t.2 ++ [34]) := by
    unfold restE
    rw [hw]
    obtain ⟨w, x⟩ := t
    cases w <;> rfl
  unfold candE
  rw [hw, hr]
  have : textE (34 :: (t.2 ++ [34])) = t.2 := by
    unfold textE
    simp
  rw [this]
/-- What was printed is read as it was. -/
theorem paE_back (t : Tg) (h : (prE t).2 = 0) : paE (prE t).1 = (t, 0) := by
  obtain ⟨h1, _, _⟩ := prE_ok t h
  rw [h1]
  show paE (prG t) = _
  unfold paE
  rw [cand_prG, if_pos h1]
/-- What was read is printed as it was. -/
theorem paE_print (s : List UInt8) (h : (paE s).2 = 0) : prE (paE s).1 = (s, 0) := by
  unfold paE at h ⊢
  by_cases h1 : prE (candE s) = (s, 0)
  · rw [if_pos h1]; exact h1
  · rw [if_neg h1] at h; cases h
theorem paE_cases (s : List UInt8) : (∃ t, paE s = (t, 0) ∧ s = prG t ∧ t.2.length ≤ 100 ∧ t.2.all etB = true) ∨ paE s = ((false, []), 3) := by
  by_cases h1 : prE (candE s) = (s, 0)
  · left
    obtain ⟨h2, h3, h4⟩ := prE_ok (candE s) (by rw [h1])
    refine ⟨candE s, by unfold paE; rw [if_pos h1], ?_, h3, h4⟩
    rw [h1] at h2; exact (Prod.mk.inj h2).1
  · right; unfold paE; rw [if_neg h1]
/-- The pieces between commas that are not within quotes. -/
structure QC where
  ps : List (List UInt8)
  cur : List UInt8
  q : Bool
def qstep (x : QC) (c : UInt8) : QC := if c = 44 ∧ x.q = false then ⟨x.ps ++ [x.cur], [], x.q⟩ else ⟨x.ps, x.cur ++ [c], if c = 34 then !x.q else x.q⟩
def qcut (l : List UInt8) : QC := l.foldl qstep ⟨[], [], false⟩
def qps (l : List UInt8) : List (List UInt8) := (qcut l).ps ++ [(qcut l).cur]
theorem qcut_snoc (l : List UInt8) (c : UInt8) : qcut (l ++ [c]) = qstep (qcut l) c := by simp [qcut]
theorem qcut_len (l : List UInt8) : (qcut l).ps.length + (qcut l).cur.length ≤ l.length ∧ ∀ p ∈ (qcut l).ps, p.length ≤ l.length := by
  have gen : ∀ (l : List UInt8) (x : QC) (n : Nat), x.ps.length + x.cur.length ≤ n → (∀ p ∈ x.ps, p.length ≤ n) → (l.foldl qstep x).ps.length + (l.foldl qstep x).cur.length ≤ n + l.length ∧ ∀ p ∈ (l.foldl qstep x).ps, p.length ≤ n + l.length := by
    intro l
    induction l with
    | nil => intro x n h h2; exact ⟨h, h2⟩
    | cons c l ih =>
      intro x n h h2
      rw [List.foldl_cons, List.length_cons]
      have hq : (qstep x c).ps.length + (qstep x c).cur.length ≤ n + 1 ∧ ∀ p ∈ (qstep x c).ps, p.length ≤ n + 1 := by
        unfold qstep
        split
        · refine ⟨by simp; omega, fun p hp => ?_⟩
          rcases List.mem_append.1 hp with hp | hp
          · have := h2 p hp; omega
          · rw [List.mem_singleton.1 hp]; omega
        · exact ⟨by simp; omega, fun p hp => by have := h2 p hp; omega⟩
      have := ih (qstep x c) (n + 1) hq.1 hq.2
      rw [show n + (l.length + 1) = n + 1 + l.length by omega]; exact this
  have := gen l ⟨[], [], false⟩ 0 (Nat.le_refl _) (fun p hp => by cases hp)
  rw [Nat.zero_add] at this; exact this
end Go.Proofs.YtfeikdplfjikeaaDoor
