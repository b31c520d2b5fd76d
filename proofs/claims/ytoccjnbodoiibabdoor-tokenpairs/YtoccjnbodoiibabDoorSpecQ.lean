/-
  Plain functions on lists of bytes: what may stand between two quotes, and what is read of it; no program is named here.
-/
import Derived.Test.YtoccjnbodoiibabDoorSpec
namespace Go.Proofs.YtoccjnbodoiibabDoor
open Go.RowKit

def plainB (c : UInt8) : Bool := (32 ≤ c && c ≤ 126) || c == 9

def ustep : Option (List UInt8 × Bool) → UInt8 → Option (List UInt8 × Bool)
  | none, _ => none
  | some (acc, true), c => if plainB c = true then some (acc ++ [c], false) else none
  | some (acc, false), c => if plainB c = true then (if c = 34 then none else if c = 92 then some (acc, true) else some (acc ++ [c], false)) else none

def unesc (l : List UInt8) : Option (List UInt8 × Bool) := l.foldl ustep (some ([], false))
def unescT (l : List UInt8) : List UInt8 := match unesc l with | some (acc, _) => acc | none => []
def unescOk (l : List UInt8) : Bool := match unesc l with | some (_, c) => !c | none => false

theorem unesc_snoc (l : List UInt8) (c : UInt8) : unesc (l ++ [c]) = ustep (unesc l) c := by simp [unesc]

theorem ustep_none (l : List UInt8) : l.foldl ustep none = none := by
  induction l with
  | nil => rfl
  | cons a l ih => rw [List.foldl_cons]; exact ih

theorem split_at (s : ByteArray) (k : Nat) (h : k < s.size) : s.data.toList = s.data.toList.take k ++ s[k] :: s.data.toList.drop (k + 1) := by
  have h' : k < s.data.toList.length := by rw [size_list]; exact h
  have e : s.data.toList.drop k = s[k] :: s.data.toList.drop (k + 1) := by
    rw [List.drop_eq_getElem_cons h']; rfl
  rw [← e, List.take_append_drop]

theorem unesc_dead (s : ByteArray) (k : Nat) (h : k < s.size) (x : Option (List UInt8 × Bool)) (hx : unesc (s.data.toList.take k) = x) (hd : ustep x s[k] = none) : unesc s.data.toList = none := by
  rw [split_at s k h]
  unfold unesc at hx ⊢
  rw [List.foldl_append, hx, List.foldl_cons, hd, ustep_none]

theorem ustep_bad (x : Option (List UInt8 × Bool)) (c : UInt8) (h : plainB c = false) : ustep x c = none := by
  rcases x with _ | ⟨acc, b⟩
  · rfl
  · cases b <;> simp [ustep, h]
theorem ustep_took (acc : List UInt8) (c : UInt8) (h : plainB c = true) : ustep (some (acc, true)) c = some (acc ++ [c], false) := by simp [ustep, h]
theorem ustep_quote (acc : List UInt8) (c : UInt8) (hc : c = 34) : ustep (some (acc, false)) c = none := by
  subst hc; rfl
theorem ustep_back (acc : List UInt8) (c : UInt8) (hc : c = 92) : ustep (some (acc, false)) c = some (acc, true) := by
  subst hc; rfl
theorem ustep_else (acc : List UInt8) (c : UInt8) (h : plainB c = true) (h1 : c ≠ 34) (h2 : c ≠ 92) : ustep (some (acc, false)) c = some (acc ++ [c], false) := by simp [ustep, h, h1, h2]

theorem unesc_len (l : List UInt8) : ∀ acc b, unesc l = some (acc, b) → acc.length ≤ l.length := by
  have gen : ∀ (l : List UInt8) (a0 : List UInt8) (b0 : Bool) acc b, l.foldl ustep (some (a0, b0)) = some (acc, b) → acc.length ≤ a0.length + l.length := by
    intro l
    induction l with
    | nil => intro a0 b0 acc b h; simp at h; obtain ⟨rfl, _⟩ := h; simp
    | cons c l ih =>
      intro a0 b0 acc b h
      rw [List.foldl_cons] at h
      cases hu : ustep (some (a0, b0)) c with
      | none => rw [hu, ustep_none] at h; cases h
      | some y =>
        obtain ⟨a1, b1⟩ := y
        rw [hu] at h
        have h1 := ih a1 b1 acc b h
        have h2 : a1.length ≤ a0.length + 1 := by
          cases b0 <;> simp only [ustep] at hu <;> (repeat' split at hu) <;> simp at hu <;> obtain ⟨rfl, _⟩ := hu <;> simp
        simp only [List.length_cons]
        omega
  intro acc b h
  have := gen l [] false acc b h
  simpa using this

theorem ne_of_int (c d : UInt8) (h : (c.toNat : Int) ≠ (d.toNat : Int)) : c ≠ d := fun e => h (by rw [e])
theorem eq_of_int (c d : UInt8) (h : (c.toNat : Int) = (d.toNat : Int)) : c = d := UInt8.toNat.inj (by omega)

theorem plainB_iff (c : UInt8) : plainB c = decide ((32 ≤ (c.toNat : Int) ∧ (c.toNat : Int) ≤ 126) ∨ (c.toNat : Int) = 9) := by
  have h9 : (c == 9) = decide ((c.toNat : Int) = 9) := by
    rw [Bool.eq_iff_iff]; simp
    constructor
    · rintro rfl; rfl
    · intro h; exact eq_of_int c 9 (by simpa using h)
  unfold plainB
  rw [h9, Bool.eq_iff_iff]
  simp [UInt8.le_iff_toNat_le]
  omega
def allPlain (l : List UInt8) : Bool := l.all plainB

theorem allPlain_dead (s : ByteArray) (k : Nat) (h : k < s.size) (hp : plainB s[k] = false) : allPlain s.data.toList = false := all_false s plainB k h hp
theorem allPlain_snoc (l : List UInt8) (c : UInt8) (h : allPlain l = true) (hc : plainB c = true) : allPlain (l ++ [c]) = true := by
  unfold allPlain at *; rw [List.all_append, h]; simp [hc]

def esc1 (c : UInt8) : List UInt8 := if c = 34 ∨ c = 92 then [92, c] else [c]
def esc (l : List UInt8) : List UInt8 := l.flatMap esc1
def qt (l : List UInt8) : List UInt8 × Int := if 1000 < l.length then ([], 2) else if allPlain l = true then (34 :: (esc l ++ [34]), 0) else ([], 3)

theorem esc_snoc (l : List UInt8) (c : UInt8) : esc (l ++ [c]) = esc l ++ esc1 c := by simp [esc]
theorem esc_len (l : List UInt8) : l.length ≤ (esc l).length ∧ (esc l).length ≤ 2 * l.length := by
  induction l with
  | nil => simp [esc]
  | cons c l ih =>
    have e : esc (c :: l) = esc1 c ++ esc l := by simp [esc]
    have h : 1 ≤ (esc1 c).length ∧ (esc1 c).length ≤ 2 := by unfold esc1; split <;> simp
    rw [e, List.length_append, List.length_cons]
    omega
end Go.Proofs.YtoccjnbodoiibabDoor
