/-
  Plain functions on lists of bytes that say what package token and the document's answers compute, with small lemmas on them; no program is named here.
-/
import Derived.WalkKit
import Derived.WalkSpells
import Derived.WalkLawsBesides
import Derived.Lib.IndexAny
import Derived.Lib.UnsafeStr
import Derived.Lib.Strings
import Derived.Lib.SlTrimSet
import Derived.Handy
import Derived.Deep.Draws
import Derived.Lib.Join
import Derived.Lib.ItoaNum
namespace Go.Proofs.YtigbjhkkbgdkcaaGreatDoor
open Go.RowKit

def isTok (c : UInt8) : Bool :=
  (97 ≤ c && c ≤ 122) || (65 ≤ c && c ≤ 90) || (48 ≤ c && c ≤ 57) || [33, 35, 36, 37, 38, 39, 42, 43, 45, 46, 94, 95, 96, 124, 126].contains c
def token (l : List UInt8) : Bool := !l.isEmpty && l.all isTok
def allIn (f s : List UInt8) : Bool := s.all fun c => f.contains c
def low (c : UInt8) : UInt8 := if 65 ≤ c && c ≤ 90 then c + 32 else c
def lower (l : List UInt8) : List UInt8 := l.map low

theorem byAll (P : UInt8 → Bool) (h : ∀ n : Fin 256, P (UInt8.ofNat n.val) = true) (c : UInt8) : P c = true := by
  have := h ⟨c.toNat, c.toNat_lt⟩
  simpa using this

theorem take_snoc (s : ByteArray) (k : Nat) (h : k < s.size) : s.data.toList.take (k + 1) = s.data.toList.take k ++ [s[k]] := by
  rw [List.take_succ_eq_append_getElem (by simpa using h)]; rfl

theorem size_list (s : ByteArray) : s.data.toList.length = s.size := by rw [Array.length_toList]; rfl

theorem take_all (s : ByteArray) : s.data.toList.take s.size = s.data.toList := by
  rw [List.take_of_length_le]; rw [size_list]; exact Nat.le_refl _

theorem extract_one (s : ByteArray) (k : Nat) (h : k < s.size) : s.extract k (k + 1) = ⟨#[s[k]]⟩ := by
  apply ByteArray.ext
  rw [ByteArray.data_extract]
  apply Array.ext'
  have h' : k < s.data.size := h
  simp [Array.toList_extract, List.extract_eq_take_drop]
  rw [List.drop_eq_getElem_cons (by simpa using h')]
  simp
  rfl

theorem ret_bool {a b : Bool} (h : a = b) : Ending.returned (.bool a) = .returned (.bool b) := by rw [h]
theorem ret_int {k : IntKind} {a b : Int} (h : a = b) : Ending.returned (.int k a) = .returned (.int k b) := by rw [h]
theorem ret_str {a b : ByteArray} (h : a = b) : Ending.returned (.string a) = .returned (.string b) := by rw [h]

theorem mem_at (s : ByteArray) (k : Nat) (h : k < s.size) : s[k] ∈ s.data.toList := by
  have h' : k < s.data.size := h
  exact Array.mem_toList_iff.2 (Array.getElem_mem h')

theorem all_false (s : ByteArray) (p : UInt8 → Bool) (k : Nat) (h : k < s.size) (hp : p s[k] = false) : s.data.toList.all p = false :=
  List.all_eq_false.2 ⟨s[k], mem_at s k h, by simp [hp]⟩

theorem isEmpty_size (s : ByteArray) : s.data.toList.isEmpty = decide (s.size = 0) := by
  rw [← size_list]; cases s.data.toList <;> simp

end Go.Proofs.YtigbjhkkbgdkcaaGreatDoor

/-
  Plain functions on lists of bytes: what may stand between two quotes, and what is read of it; no program is named here.
-/
namespace Go.Proofs.YtigbjhkkbgdkcaaGreatDoor
open Go.RowKit

def plainB (c : UInt8) : Bool := (32 ≤ c && c ≤ 126) || c == 9

def ustep : Option (List UInt8 × Bool) → UInt8 → Option (List UInt8 × Bool)
  | none, _ => none
  | some (acc, true), c => if plainB c = true then some (acc ++ [c], false) else none
  | some (acc, false), c => if plainB c = true then (if c = 34 then none else if c = 92 then some (acc, true) else some (acc ++ [c], false)) else none

def unesc (l : List UInt8) : Option (List UInt8 × Bool) := l.foldl ustep (some ([], false))
def unescT (l : List UInt8) : List UInt8 := match unesc l with | some (acc, _) => acc | none => []
def unescOk (l : List UInt8) : Bool := match unesc l with | some (_, c) => !c | none => false

theorem unesc_snoc (l : List UInt8) (c : UInt8) : unesc (l ++ [c]) = ustep (unesc l) c := by simp [unesc]

theorem ustep_none (l : List UInt8) : l.foldl ustep none = none := by
  induction l with
  | nil => rfl
  | cons a l ih => rw [List.foldl_cons]; exact ih

theorem split_at (s : ByteArray) (k : Nat) (h : k < s.size) : s.data.toList = s.data.toList.take k ++ s[k] :: s.data.toList.drop (k + 1) := by
  have h' : k < s.data.toList.length := by rw [size_list]; exact h
  have e : s.data.toList.drop k = s[k] :: s.data.toList.drop (k + 1) := by
    rw [List.drop_eq_getElem_cons h']; rfl
  rw [← e, List.take_append_drop]

theorem unesc_dead (s : ByteArray) (k : Nat) (h : k < s.size) (x : Option (List UInt8 × Bool)) (hx : unesc (s.data.toList.take k) = x) (hd : ustep x s[k] = none) : unesc s.data.toList = none := by
  rw [split_at s k h]
  unfold unesc at hx ⊢
  rw [List.foldl_append, hx, List.foldl_cons, hd, ustep_none]

theorem ustep_bad (x : Option (List UInt8 × Bool)) (c : UInt8) (h : plainB c = false) : ustep x c = none := by
  rcases x with _ | ⟨acc, b⟩
  · rfl
  · cases b <;> simp [ustep, h]
theorem ustep_took (acc : List UInt8) (c : UInt8) (h : plainB c = true) : ustep (some (acc, true)) c = some (acc ++ [c], false) := by simp [ustep, h]
theorem ustep_quote (acc : List UInt8) (c : UInt8) (hc : c = 34) : ustep (some (acc, false)) c = none := by
  subst hc; rfl
theorem ustep_back (acc : List UInt8) (c : UInt8) (hc : c = 92) : ustep (some (acc, false)) c = some (acc, true) := by
  subst hc; rfl
theorem ustep_else (acc : List UInt8) (c : UInt8) (h : plainB c = true) (h1 : c ≠ 34) (h2 : c ≠ 92) : ustep (some (acc, false)) c = some (acc ++ [c], false) := by simp [ustep, h, h1, h2]

theorem unesc_len (l : List UInt8) : ∀ acc b, unesc l = some (acc, b) → acc.length ≤ l.length := by
  have gen : ∀ (l : List UInt8) (a0 : List UInt8) (b0 : Bool) acc b, l.foldl ustep (some (a0, b0)) = some (acc, b) → acc.length ≤ a0.length + l.length := by
    intro l
    induction l with
    | nil => intro a0 b0 acc b h; simp at h; obtain ⟨rfl, _⟩ := h; simp
    | cons c l ih =>
      intro a0 b0 acc b h
      rw [List.foldl_cons] at h
      cases hu : ustep (some (a0, b0)) c with
      | none => rw [hu, ustep_none] at h; cases h
      | some y =>
        obtain ⟨a1, b1⟩ := y
        rw [hu] at h
        have h1 := ih a1 b1 acc b h
        have h2 : a1.length ≤ a0.length + 1 := by
          cases b0 <;> simp only [ustep] at hu <;> (repeat' split at hu) <;> simp at hu <;> obtain ⟨rfl, _⟩ := hu <;> simp
        simp only [List.length_cons]
        omega
  intro acc b h
  have := gen l [] false acc b h
  simpa using this

theorem ne_of_int (c d : UInt8) (h : (c.toNat : Int) ≠ (d.toNat : Int)) : c ≠ d := fun e => h (by rw [e])
theorem eq_of_int (c d : UInt8) (h : (c.toNat : Int) = (d.toNat : Int)) : c = d := UInt8.toNat.inj (by omega)

theorem plainB_iff (c : UInt8) : plainB c = decide ((32 ≤ (c.toNat : Int) ∧ (c.toNat : Int) ≤ 126) ∨ (c.toNat : Int) = 9) := by
  have h9 : (c == 9) = decide ((c.toNat : Int) = 9) := by
    rw [Bool.eq_iff_iff]; simp
    constructor
    · rintro rfl; rfl
    · intro h; exact eq_of_int c 9 (by simpa using h)
  unfold plainB
  rw [h9, Bool.eq_iff_iff]
  simp [UInt8.le_iff_toNat_le]
  omega
def allPlain (l : List UInt8) : Bool := l.all plainB

theorem allPlain_dead (s : ByteArray) (k : Nat) (h : k < s.size) (hp : plainB s[k] = false) : allPlain s.data.toList = false := all_false s plainB k h hp
theorem allPlain_snoc (l : List UInt8) (c : UInt8) (h : allPlain l = true) (hc : plainB c = true) : allPlain (l ++ [c]) = true := by
  unfold allPlain at *; rw [List.all_append, h]; simp [hc]

def esc1 (c : UInt8) : List UInt8 := if c = 34 ∨ c = 92 then [92, c] else [c]
def esc (l : List UInt8) : List UInt8 := l.flatMap esc1
def qt (l : List UInt8) : List UInt8 × Int := if 1000 < l.length then ([], 2) else if allPlain l = true then (34 :: (esc l ++ [34]), 0) else ([], 3)

theorem esc_snoc (l : List UInt8) (c : UInt8) : esc (l ++ [c]) = esc l ++ esc1 c := by simp [esc]
theorem esc_len (l : List UInt8) : l.length ≤ (esc l).length ∧ (esc l).length ≤ 2 * l.length := by
  induction l with
  | nil => simp [esc]
  | cons c l ih =>
    have e : esc (c :: l) = esc1 c ++ esc l := by simp [esc]
    have h : 1 ≤ (esc1 c).length ∧ (esc1 c).length ≤ 2 := by unfold esc1; split <;> simp
    rw [e, List.length_append, List.length_cons]
    omega
end Go.Proofs.YtigbjhkkbgdkcaaGreatDoor

/-
  Entity tags in plain lists: what Print and Parse tell; no program is named here.
-/
namespace Go.Proofs.YtigbjhkkbgdkcaaGreatDoor
open Go.RowKit

abbrev Tg := Bool × List UInt8
def etB (c : UInt8) : Bool := c == 33 || (decide (35 ≤ c) && decide (c ≤ 126))
def prG (t : Tg) : List UInt8 := (if t.1 = true then [87, 47] else []) ++ (34 :: (t.2 ++ [34]))
def prE (t : Tg) : List UInt8 × Int := if 100 < t.2.length then ([], 2) else if t.2.all etB = true then (prG t, 0) else ([], 3)
def weakB (s : List UInt8) : Bool := Lib.hasPrefix s [87, 47]
def restE (s : List UInt8) : List UInt8 := if weakB s = true then s.drop 2 else s
def textE (r : List UInt8) : List UInt8 := if 1 < r.length then (r.drop 1).take (r.length - 2) else []
def candE (s : List UInt8) : Tg := (weakB s, textE (restE s))
def paE (s : List UInt8) : Tg × Int := if prE (candE s) = (s, 0) then (candE s, 0) else ((false, []), 3)
theorem prE_ok (t : Tg) (h : (prE t).2 = 0) : prE t = (prG t, 0) ∧ t.2.length ≤ 100 ∧ t.2.all etB = true := by
  unfold prE at h ⊢
  by_cases h1 : 100 < t.2.length
  · rw [if_pos h1] at h; cases h
  · rw [if_neg h1] at h ⊢
    cases h2 : t.2.all etB
    · rw [h2] at h; cases h
    · exact ⟨rfl, by omega, rfl⟩
theorem prE_bad (t : Tg) (h : (prE t).2 ≠ 0) : (prE t).1 = [] := by
  unfold prE at h ⊢
  by_cases h1 : 100 < t.2.length
  · rw [if_pos h1]
  · rw [if_neg h1] at h ⊢
    cases h2 : t.2.all etB
    · rfl
    · rw [h2] at h; exact absurd rfl h
theorem prG_len (t : Tg) : (prG t).length = t.2.length + 2 + if t.1 = true then 2 else 0 := by
  unfold prG
  cases t.1 <;> simp <;> omega
theorem weak_prG (t : Tg) : weakB (prG t) = t.1 := by
  obtain ⟨w, x⟩ := t
  cases w
  · show Lib.hasPrefix (34 :: _) [87, 47] = false; rfl
  · show Lib.hasPrefix (87 :: 47 :: _) [87, 47] = true; rfl
theorem cand_prG (t : Tg) : candE (prG t) = t := by
  have hw := weak_prG t
  have hr : restE (prG t) = 34 :: (t.2 ++ [34]) := by
    unfold restE
    rw [hw]
    obtain ⟨w, x⟩ := t
    cases w <;> rfl
  unfold candE
  rw [hw, hr]
  have : textE (34 :: (t.2 ++ [34])) = t.2 := by
    unfold textE
    simp
  rw [this]
/-- What was printed is read as it was. -/
theorem paE_back (t : Tg) (h : (prE t).2 = 0) : paE (prE t).1 = (t, 0) := by
  obtain ⟨h1, _, _⟩ := prE_ok t h
  rw [h1]
  show paE (prG t) = _
  unfold paE
  rw [cand_prG, if_pos h1]
/-- What was read is printed as it was. -/
theorem paE_print (s : List UInt8) (h : (paE s).2 = 0) : prE (paE s).1 = (s, 0) := by
  unfold paE at h ⊢
  by_cases h1 : prE (candE s) = (s, 0)
  · rw [if_pos h1]; exact h1
  · rw [if_neg h1] at h; cases h
theorem paE_cases (s : List UInt8) : (∃ t, paE s = (t, 0) ∧ s = prG t ∧ t.2.length ≤ 100 ∧ t.2.all etB = true) ∨ paE s = ((false, []), 3) := by
  by_cases h1 : prE (candE s) = (s, 0)
  · left
    obtain ⟨h2, h3, h4⟩ := prE_ok (candE s) (by rw [h1])
    refine ⟨candE s, by unfold paE; rw [if_pos h1], ?_, h3, h4⟩
    rw [h1] at h2; exact (Prod.mk.inj h2).1
  · right; unfold paE; rw [if_neg h1]
/-- The pieces between commas that are not within quotes. -/
structure QC where
  ps : List (List UInt8)
  cur : List UInt8
  q : Bool
def qstep (x : QC) (c : UInt8) : QC := if c = 44 ∧ x.q = false then ⟨x.ps ++ [x.cur], [], x.q⟩ else ⟨x.ps, x.cur ++ [c], if c = 34 then !x.q else x.q⟩
def qcut (l : List UInt8) : QC := l.foldl qstep ⟨[], [], false⟩
def qps (l : List UInt8) : List (List UInt8) := (qcut l).ps ++ [(qcut l).cur]
theorem qcut_snoc (l : List UInt8) (c : UInt8) : qcut (l ++ [c]) = qstep (qcut l) c := by simp [qcut]
theorem qcut_len (l : List UInt8) : (qcut l).ps.length + (qcut l).cur.length ≤ l.length ∧ ∀ p ∈ (qcut l).ps, p.length ≤ l.length := by
  have gen : ∀ (l : List UInt8) (x : QC) (n : Nat), x.ps.length + x.cur.length ≤ n → (∀ p ∈ x.ps, p.length ≤ n) → (l.foldl qstep x).ps.length + (l.foldl qstep x).cur.length ≤ n + l.length ∧ ∀ p ∈ (l.foldl qstep x).ps, p.length ≤ n + l.length := by
    intro l
    induction l with
    | nil => intro x n h h2; exact ⟨h, h2⟩
    | cons c l ih =>
      intro x n h h2
      rw [List.foldl_cons, List.length_cons]
      have hq : (qstep x c).ps.length + (qstep x c).cur.length ≤ n + 1 ∧ ∀ p ∈ (qstep x c).ps, p.length ≤ n + 1 := by
        unfold qstep
        split
        · refine ⟨by simp; omega, fun p hp => ?_⟩
          rcases List.mem_append.1 hp with hp | hp
          · have := h2 p hp; omega
          · rw [List.mem_singleton.1 hp]; omega
        · exact ⟨by simp; omega, fun p hp => by have := h2 p hp; omega⟩
      have := ih (qstep x c) (n + 1) hq.1 hq.2
      rw [show n + (l.length + 1) = n + 1 + l.length by omega]; exact this
  have := gen l ⟨[], [], false⟩ 0 (Nat.le_refl _) (fun p hp => by cases hp)
  rw [Nat.zero_add] at this; exact this
end Go.Proofs.YtigbjhkkbgdkcaaGreatDoor

/-
  Plain functions on lists of bytes: how a text is cut at a sign that is not within quotes; no program is named here.
-/
namespace Go.Proofs.YtigbjhkkbgdkcaaGreatDoor
open Go.RowKit

def strs (ps : List (List UInt8)) : List Value := ps.map fun p => Value.string ⟨p.toArray⟩
theorem strs_snoc (ps : List (List UInt8)) (p : List UInt8) : strs ps ++ [Value.string ⟨p.toArray⟩] = strs (ps ++ [p]) := by simp [strs]
theorem strs_length (ps : List (List UInt8)) : (strs ps).length = ps.length := by simp [strs]
theorem strs_get (ps : List (List UInt8)) (k : Nat) (h : k < ps.length) : (strs ps)[k]? = some (.string ⟨ps[k].toArray⟩) := by
  simp [strs, h]

/-- What has been cut, what is being read, whether it is within quotes, whether a stroke counts. -/
structure Cut where
  ps : List (List UInt8)
  cur : List UInt8
  q : Bool
  cn : Bool

def cstep (sep : UInt8) (x : Cut) (c : UInt8) : Cut :=
  if c = sep ∧ x.q = false then ⟨x.ps ++ [x.cur], [], x.q, x.cn⟩
  else ⟨x.ps, x.cur ++ [c], if x.cn = true then x.q else if c = 34 then !x.q else x.q, if x.cn = true then false else if c = 34 then false else if c = 92 then x.q else false⟩
def cutS (sep : UInt8) (l : List UInt8) : Cut := l.foldl (cstep sep) ⟨[], [], false, false⟩
def pieces (sep : UInt8) (l : List UInt8) : List (List UInt8) := (cutS sep l).ps ++ [(cutS sep l).cur]
def ends (sep : UInt8) (l : List UInt8) : Bool := !(cutS sep l).q

theorem cutS_snoc (sep : UInt8) (l : List UInt8) (c : UInt8) : cutS sep (l ++ [c]) = cstep sep (cutS sep l) c := by simp [cutS]

theorem cutS_len (sep : UInt8) (l : List UInt8) : (cutS sep l).ps.length ≤ l.length := by
  have gen : ∀ (l : List UInt8) (x : Cut), (l.foldl (cstep sep) x).ps.length ≤ x.ps.length + l.length := by
    intro l
    induction l with
    | nil => intro x; simp
    | cons c l ih =>
      intro x
      rw [List.foldl_cons]
      have h := ih (cstep sep x c)
      have h2 : (cstep sep x c).ps.length ≤ x.ps.length + 1 := by unfold cstep; split <;> simp
      rw [List.length_cons]
      omega
  have := gen l ⟨[], [], false, false⟩
  simpa [cutS] using this

theorem cstep_back (sep : UInt8) (ps : List (List UInt8)) (cur : List UInt8) (c : UInt8) (hc : c = 92) : cstep sep ⟨ps, cur, true, false⟩ c = ⟨ps, cur ++ [c], true, true⟩ := by
  subst hc; simp [cstep]
theorem cstep_took (sep : UInt8) (ps : List (List UInt8)) (cur : List UInt8) (c : UInt8) : cstep sep ⟨ps, cur, true, true⟩ c = ⟨ps, cur ++ [c], true, false⟩ := by
  simp [cstep]
theorem cstep_quote (sep : UInt8) (hs : sep ≠ 34) (ps : List (List UInt8)) (cur : List UInt8) (q : Bool) (c : UInt8) (hc : c = 34) : cstep sep ⟨ps, cur, q, false⟩ c = ⟨ps, cur ++ [c], !q, false⟩ := by
  subst hc
  have : ¬ ((34 : UInt8) = sep ∧ q = false) := fun h => hs h.1.symm
  simp [cstep, this]
theorem cstep_sep (sep : UInt8) (ps : List (List UInt8)) (cur : List UInt8) (c : UInt8) (hc : c = sep) : cstep sep ⟨ps, cur, false, false⟩ c = ⟨ps ++ [cur], [], false, false⟩ := by
  simp [cstep, hc]
theorem cstep_else (sep : UInt8) (ps : List (List UInt8)) (cur : List UInt8) (q : Bool) (c : UInt8) (h1 : ¬ (c = sep ∧ q = false)) (h2 : c ≠ 34) (h3 : ¬ (c = 92 ∧ q = true)) : cstep sep ⟨ps, cur, q, false⟩ c = ⟨ps, cur ++ [c], q, false⟩ := by
  unfold cstep
  rw [if_neg h1]
  cases q
  · simp [h2]
  · have : c ≠ 92 := fun e => h3 ⟨e, rfl⟩
    simp [h2, this]

theorem pieces_len (sep : UInt8) (l : List UInt8) : ∀ p ∈ pieces sep l, p.length ≤ l.length := by
  have gen : ∀ (l : List UInt8) (x : Cut) (N : Nat), (∀ p ∈ x.ps, p.length ≤ N) → x.cur.length ≤ N → (∀ p ∈ (l.foldl (cstep sep) x).ps, p.length ≤ N + l.length) ∧ (l.foldl (cstep sep) x).cur.length ≤ N + l.length := by
    intro l
    induction l with
    | nil => intro x N h1 h2; exact ⟨h1, h2⟩
    | cons c l ih =>
      intro x N h1 h2
      rw [List.foldl_cons, List.length_cons]
      have h3 : (∀ p ∈ (cstep sep x c).ps, p.length ≤ N + 1) ∧ (cstep sep x c).cur.length ≤ N + 1 := by
        unfold cstep
        split
        · refine ⟨fun p hp => ?_, by simp⟩
          simp only [List.mem_append, List.mem_singleton] at hp
          rcases hp with hp | rfl
          · have := h1 p hp; omega
          · omega
        · refine ⟨fun p hp => ?_, by simp; omega⟩
          have := h1 p hp; omega
      have := ih _ (N + 1) h3.1 h3.2
      rw [show N + (l.length + 1) = N + 1 + l.length from by omega]
      exact this
  have h := gen l ⟨[], [], false, false⟩ 0 (fun p hp => by cases hp) (Nat.le_refl _)
  intro p hp
  unfold pieces at hp
  simp only [List.mem_append, List.mem_singleton] at hp
  rw [Nat.zero_add] at h
  rcases hp with hp | rfl
  · exact h.1 p hp
  · exact h.2

theorem seg_snoc (s : ByteArray) (a k : Nat) (ha : a ≤ k) (h : k < s.size) : (s.data.toList.drop a).take (k + 1 - a) = (s.data.toList.drop a).take (k - a) ++ [s[k]] := by
  have h' : k - a < (s.data.toList.drop a).length := by rw [List.length_drop, size_list]; omega
  rw [show k + 1 - a = (k - a) + 1 from by omega, List.take_succ_eq_append_getElem h']
  congr 2
  rw [List.getElem_drop]
  have : a + (k - a) = k := by omega
  simp only [this]
  rfl
theorem extract_seg (s : ByteArray) (a k : Nat) : s.extract a k = ⟨((s.data.toList.drop a).take (k - a)).toArray⟩ := by
  apply ByteArray.ext
  apply Array.ext'
  rw [Lib.extract_data]
end Go.Proofs.YtigbjhkkbgdkcaaGreatDoor

/-
  Plain lemmas on a text without the blanks at its ends; no program is named here.
-/
namespace Go.Proofs.YtigbjhkkbgdkcaaGreatDoor
open Go.RowKit

def trimL (l : List UInt8) : List UInt8 := Lib.trimS l [32, 9]
def blank (b : UInt8) : Bool := [32, 9].contains b

theorem trimL_eq (l : List UInt8) : trimL l = ((l.reverse.dropWhile blank).reverse).dropWhile blank := rfl

theorem trimL_last (l : List UInt8) (b : UInt8) (h : blank b = true) : trimL (l ++ [b]) = trimL l := by
  rw [trimL_eq, trimL_eq, List.reverse_append, List.reverse_singleton, List.singleton_append, List.dropWhile_cons, if_pos h]

theorem trimL_first (l : List UInt8) (b : UInt8) (h : blank b = true) : trimL (b :: l) = trimL l := by
  rw [trimL_eq, trimL_eq, List.reverse_cons, List.dropWhile_append]
  split
  · rename_i he
    have e : l.reverse.dropWhile blank = [] := by simpa using he
    rw [e]
    simp [h]
  · rw [List.reverse_append, List.reverse_singleton, List.singleton_append, List.dropWhile_cons, if_pos h]

theorem trimL_stays (l : List UInt8) (h1 : ∀ b, l.head? = some b → blank b = false) (h2 : ∀ b, l.getLast? = some b → blank b = false) : trimL l = l := by
  have hd : ∀ m : List UInt8, (∀ b, m.head? = some b → blank b = false) → m.dropWhile blank = m := by
    intro m hm
    cases m with
    | nil => rfl
    | cons a m => rw [List.dropWhile_cons, hm a rfl]; rfl
  rw [trimL_eq, hd l.reverse (fun b hb => h2 b (by rw [← List.head?_reverse]; exact hb)), List.reverse_reverse, hd l h1]

theorem trimL_len (l : List UInt8) : (trimL l).length ≤ l.length := by
  rw [trimL_eq]
  have h1 := (List.dropWhile_sublist blank (l := (l.reverse.dropWhile blank).reverse)).length_le
  have h2 := (List.dropWhile_sublist blank (l := l.reverse)).length_le
  simp only [List.length_reverse] at h1 h2
  omega

theorem dropWhile_head (l : List UInt8) : ∀ b, (l.dropWhile blank).head? = some b → blank b = false := by
  intro b hb
  induction l with
  | nil => simp at hb
  | cons a l ih =>
    rw [List.dropWhile_cons] at hb
    split at hb
    · exact ih hb
    · rename_i ha
      simp only [List.head?_cons, Option.some.injEq] at hb
      subst hb
      simpa using ha

theorem trimL_head (l : List UInt8) : ∀ b, (trimL l).head? = some b → blank b = false := by
  rw [trimL_eq]; exact dropWhile_head _
theorem trimL_tail (l : List UInt8) : ∀ b, (trimL l).getLast? = some b → blank b = false := by
  intro b hb
  rw [trimL_eq] at hb
  have hne : ((l.reverse.dropWhile blank).reverse).dropWhile blank ≠ [] := by
    intro e; rw [e] at hb; simp at hb
  have hsuf : ((l.reverse.dropWhile blank).reverse).dropWhile blank <:+ (l.reverse.dropWhile blank).reverse := List.dropWhile_suffix blank
  obtain ⟨t, ht⟩ := hsuf
  have e1 : ((l.reverse.dropWhile blank).reverse).getLast? = some b := by
    rw [← ht, List.getLast?_append, hb]; rfl
  rw [List.getLast?_reverse] at e1
  exact dropWhile_head _ b e1
theorem trimL_twice (l : List UInt8) : trimL (trimL l) = trimL l := trimL_stays _ (trimL_head l) (trimL_tail l)

theorem pre_yes (l : List UInt8) (b : UInt8) (h : Lib.hasPrefix l [b] = true) : l = b :: l.drop 1 := by
  unfold Lib.hasPrefix at h
  cases l with
  | nil => simp at h
  | cons a l => simp at h; simp [h]
theorem pre_no (l : List UInt8) (b : UInt8) (h : Lib.hasPrefix l [b] = false) : l.head? ≠ some b := by
  unfold Lib.hasPrefix at h
  intro e
  cases l with
  | nil => simp at e
  | cons a l => simp at e; subst e; simp at h
theorem suf_yes (l : List UInt8) (b : UInt8) (h : Lib.hasSuffix l [b] = true) : l = l.take (l.length - 1) ++ [b] := by
  unfold Lib.hasSuffix at h
  obtain ⟨t, ht⟩ := List.isSuffixOf_iff_suffix.1 h
  subst ht
  simp
theorem suf_no (l : List UInt8) (b : UInt8) (h : Lib.hasSuffix l [b] = false) : l.getLast? ≠ some b := by
  unfold Lib.hasSuffix at h
  intro e
  have : [b] <:+ l := by
    obtain ⟨ys, hy⟩ := List.getLast?_eq_some_iff.1 e
    exact ⟨ys, hy.symm⟩
  rw [List.isSuffixOf_iff_suffix.2 this] at h
  cases h
theorem trimL_none (l : List UInt8) (h1 : Lib.hasPrefix l [32] = false) (h2 : Lib.hasSuffix l [32] = false) (h3 : Lib.hasPrefix l [9] = false) (h4 : Lib.hasSuffix l [9] = false) : trimL l = l := by
  apply trimL_stays
  · intro b hb
    cases hbl : blank b
    · rfl
    · exfalso
      unfold blank at hbl
      simp at hbl
      rcases hbl with rfl | rfl
      · exact pre_no _ _ h1 hb
      · exact pre_no _ _ h3 hb
  · intro b hb
    cases hbl : blank b
    · rfl
    · exfalso
      unfold blank at hbl
      simp at hbl
      rcases hbl with rfl | rfl
      · exact suf_no _ _ h2 hb
      · exact suf_no _ _ h4 hb
theorem trimL_pre (l : List UInt8) (b : UInt8) (hb : blank b = true) (h : Lib.hasPrefix l [b] = true) : trimL (l.drop 1) = trimL l ∧ 1 ≤ l.length := by
  have e := pre_yes l b h
  generalize l.drop 1 = m at e
  subst e
  exact ⟨(trimL_first _ b hb).symm, by simp⟩
theorem trimL_suf (l : List UInt8) (b : UInt8) (hb : blank b = true) (h : Lib.hasSuffix l [b] = true) : trimL (l.take (l.length - 1)) = trimL l ∧ 1 ≤ l.length := by
  have e := suf_yes l b h
  generalize l.take (l.length - 1) = m at e
  subst e
  exact ⟨(trimL_last _ b hb).symm, by simp⟩
end Go.Proofs.YtigbjhkkbgdkcaaGreatDoor

/-
  Lists of entity tags in plain lists; no program is named here.
-/
namespace Go.Proofs.YtigbjhkkbgdkcaaGreatDoor
open Go.RowKit

def tstep (acc : Option (List Tg)) (p : List UInt8) : Option (List Tg) :=
  match acc with
  | none => none
  | some ts => if p.isEmpty = true then some ts else if (paE p).2 = 0 then some (ts ++ [(paE p).1]) else none
def tagsE (P : List (List UInt8)) : Option (List Tg) := P.foldl tstep (some [])
def liE (s : List UInt8) : (List Tg × Bool) × Int :=
  if 1000 < s.length then (([], false), 2) else if s = [42] then (([], true), 0) else match tagsE ((qps s).map trimL) with
    | none => (([], false), 3)
    | some ts => if ts.isEmpty = true then (([], false), 3) else if 20 < ts.length then (([], false), 2) else ((ts, false), 0)
def tgs (ts : List Tg) : List Value := ts.flatMap fun t => [Value.bool t.1, Value.string ⟨t.2.toArray⟩]
theorem tgs_snoc (ts : List Tg) (t : Tg) : tgs ts ++ [Value.bool t.1, Value.string ⟨t.2.toArray⟩] = tgs (ts ++ [t]) := by simp [tgs]
theorem tgs_length (ts : List Tg) : (tgs ts).length = ts.length * 2 := by
  induction ts with
  | nil => rfl
  | cons t ts ih =>
    have : tgs (t :: ts) = [Value.bool t.1, Value.string ⟨t.2.toArray⟩] ++ tgs ts := by simp [tgs]
    rw [this, List.length_append, ih, List.length_cons]; simp; omega
theorem tgs_get (ts : List Tg) : ∀ (k : Nat) (h : k < ts.length), (tgs ts)[k * 2]? = some (.bool (ts[k]).1) ∧ (tgs ts)[k * 2 + 1]? = some (.string ⟨(ts[k]).2.toArray⟩) := by
  induction ts with
  | nil => intro k h; simp at h
  | cons t ts ih =>
    intro k h
    have he : tgs (t :: ts) = Value.bool t.1 :: Value.string ⟨t.2.toArray⟩ :: tgs ts := by simp [tgs]
    cases k with
    | zero => rw [he]; exact ⟨rfl, rfl⟩
    | succ k =>
      have := ih k (by simpa using h)
      rw [he, show (k + 1) * 2 = k * 2 + 2 by omega]
      simpa using this
theorem tstep_dead (P : List (List UInt8)) : P.foldl tstep none = none := by
  induction P with
  | nil => rfl
  | cons a P ih => rw [List.foldl_cons]; exact ih
theorem tags_snoc (P : List (List UInt8)) (p : List UInt8) : tagsE (P ++ [p]) = tstep (tagsE P) p := by simp [tagsE]
theorem tags_take (P : List (List UInt8)) (k : Nat) (h : k < P.length) : tagsE (P.take (k + 1)) = tstep (tagsE (P.take k)) P[k] := by
  rw [List.take_succ_eq_append_getElem h, tags_snoc]
theorem tags_dead (P : List (List UInt8)) (k : Nat) (h : k < P.length) (hd : tstep (tagsE (P.take k)) P[k] = none) : tagsE P = none := by
  have e : P = P.take k ++ P[k] :: P.drop (k + 1) := by rw [← List.drop_eq_getElem_cons h, List.take_append_drop]
  rw [e]
  unfold tagsE at hd ⊢
  rw [List.foldl_append, List.foldl_cons, hd, tstep_dead]
theorem tags_len (P : List (List UInt8)) : ∀ ts, tagsE P = some ts → ts.length ≤ P.length := by
  have gen : ∀ (P : List (List UInt8)) (a : List Tg) ts, P.foldl tstep (some a) = some ts → ts.length ≤ a.length + P.length := by
    intro P
    induction P with
    | nil => intro a ts h; simp at h; subst h; simp
    | cons p P ih =>
      intro a ts h
      rw [List.foldl_cons] at h
      cases hu : tstep (some a) p with
      | none => rw [hu, tstep_dead] at h; cases h
      | some b =>
        rw [hu] at h
        have h1 := ih b ts h
        have h2 : b.length ≤ a.length + 1 := by
          unfold tstep at hu
          simp only at hu
          split at hu
          · simp at hu; subst hu; omega
          · split at hu
            · simp at hu; subst hu; simp
            · cases hu
        rw [List.length_cons]
        omega
  intro ts h
  have := gen P [] ts h
  simpa using this
end Go.Proofs.YtigbjhkkbgdkcaaGreatDoor

/-
  Plain functions on fields (a name and a value, each a list of bytes), and what is known of a list of fields in memory; no program is named here.
-/
namespace Go.Proofs.YtigbjhkkbgdkcaaGreatDoor
open Go.RowKit

abbrev Fld := List UInt8 × List UInt8
def flds (ps : List Fld) : List Value := ps.flatMap fun x => [Value.string ⟨x.1.toArray⟩, Value.string ⟨x.2.toArray⟩]
theorem flds_snoc (ps : List Fld) (x : Fld) : flds ps ++ [Value.string ⟨x.1.toArray⟩, Value.string ⟨x.2.toArray⟩] = flds (ps ++ [x]) := by simp [flds]
theorem flds_app (ps qs : List Fld) : flds (ps ++ qs) = flds ps ++ flds qs := by simp [flds]
theorem flds_length (ps : List Fld) : (flds ps).length = ps.length * 2 := by
  induction ps with
  | nil => rfl
  | cons x ps ih =>
    have e : flds (x :: ps) = [Value.string ⟨x.1.toArray⟩, Value.string ⟨x.2.toArray⟩] ++ flds ps := by simp [flds]
    rw [e, List.length_append, ih, List.length_cons]; simp; omega
theorem flds_get (ps : List Fld) : ∀ (k : Nat) (h : k < ps.length), (flds ps)[k * 2]? = some (.string ⟨(ps[k]).1.toArray⟩) ∧ (flds ps)[k * 2 + 1]? = some (.string ⟨(ps[k]).2.toArray⟩) := by
  induction ps with
  | nil => intro k h; simp at h
  | cons x ps ih =>
    intro k h
    have e : flds (x :: ps) = Value.string ⟨x.1.toArray⟩ :: Value.string ⟨x.2.toArray⟩ :: flds ps := by simp [flds]
    rw [e]
    cases k with
    | zero => exact ⟨rfl, rfl⟩
    | succ k =>
      have := ih k (by simpa using h)
      rw [show (k + 1) * 2 = k * 2 + 1 + 1 from by omega, show k * 2 + 1 + 1 + 1 = (k * 2 + 1) + 1 + 1 from by omega, List.getElem?_cons_succ, List.getElem?_cons_succ, List.getElem?_cons_succ, List.getElem?_cons_succ]
      exact this

/-- A slice of fields that can be read. -/
def Fl (w : World) (v : Value) (ls : List Fld) : Prop :=
  ∃ ad cap, v = .slice ad ls.length cap ∧ ls.length ≤ cap ∧ cap ≤ maxLen ∧ (0 < ls.length → ∃ g off, ad = some ⟨g, off, none⟩ ∧ g < w.heap.size ∧
    ∀ (k : Nat) (h : k < ls.length), w.cell? ⟨g, off + k * 2, none⟩ = some (.string ⟨(ls[k]).1.toArray⟩) ∧ w.cell? ⟨g, off + k * 2 + 1, none⟩ = some (.string ⟨(ls[k]).2.toArray⟩))
/-- No name and no value is longer than so many bytes. -/
def Most (m : Nat) (ls : List Fld) : Prop := ∀ x ∈ ls, x.1.length ≤ m ∧ x.2.length ≤ m

/-- How many values and letters a list of fields holds. -/
def bulkF (ls : List Fld) : Nat := (ls.map fun y => y.1.length + y.2.length + 3).sum

theorem Fl.below {w w' : World} {v : Value} {ls : List Fld} (h : Fl w v ls) (hb : Below w.heap.size w w') : Fl w' v ls := by
  obtain ⟨ad, cap, hv, h1, h2, h3⟩ := h
  refine ⟨ad, cap, hv, h1, h2, fun h0 => ?_⟩
  obtain ⟨g, off, ha, hg, hc⟩ := h3 h0
  refine ⟨g, off, ha, Nat.lt_of_lt_of_le hg hb.size, fun k hk => ?_⟩
  obtain ⟨c1, c2⟩ := hc k hk
  exact ⟨(hb.cell (p := ⟨g, off + k * 2, none⟩) hg).trans c1, (hb.cell (p := ⟨g, off + k * 2 + 1, none⟩) hg).trans c2⟩
theorem Fl.nil (w : World) : Fl w (.slice none 0 0) [] := ⟨none, 0, rfl, Nat.le_refl _, by unfold maxLen; omega, fun h => absurd h (by simp)⟩

theorem own_below3 {w w1 : World} {B : Nat} {e : TypeId} {size : Nat} {v : Value} {n : Nat} {xs : List Value} (h : w.ownsRow B e size v n xs) (hb : Below w.heap.size w w1) : w1.ownsRow B e size v n xs := by
  refine ⟨h.1, ?_⟩
  rcases h.2 with h0 | ⟨g, cap, cur, hv, hB, hg, h3⟩
  · exact .inl h0
  · exact .inr ⟨g, cap, cur, hv, hB, (hb.block g (Array.getElem?_eq_some_iff.1 hg).1).trans hg, h3⟩
theorem own_form2 {w : World} {B : Nat} {e : TypeId} {size : Nat} {v : Value} {n : Nat} {xs : List Value} (h : w.ownsRow B e size v n xs) : ∃ ad cap, v = .slice ad n cap ∧ cap ≤ maxLen ∧ n ≤ cap ∧ (0 < n → ∃ g, ad = some ⟨g, 0, none⟩ ∧ B ≤ g ∧ g < w.heap.size ∧ ∀ j, j < n * size → w.cell? ⟨g, j, none⟩ = xs[j]?) := by
  rcases h.2 with ⟨rfl, rfl⟩ | ⟨g, cap, cur, hv, hb, hg, hnc, hcm, _, _⟩
  · exact ⟨none, 0, rfl, by unfold maxLen; omega, Nat.le_refl _, fun h => absurd h (by omega)⟩
  · refine ⟨some ⟨g, 0, none⟩, cap, hv, hcm, hnc, fun _ => ⟨g, rfl, hb, (Array.getElem?_eq_some_iff.1 hg).1, fun j hj => ?_⟩⟩
    subst hv
    exact h.cellAt j hj
theorem own_le {w : World} {B B' : Nat} {e : TypeId} {size : Nat} {v : Value} {n : Nat} {xs : List Value} (h : w.ownsRow B e size v n xs) (hb : B' ≤ B) : w.ownsRow B' e size v n xs := by
  refine ⟨h.1, ?_⟩
  rcases h.2 with h0 | ⟨g, cap, cur, hv, hB, h3⟩
  · exact .inl h0
  · exact .inr ⟨g, cap, cur, hv, Nat.le_trans hb hB, h3⟩
/-- A row of fields that the call made itself can be read. -/
theorem Fl.own {w : World} {B : Nat} {e : TypeId} {v : Value} {ls : List Fld} (h : w.ownsRow B e 2 v ls.length (flds ls)) : Fl w v ls := by
  obtain ⟨ad, cap, hv, hcm, hnc, hc⟩ := own_form2 h
  refine ⟨ad, cap, hv, hnc, hcm, fun h0 => ?_⟩
  obtain ⟨g, ha, _, hg, hce⟩ := hc h0
  refine ⟨g, 0, ha, hg, fun k hk => ?_⟩
  obtain ⟨p1, p2⟩ := flds_get ls k hk
  rw [Nat.zero_add, hce _ (by omega), hce _ (by omega)]
  exact ⟨p1, p2⟩

theorem drewN_below (B : Nat) (w : World) (n : Nat) : Below B w (w.drewN n) := by
  induction n with
  | zero => exact Below.refl _ _
  | succ n ih => exact ih.drew
theorem drewN_cell (w : World) (n : Nat) (a : Addr) : (w.drewN n).cell? a = w.cell? a := by
  induction n with
  | zero => rfl
  | succ n ih => exact ih
theorem drewN_frozen (w : World) (n : Nat) (a : Addr) : (w.drewN n).frozen? a = w.frozen? a := by
  induction n with
  | zero => rfl
  | succ n ih => exact ih
theorem drewN_size (w : World) (n : Nat) : (w.drewN n).heap.size = w.heap.size := by
  induction n with
  | zero => rfl
  | succ n ih => exact ih
theorem new_free (w : World) (cs : Array Value) (t : TypeId) (j : Nat) : (w.alloc (.cells cs t)).frozen? ⟨w.heap.size, j, none⟩ = false :=
  Lib.frozen_of_heap (heap_alloc_new w (.cells cs t)) j
theorem cell_in {w : World} {a : Addr} {v : Value} (h : w.cell? a = some v) : a.block < w.heap.size := by
  rcases Nat.lt_or_ge a.block w.heap.size with h1 | h1
  · exact h1
  · exfalso
    unfold World.cell? at h
    rw [Array.getElem?_eq_none h1] at h
    simp at h
theorem cell_keep {w w' : World} {a : Addr} {v : Value} (h : Below w.heap.size w w') (hc : w.cell? a = some v) : w'.cell? a = some v := (h.cell (cell_in hc)).trans hc

def chk1 (x : Fld) : Int := if token x.1 = false then 3 else if 30 < x.1.length ∨ 1000 < x.2.length then 2 else if allPlain x.2 = true ∧ trimL x.2 = x.2 then 0 else 3
def chkL : List Fld → Int
  | [] => 0
  | x :: r => if chk1 x = 0 then chkL r else chk1 x
def chk (ls : List Fld) : Int := if 30 < ls.length then 2 else chkL ls
theorem chk1_tok (x : Fld) (h : token x.1 = false) : chk1 x = 3 := by unfold chk1; rw [if_pos h]
theorem chk1_large (x : Fld) (h : token x.1 = true) (hl : 30 < x.1.length ∨ 1000 < x.2.length) : chk1 x = 2 := by unfold chk1; rw [if_neg (by rw [h]; simp), if_pos hl]
theorem chk1_bad (x : Fld) (h : token x.1 = true) (hl : ¬ (30 < x.1.length ∨ 1000 < x.2.length)) (hp : ¬ (allPlain x.2 = true ∧ trimL x.2 = x.2)) : chk1 x = 3 := by unfold chk1; rw [if_neg (by rw [h]; simp), if_neg hl, if_neg hp]
theorem chk1_ok (x : Fld) (h : token x.1 = true) (hl : ¬ (30 < x.1.length ∨ 1000 < x.2.length)) (hp : allPlain x.2 = true ∧ trimL x.2 = x.2) : chk1 x = 0 := by unfold chk1; rw [if_neg (by rw [h]; simp), if_neg hl, if_pos hp]
theorem chk1_is (x : Fld) (h : chk1 x = 0) : token x.1 = true ∧ x.1.length ≤ 30 ∧ x.2.length ≤ 1000 ∧ allPlain x.2 = true ∧ trimL x.2 = x.2 := by
  unfold chk1 at h
  split at h
  · cases h
  · rename_i ht
    split at h
    · cases h
    · rename_i hl
      split at h
      · rename_i hp
        exact ⟨by simpa using ht, by omega, by omega, hp.1, hp.2⟩
      · cases h
theorem chk1_some (x : Fld) : chk1 x = 0 ∨ chk1 x = 2 ∨ chk1 x = 3 := by
  unfold chk1
  split
  · exact .inr (.inr rfl)
  · split
    · exact .inr (.inl rfl)
    · split
      · exact .inl rfl
      · exact .inr (.inr rfl)
theorem chkL_app (a b : List Fld) (h : chkL a = 0) : chkL (a ++ b) = chkL b := by
  induction a with
  | nil => rfl
  | cons x a ih =>
    unfold chkL at h
    split at h
    · rename_i hx
      rw [List.cons_append]
      show (if chk1 x = 0 then chkL (a ++ b) else chk1 x) = _
      rw [if_pos hx]; exact ih h
    · rename_i hx; exact absurd h hx
theorem chkL_one (x : Fld) : chkL [x] = chk1 x := by
  show (if chk1 x = 0 then chkL [] else chk1 x) = chk1 x
  split
  · rename_i h; rw [h]; rfl
  · rfl
theorem chkL_take (ls : List Fld) (k : Nat) (h : k < ls.length) (h0 : chkL (ls.take k) = 0) (h1 : chk1 ls[k] = 0) : chkL (ls.take (k + 1)) = 0 := by
  rw [List.take_succ_eq_append_getElem h, chkL_app _ _ h0, chkL_one, h1]
theorem chkL_dead (ls : List Fld) (k : Nat) (h : k < ls.length) (h0 : chkL (ls.take k) = 0) (h1 : chk1 ls[k] ≠ 0) : chkL ls = chk1 ls[k] := by
  have e : ls = ls.take k ++ ls[k] :: ls.drop (k + 1) := by rw [← List.drop_eq_getElem_cons h, List.take_append_drop]
  have e2 : chkL (ls.take k ++ ls[k] :: ls.drop (k + 1)) = chk1 ls[k] := by
    rw [chkL_app _ _ h0]
    show (if chk1 ls[k] = 0 then chkL (ls.drop (k + 1)) else chk1 ls[k]) = _
    rw [if_neg h1]
  rw [← e] at e2
  exact e2
theorem chkL_all (ls : List Fld) (h : chkL ls = 0) : ∀ x ∈ ls, chk1 x = 0 := by
  induction ls with
  | nil => intro x hx; cases hx
  | cons a ls ih =>
    unfold chkL at h
    split at h
    · rename_i ha
      intro x hx
      rcases List.mem_cons.1 hx with rfl | hx
      · exact ha
      · exact ih h x hx
    · rename_i ha; exact absurd h ha
theorem chkL_of_all (ls : List Fld) (h : ∀ x ∈ ls, chk1 x = 0) : chkL ls = 0 := by
  induction ls with
  | nil => rfl
  | cons a ls ih =>
    show (if chk1 a = 0 then chkL ls else chk1 a) = 0
    rw [if_pos (h a (List.mem_cons_self ..))]
    exact ih fun x hx => h x (List.mem_cons_of_mem _ hx)
theorem chk_many (ls : List Fld) (h : 30 < ls.length) : chk ls = 2 := by unfold chk; rw [if_pos h]
theorem chk_few (ls : List Fld) (h : ¬ 30 < ls.length) : chk ls = chkL ls := by unfold chk; rw [if_neg h]
theorem chk_zero (ls : List Fld) (h : chk ls = 0) : ls.length ≤ 30 ∧ chkL ls = 0 := by
  unfold chk at h
  split at h
  · cases h
  · exact ⟨by omega, h⟩
end Go.Proofs.YtigbjhkkbgdkcaaGreatDoor

/-
  Plain functions on fields: those of a name, their values as one list, one set in the place of the first, all but those of a name; no program is named here.
-/
namespace Go.Proofs.YtigbjhkkbgdkcaaGreatDoor
open Go.RowKit

/-- Is a field of that name? -/
def nm (s : List UInt8) (x : Fld) : Bool := lower x.1 == lower s
def vals (ls : List Fld) (s : List UInt8) : List (List UInt8) := (ls.filter (nm s)).map (·.2)
def jn (P : List (List UInt8)) : List UInt8 := Lib.join P [44, 32]
def rest1 (s : List UInt8) (ls : List Fld) : List Fld := ls.filter fun x => !nm s x
def setS (s v : List UInt8) : List Fld → List Fld
  | [] => [(s, v)]
  | x :: r => if nm s x then (s, v) :: rest1 s r else x :: setS s v r

theorem tail_app (sep : List UInt8) (a b : List (List UInt8)) : Lib.joinTail sep (a ++ b) = Lib.joinTail sep a ++ Lib.joinTail sep b := by simp [Lib.joinTail]
theorem jn_app (a : List UInt8) (r b : List (List UInt8)) : jn (a :: r ++ b) = jn (a :: r) ++ Lib.joinTail [44, 32] b := by
  unfold jn
  rw [List.cons_append, Lib.join_cons, Lib.join_cons, tail_app, List.append_assoc]
theorem tail_one (sep x : List UInt8) : Lib.joinTail sep [x] = sep ++ x := by simp [Lib.joinTail]
theorem jn_snoc (P : List (List UInt8)) (x : List UInt8) : jn (P ++ [x]) = if P = [] then x else jn P ++ [44, 32] ++ x := by
  cases P with
  | nil => simp [jn, Lib.join_one]
  | cons a r =>
    rw [jn_app, tail_one]
    simp
theorem jn_both (P Q : List (List UInt8)) (hp : P ≠ []) (hq : Q ≠ []) : jn (P ++ Q) = jn P ++ [44, 32] ++ jn Q := by
  cases P with
  | nil => exact absurd rfl hp
  | cons a r =>
    cases Q with
    | nil => exact absurd rfl hq
    | cons b q =>
      rw [jn_app]
      unfold jn
      rw [Lib.join_cons b q]
      simp [Lib.joinTail]
theorem vals_app (a b : List Fld) (s : List UInt8) : vals (a ++ b) s = vals a s ++ vals b s := by simp [vals]
theorem vals_take (ls : List Fld) (s : List UInt8) (k : Nat) (h : k < ls.length) : vals (ls.take (k + 1)) s = vals (ls.take k) s ++ (if nm s ls[k] then [ls[k].2] else []) := by
  rw [List.take_succ_eq_append_getElem h, vals_app]
  congr 1
  unfold vals
  rw [List.filter_cons]
  split <;> rfl
theorem bulkF_app (a b : List Fld) : bulkF (a ++ b) = bulkF a + bulkF b := by simp [bulkF]
theorem bulkF_cons (x : Fld) (r : List Fld) : bulkF (x :: r) = x.1.length + x.2.length + 3 + bulkF r := by simp [bulkF]
theorem lens_vals (ls : List Fld) (s : List UInt8) : Lib.lens (vals ls s) + 2 * (vals ls s).length ≤ bulkF ls := by
  induction ls with
  | nil => simp [vals, Lib.lens]
  | cons x r ih =>
    have e : vals (x :: r) s = (if nm s x then [x.2] else []) ++ vals r s := by
      unfold vals
      rw [List.filter_cons]
      split <;> rfl
    rw [e, bulkF_cons]
    split
    · simp only [List.cons_append, List.nil_append, List.length_cons, Lib.lens, List.map_cons, List.sum_cons] at ih ⊢
      omega
    · simp only [List.nil_append]
      omega
theorem jn_len (P : List (List UInt8)) : (jn P).length ≤ Lib.lens P + 2 * P.length := by
  cases P with
  | nil => simp [jn, Lib.join_nil, Lib.lens]
  | cons a r =>
    unfold jn
    rw [Lib.join_length]
    simp only [List.length_cons, List.length_nil]
    omega
theorem jn_bulk (ls : List Fld) (s : List UInt8) : (jn (vals ls s)).length ≤ bulkF ls := Nat.le_trans (jn_len _) (lens_vals ls s)
theorem bulk_most (ls : List Fld) : ∀ x ∈ ls, x.1.length ≤ bulkF ls ∧ x.2.length ≤ bulkF ls := by
  induction ls with
  | nil => intro x hx; cases hx
  | cons a r ih =>
    intro x hx
    rw [bulkF_cons]
    rcases List.mem_cons.1 hx with rfl | hx
    · omega
    · have := ih x hx; omega
theorem bulk_len (ls : List Fld) : 3 * ls.length ≤ bulkF ls := by
  induction ls with
  | nil => simp [bulkF]
  | cons a r ih => rw [bulkF_cons, List.length_cons]; omega

theorem rest1_app (s : List UInt8) (a b : List Fld) : rest1 s (a ++ b) = rest1 s a ++ rest1 s b := by simp [rest1]
theorem rest1_none (s : List UInt8) (a : List Fld) (h : ∀ x ∈ a, nm s x = false) : rest1 s a = a := by
  unfold rest1
  rw [List.filter_eq_self]
  intro x hx
  rw [h x hx]; rfl
theorem setS_skip (s v : List UInt8) (a b : List Fld) (h : ∀ x ∈ a, nm s x = false) : setS s v (a ++ b) = a ++ setS s v b := by
  induction a with
  | nil => rfl
  | cons x a ih =>
    rw [List.cons_append, setS, if_neg (by rw [h x (List.mem_cons_self ..)]; simp), ih fun y hy => h y (List.mem_cons_of_mem _ hy)]
    rfl
theorem setS_hit (s v : List UInt8) (x : Fld) (r : List Fld) (h : nm s x = true) : setS s v (x :: r) = (s, v) :: rest1 s r := by rw [setS, if_pos h]
/-- What Set of package field puts together: what is ahead of the place, the new one, and what is behind. -/
theorem setS_parts (s v : List UInt8) (ls : List Fld) (k : Nat) (hk : k ≤ ls.length) (h : ∀ x ∈ ls.take k, nm s x = false) (hh : k < ls.length → ∃ x r, ls.drop k = x :: r ∧ nm s x = true) :
    setS s v ls = rest1 s (ls.take k) ++ [(s, v)] ++ rest1 s (ls.drop k) := by
  have e : setS s v ls = setS s v (ls.take k ++ ls.drop k) := by rw [List.take_append_drop]
  rw [e, setS_skip s v _ _ h, rest1_none s _ h]
  by_cases hlt : k < ls.length
  · obtain ⟨x, r, hd, hx⟩ := hh hlt
    have er : rest1 s (x :: r) = rest1 s r := by unfold rest1; rw [List.filter_cons, hx]; rfl
    rw [hd, setS_hit s v x r hx, er]
    simp
  · have : ls.drop k = [] := List.drop_eq_nil_of_le (by omega)
    rw [this]
    simp [setS, rest1]
theorem setS_len (s v : List UInt8) (ls : List Fld) : (setS s v ls).length ≤ ls.length + 1 := by
  induction ls with
  | nil => simp [setS]
  | cons x r ih =>
    unfold setS
    split
    · have := List.length_filter_le (fun x => !nm s x) r
      simp only [List.length_cons, rest1]; omega
    · simp only [List.length_cons]; omega
theorem setS_mem (s v : List UInt8) (ls : List Fld) : ∀ x ∈ setS s v ls, x = (s, v) ∨ x ∈ ls := by
  induction ls with
  | nil => intro x hx; simp [setS] at hx; exact .inl hx
  | cons y r ih =>
    intro x hx
    unfold setS at hx
    split at hx
    · rcases List.mem_cons.1 hx with hx | hx
      · exact .inl hx
      · exact .inr (List.mem_cons_of_mem _ (List.mem_filter.1 hx).1)
    · rcases List.mem_cons.1 hx with hx | hx
      · exact .inr (by rw [hx]; exact List.mem_cons_self ..)
      · rcases ih x hx with h | h
        · exact .inl h
        · exact .inr (List.mem_cons_of_mem _ h)
end Go.Proofs.YtigbjhkkbgdkcaaGreatDoor

/-
  Conditions in plain lists: what the document's Eval answers; no program is named here.
-/
namespace Go.Proofs.YtigbjhkkbgdkcaaGreatDoor
open Go.RowKit

/-- One tag of a list is what the thing's own text asks for (o: what was read of that text). -/
def hitT (weak there : Bool) (o : Tg × Int) (t : Tg) : Bool := (o.2 == 0) && (there && ((t.2 == o.1.2) && (weak || (!t.1 && !o.1.1))))
/-- Is a field there that can be read, and is it met? -/
def mtE (ls : List Fld) (name : List UInt8) (there : Bool) (tag : List UInt8) (weak : Bool) : Bool × Bool :=
  if (vals ls name).isEmpty = true ∨ (liE (jn (vals ls name))).2 ≠ 0 then (false, false)
  else if (liE (jn (vals ls name))).1.2 = true then (true, there)
  else (true, (liE (jn (vals ls name))).1.1.any (hitT weak there (paE tag)))
def rdsB (m : List UInt8) : Bool := (m == [71, 69, 84]) || (m == [72, 69, 65, 68])
/-- What is left where neither If-Match nor If-Unmodified-Since refuses. -/
def ev2 (reads known : Bool) (mo : Int) (inm : Bool × Bool) (n2 : Int) (h2 : Bool) : Int :=
  if (inm.1 && inm.2) = true then (if reads = true then 304 else 412) else if (!inm.1 && (h2 && (known && (reads && decide (mo ≤ n2))))) = true then 304 else 0
def evE (reads known : Bool) (mo : Int) (im inm : Bool × Bool) (n1 : Int) (h1 : Bool) (n2 : Int) (h2 : Bool) : Int :=
  if (im.1 && !im.2) = true then 412 else if (!im.1 && (h1 && (known && decide (n1 < mo)))) = true then 412 else ev2 reads known mo inm n2 h2
def sIM : List UInt8 := [73, 102, 45, 77, 97, 116, 99, 104]
def sIUS : List UInt8 := [73, 102, 45, 85, 110, 109, 111, 100, 105, 102, 105, 101, 100, 45, 83, 105, 110, 99, 101]
def sINM : List UInt8 := [73, 102, 45, 78, 111, 110, 101, 45, 77, 97, 116, 99, 104]
def sIMS : List UInt8 := [73, 102, 45, 77, 111, 100, 105, 102, 105, 101, 100, 45, 83, 105, 110, 99, 101]
theorem any_take {α : Type} (l : List α) (p : α → Bool) (k : Nat) (h : k < l.length) : (l.take (k + 1)).any p = ((l.take k).any p || p l[k]) := by
  rw [List.take_succ_eq_append_getElem h, List.any_append]; simp
theorem hit_cases (weak there : Bool) (o : Tg × Int) (t : Tg) (m : Bool) :
    m = true ∨ (m = false ∧ (o.2 == 0) = false ∧ hitT weak there o t = false) ∨ (m = false ∧ (o.2 == 0) = true ∧ there = false ∧ hitT weak there o t = false) ∨
    (m = false ∧ (o.2 == 0) = true ∧ there = true ∧ (t.2 == o.1.2) = false ∧ hitT weak there o t = false) ∨
    (m = false ∧ (o.2 == 0) = true ∧ there = true ∧ (t.2 == o.1.2) = true ∧ weak = true ∧ hitT weak there o t = true) ∨
    (m = false ∧ (o.2 == 0) = true ∧ there = true ∧ (t.2 == o.1.2) = true ∧ weak = false ∧ t.1 = true ∧ hitT weak there o t = false) ∨
    (m = false ∧ (o.2 == 0) = true ∧ there = true ∧ (t.2 == o.1.2) = true ∧ weak = false ∧ t.1 = false ∧ hitT weak there o t = !o.1.1) := by
  unfold hitT
  cases m
  · right
    cases h1 : (o.2 == 0)
    · simp
    · cases there
      · simp
      · cases h2 : (t.2 == o.1.2)
        · simp
        · cases weak
          · cases t.1 <;> simp
          · simp
  · exact .inl rfl
end Go.Proofs.YtigbjhkkbgdkcaaGreatDoor

/-
  Tags with commas and blanks between them are read as they were; no program is named here.
-/
namespace Go.Proofs.YtigbjhkkbgdkcaaGreatDoor
open Go.RowKit

def gaps : List (List UInt8) := [[44], [44, 32], [32, 44, 9], [44, 44], [32, 44, 32, 44, 32]]
/-- Where the reading stands: the tags that were read, and the one whose piece isn't at its end. -/
def Kst (x : QC) (ts : List Tg) (pend : Option Tg) : Prop := x.q = false ∧ tagsE (x.ps.map trimL) = some ts ∧ trimL x.cur = (match pend with | none => [] | some t => prG t)
theorem prG_trim (t : Tg) : trimL (prG t) = prG t := by
  obtain ⟨w, x⟩ := t
  apply trimL_stays
  · intro b hb
    cases w
    · have : b = 34 := by simpa [prG] using hb.symm
      subst this; rfl
    · have : b = 87 := by simpa [prG] using hb.symm
      subst this; rfl
  · intro b hb
    have e : prG (w, x) = ((if w = true then [87, 47] else []) ++ (34 :: x)) ++ [34] := by unfold prG; simp
    rw [e, List.getLast?_append] at hb
    have : b = 34 := by simpa using hb.symm
    subst this; rfl
theorem Kst.blk {x : QC} {ts : List Tg} {p : Option Tg} (h : Kst x ts p) (b : UInt8) (hb : blank b = true) (h44 : b ≠ 44) (h34 : b ≠ 34) : Kst (qstep x b) ts p := by
  obtain ⟨h1, h2, h3⟩ := h
  unfold qstep
  rw [if_neg (fun h => h44 h.1), if_neg h34]
  exact ⟨h1, h2, by rw [trimL_last _ _ hb]; exact h3⟩
theorem Kst.comma {x : QC} {ts : List Tg} {p : Option Tg} (h : Kst x ts p) (hp : ∀ t, p = some t → (prE t).2 = 0) : Kst (qstep x 44) (ts ++ p.toList) none := by
  obtain ⟨h1, h2, h3⟩ := h
  unfold qstep
  rw [if_pos ⟨rfl, h1⟩]
  refine ⟨h1, ?_, rfl⟩
  rw [List.map_append, List.map_singleton, tags_snoc, h2, h3]
  cases p with
  | none => simp [tstep]
  | some t =>
    have ht := hp t rfl
    have hb := paE_back t ht
    rw [(prE_ok t ht).1] at hb
    have hne : (prG t).isEmpty = false := by
      have := prG_len t
      cases hq : prG t with
      | nil => rw [hq, List.length_nil] at this; omega
      | cons _ _ => rfl
    unfold tstep
    simp only [hne, hb]; rfl
theorem quoted_run (x : List UInt8) (hx : x.all etB = true) : ∀ (ps : List (List UInt8)) (cur : List UInt8), x.foldl qstep ⟨ps, cur, true⟩ = ⟨ps, cur ++ x, true⟩ := by
  induction x with
  | nil => intro ps cur; simp
  | cons c x ih =>
    intro ps cur
    rw [List.all_cons, Bool.and_eq_true] at hx
    have h34 : c ≠ 34 := by
      intro e; subst e; exact absurd hx.1 (by decide)
    rw [List.foldl_cons]
    have : qstep ⟨ps, cur, true⟩ c = ⟨ps, cur ++ [c], true⟩ := by
      unfold qstep
      rw [if_neg (fun h => by cases h.2), if_neg h34]
    rw [this, ih hx.2]; simp
theorem tag_run (t : Tg) (ht : t.2.all etB = true) (ps : List (List UInt8)) (cur : List UInt8) : (prG t).foldl qstep ⟨ps, cur, false⟩ = ⟨ps, cur ++ prG t, false⟩ := by
  obtain ⟨w, x⟩ := t
  have hq : ∀ cur : List UInt8, (34 :: (x ++ [34])).foldl qstep ⟨ps, cur, false⟩ = ⟨ps, cur ++ (34 :: (x ++ [34])), false⟩ := by
    intro cur
    rw [List.foldl_cons]
    have : qstep ⟨ps, cur, false⟩ 34 = ⟨ps, cur ++ [34], true⟩ := by unfold qstep; rfl
    rw [this, List.foldl_append, quoted_run x ht]
    show qstep ⟨ps, cur ++ [34] ++ x, true⟩ 34 = _
    unfold qstep
    simp
  cases w
  · exact hq cur
  · show ([87, 47] ++ (34 :: (x ++ [34]))).foldl qstep _ = _
    rw [List.foldl_append]
    have : [87, 47].foldl qstep ⟨ps, cur, false⟩ = ⟨ps, cur ++ [87, 47], false⟩ := by
      simp [qstep]
    rw [this, hq]; simp [prG]
theorem Kst.tag {x : QC} {ts : List Tg} (h : Kst x ts none) (t : Tg) (ht : t.2.all etB = true) : Kst ((prG t).foldl qstep x) ts (some t) := by
  obtain ⟨ps, cur, q⟩ := x
  obtain ⟨h1, h2, h3⟩ := h
  simp only at h1 h2 h3
  subst h1
  rw [tag_run t ht]
  refine ⟨rfl, h2, ?_⟩
  show trimL (cur ++ prG t) = prG t
  have gen : ∀ (c l : List UInt8), c.all blank = true → trimL (c ++ l) = trimL l := by
    intro c l
    induction c with
    | nil => intro _; rfl
    | cons b c ih =>
      intro hc
      rw [List.all_cons, Bool.and_eq_true] at hc
      rw [List.cons_append, trimL_first _ _ hc.1, ih hc.2]
  have hall : cur.all blank = true := by
    have hk : ∀ (n : Nat) (c : List UInt8), c.length ≤ n → trimL c = [] → c.all blank = true := by
      intro n
      induction n with
      | zero => intro c hc _; rw [List.eq_nil_of_length_eq_zero (Nat.le_zero.1 hc)]; rfl
      | succ n ih =>
        intro c hc h0
        cases c with
        | nil => rfl
        | cons b c =>
          by_cases hb : blank b = true
          · rw [trimL_first _ _ hb] at h0
            rw [List.all_cons, hb, ih c (by simp at hc; omega) h0]; rfl
          · exfalso
            have hdw : ∀ (m : List UInt8), (b :: m).dropWhile blank = b :: m := fun m => by rw [List.dropWhile_cons, if_neg hb]
            rw [trimL_eq] at h0
            have hr : ∃ m, ((b :: c).reverse.dropWhile blank).reverse = b :: m := by
              rw [List.reverse_cons, List.dropWhile_append]
              split
              · refine ⟨[], ?_⟩
                rw [show ([b] : List UInt8).dropWhile blank = [b] from hdw []]; rfl
              · exact ⟨(c.reverse.dropWhile blank).reverse, by simp⟩
            obtain ⟨m, hm⟩ := hr
            rw [hm, hdw] at h0; cases h0
    exact hk _ _ (Nat.le_refl _) h3
  rw [gen cur _ hall, prG_trim]
theorem Kst.gap {x : QC} {ts : List Tg} {t : Tg} (h : Kst x ts (some t)) (ht : (prE t).2 = 0) (g : List UInt8) (hg : g ∈ gaps) : Kst (g.foldl qstep x) (ts ++ [t]) none := by
  have h1 : ∀ {y : QC}, Kst y ts (some t) → Kst (qstep y 44) (ts ++ [t]) none := fun hy => hy.comma (fun t' e => by cases e; exact ht)
  have h2 : ∀ {y : QC}, Kst y (ts ++ [t]) none → Kst (qstep y 44) (ts ++ [t]) none := fun hy => by
    have := hy.comma (fun t' e => by cases e)
    simpa using this
  simp only [gaps, List.mem_cons, List.not_mem_nil, or_false] at hg
  rcases hg with rfl | rfl | rfl | rfl | rfl
  · exact h1 h
  · exact (h1 h).blk 32 rfl (by decide) (by decide)
  · exact (h1 (h.blk 32 rfl (by decide) (by decide))).blk 9 rfl (by decide) (by decide)
  · exact h2 (h1 h)
  · exact ((h2 ((h1 (h.blk 32 rfl (by decide) (by decide))).blk 32 rfl (by decide) (by decide))).blk 32 rfl (by decide) (by decide))
theorem list_run (g : List UInt8) (hg : g ∈ gaps) (want : List Tg) : ∀ (ts : List Tg) (x : QC), (∀ t ∈ want, (prE t).2 = 0) → Kst x ts none → Kst ((want.flatMap fun t => prG t ++ g).foldl qstep x) (ts ++ want) none := by
  induction want with
  | nil => intro ts x _ h; simpa using h
  | cons t want ih =>
    intro ts x hw h
    have ht := hw t (List.mem_cons_self ..)
    rw [List.flatMap_cons, List.foldl_append, List.foldl_append]
    have := ih (ts ++ [t]) _ (fun y hy => hw y (List.mem_cons_of_mem _ hy)) ((h.tag t (prE_ok t ht).2.2).gap ht g hg)
    simpa using this
/-- What TagListBack reads. -/
theorem list_back (g : List UInt8) (hg : g ∈ gaps) (want : List Tg) (hw : ∀ t ∈ want, (prE t).2 = 0) (h0 : want ≠ []) (h20 : want.length ≤ 20) (hl : (want.flatMap fun t => prG t ++ g).length ≤ 1000) :
    liE (want.flatMap fun t => prG t ++ g) = ((want, false), 0) := by
  have hk := list_run g hg want [] ⟨[], [], false⟩ hw ⟨rfl, rfl, rfl⟩
  obtain ⟨h1, h2, h3⟩ := hk
  unfold liE
  rw [if_neg (by omega)]
  have hne : ¬ (want.flatMap fun t => prG t ++ g) = [42] := by
    intro e
    cases want with
    | nil => exact h0 rfl
    | cons t want =>
      have := congrArg List.length e
      rw [List.flatMap_cons, List.length_append, List.length_append, prG_len] at this
      simp at this; omega
  rw [if_neg hne]
  have hq : tagsE ((qps (want.flatMap fun t => prG t ++ g)).map trimL) = some want := by
    unfold qps qcut
    rw [List.map_append, List.map_singleton, tags_snoc, h2, h3]
    simp [tstep]
  rw [hq]
  have hn : want.isEmpty = false := by cases want with | nil => exact absurd rfl h0 | cons _ _ => rfl
  simp only [hn]
  rw [if_neg (by simp), if_neg (by omega)]
end Go.Proofs.YtigbjhkkbgdkcaaGreatDoor

/-
  Conditions in plain lists: what the laws without the document's answer say of them; no program is named here.
-/
namespace Go.Proofs.YtigbjhkkbgdkcaaGreatDoor
open Go.RowKit

/-- The fields without conditions. -/
def plain4 (ls : List Fld) : List Fld := rest1 sIUS (rest1 sIMS (rest1 sINM (rest1 sIM ls)))
theorem vals_rest_same (ls : List Fld) (s s' : List UInt8) (h : lower s = lower s') : vals (rest1 s ls) s' = [] := by
  unfold vals rest1
  rw [List.filter_filter]
  have : ls.filter (fun a => nm s' a && !nm s a) = [] := by
    rw [List.filter_eq_nil_iff]
    intro a _
    unfold nm
    rw [h]
    cases lower a.1 == lower s' <;> simp
  rw [this]; rfl
theorem vals_rest_nil (ls : List Fld) (s s' : List UInt8) (h : vals ls s' = []) : vals (rest1 s ls) s' = [] := by
  unfold vals rest1 at *
  rw [List.map_eq_nil_iff] at h ⊢
  rw [List.filter_eq_nil_iff] at h ⊢
  intro a ha
  exact h a (List.mem_filter.1 ha).1
theorem vals_plain (ls : List Fld) : vals (plain4 ls) sIM = [] ∧ vals (plain4 ls) sINM = [] ∧ vals (plain4 ls) sIMS = [] ∧ vals (plain4 ls) sIUS = [] := by
  unfold plain4
  refine ⟨?_, ?_, ?_, ?_⟩
  · exact vals_rest_nil _ _ _ (vals_rest_nil _ _ _ (vals_rest_nil _ _ _ (vals_rest_same _ _ _ rfl)))
  · exact vals_rest_nil _ _ _ (vals_rest_nil _ _ _ (vals_rest_same _ _ _ rfl))
  · exact vals_rest_nil _ _ _ (vals_rest_same _ _ _ rfl)
  · exact vals_rest_same _ _ _ rfl
theorem vals_with_same (ls : List Fld) (s v s' : List UInt8) (h : lower s = lower s') : vals (ls ++ [(s, v)]) s' = vals ls s' ++ [v] := by
  rw [vals_app]
  have : vals [(s, v)] s' = [v] := by
    unfold vals nm
    rw [List.filter_cons, if_pos (by rw [h]; exact beq_self_eq_true _)]; rfl
  rw [this]
theorem vals_with_other (ls : List Fld) (s v s' : List UInt8) (h : lower s ≠ lower s') : vals (ls ++ [(s, v)]) s' = vals ls s' := by
  rw [vals_app]
  have : vals [(s, v)] s' = [] := by
    unfold vals nm
    rw [List.filter_cons, if_neg (by simpa using h)]; rfl
  rw [this, List.append_nil]
theorem names_apart : lower sIM ≠ lower sINM ∧ lower sIM ≠ lower sIMS ∧ lower sIM ≠ lower sIUS ∧ lower sINM ≠ lower sIMS ∧ lower sINM ≠ lower sIUS ∧ lower sIMS ≠ lower sIUS := by
  decide +kernel
theorem jn_one (v : List UInt8) : jn [v] = v := by simp [jn, Lib.join_one]
theorem liE_star : liE [42] = (([], true), 0) := rfl
theorem liE_one (t : Tg) (h : (prE t).2 = 0) : liE (prG t) = (([t], false), 0) := by
  obtain ⟨h1, h2, h3⟩ := prE_ok t h
  have hl := prG_len t
  have hr := tag_run t h3 [] []
  have hq : qps (prG t) = [prG t] := by
    unfold qps qcut
    rw [hr]; rfl
  have hp := paE_back t h
  rw [h1] at hp
  have hne : (prG t).isEmpty = false := by
    cases hc : prG t with
    | nil => rw [hc] at hl; simp at hl; omega
    | cons _ _ => rfl
  unfold liE
  rw [if_neg (by rw [hl]; split <;> omega), if_neg (by
    intro e
    rw [e] at hl
    simp at hl
    omega), hq]
  have : tagsE ([prG t].map trimL) = some [t] := by
    simp only [List.map_cons, List.map_nil, prG_trim]
    simp [tagsE, tstep, hne, hp]
  rw [this]; rfl
theorem mt_none {ls : List Fld} {name : List UInt8} (there : Bool) (tag : List UInt8) (weak : Bool) (h : vals ls name = []) : mtE ls name there tag weak = (false, false) := by
  unfold mtE; rw [h]; rfl
theorem mt_star {ls : List Fld} {name : List UInt8} (there : Bool) (tag : List UInt8) (weak : Bool) (h : vals ls name = [[42]]) : mtE ls name there tag weak = (true, there) := by
  unfold mtE; rw [h, jn_one, liE_star]; rfl
theorem mt_one {ls : List Fld} {name : List UInt8} (there : Bool) (tag : List UInt8) (weak : Bool) (t : Tg) (ht : (prE t).2 = 0) (h : vals ls name = [prG t]) : mtE ls name there tag weak = (true, hitT weak there (paE tag) t) := by
  unfold mtE; rw [h, jn_one, liE_one t ht]; simp
theorem mt_there {ls : List Fld} {name : List UInt8} {there : Bool} {tag : List UInt8} {weak a b : Bool} (h : mtE ls name there tag weak = (a, b)) (hb : b = true) : there = true := by
  unfold mtE at h
  subst hb
  split at h
  · cases (Prod.mk.inj h).2
  · split at h
    · exact (Prod.mk.inj h).2
    · have h2 := (Prod.mk.inj h).2
      rw [List.any_eq_true] at h2
      obtain ⟨t, _, ht⟩ := h2
      unfold hitT at ht
      simp only [Bool.and_eq_true] at ht
      exact ht.2.1
/-- Who is told something is told 304 or 412. -/
theorem ev_range (rd kn : Bool) (mo : Int) (im inm : Bool × Bool) (n1 : Int) (h1 : Bool) (n2 : Int) (h2 : Bool) : evE rd kn mo im inm n1 h1 n2 h2 = 0 ∨ evE rd kn mo im inm n1 h1 n2 h2 = 304 ∨ evE rd kn mo im inm n1 h1 n2 h2 = 412 := by
  unfold evE ev2
  split
  · simp
  · split
    · simp
    · split
      · split <;> simp
      · split <;> simp
/-- 304 only who reads what is there. -/
theorem ev_reads {rd there : Bool} {mo : Int} {im inm : Bool × Bool} {n1 : Int} {h1 : Bool} {n2 : Int} {h2 : Bool} (hi : inm.2 = true → there = true) (h : evE rd (there && decide (0 ≤ mo)) mo im inm n1 h1 n2 h2 = 304) : rd = true ∧ there = true := by
  unfold evE ev2 at h
  split at h
  · cases h
  · split at h
    · cases h
    · split at h
      · rename_i hq
        simp only [Bool.and_eq_true] at hq
        cases rd
        · cases h
        · exact ⟨rfl, hi hq.2⟩
      · split at h
        · rename_i hq
          simp only [Bool.and_eq_true] at hq
          exact ⟨hq.2.2.2.1, hq.2.2.1.1⟩
        · cases h
theorem ev_none (rd kn : Bool) (mo n1 n2 : Int) : evE rd kn mo (false, false) (false, false) n1 false n2 false = 0 := rfl
theorem ev_im (rd kn : Bool) (mo n1 n2 : Int) (b : Bool) : evE rd kn mo (true, b) (false, false) n1 false n2 false = if b = true then 0 else 412 := by cases b <;> rfl
theorem ev_inm (rd kn : Bool) (mo n1 n2 : Int) (b : Bool) : evE rd kn mo (false, false) (true, b) n1 false n2 false = if b = true then (if rd = true then 304 else 412) else 0 := by cases b <;> rfl
theorem ev_ims (rd kn : Bool) (mo n1 n2 : Int) : evE rd kn mo (false, false) (false, false) n1 false n2 true = if (kn && (rd && decide (mo ≤ n2))) = true then 304 else 0 := rfl
theorem ev_iuse (rd kn : Bool) (mo n1 n2 : Int) : evE rd kn mo (false, false) (false, false) n1 true n2 false = if (kn && decide (n1 < mo)) = true then 412 else 0 := rfl
/-- Where there are tags, dates are of no matter. -/
theorem ev_first2 (rd kn : Bool) (mo n1 n2 n2' : Int) (im : Bool × Bool) (h1 h2 h2' b : Bool) : evE rd kn mo im (true, b) n1 h1 n2 h2 = evE rd kn mo im (true, b) n1 h1 n2' h2' := by
  unfold evE ev2; rfl
theorem ev_first1 (rd kn : Bool) (mo n1 n1' n2 : Int) (inm : Bool × Bool) (h1 h1' h2 b : Bool) : evE rd kn mo (true, b) inm n1 h1 n2 h2 = evE rd kn mo (true, b) inm n1' h1' n2 h2 := by
  unfold evE; rfl
theorem hit_mine (t : Tg) : hitT true true (t, 0) t = true ∧ hitT false true (t, 0) t = !t.1 := by
  unfold hitT
  simp
end Go.Proofs.YtigbjhkkbgdkcaaGreatDoor

/-
  The calendar in plain numbers: leap years, months, how many days are ahead of a year and of a month; days and their numbers, one for one. No program is named here.
-/
namespace Go.Proofs.YtigbjhkkbgdkcaaGreatDoor
open Go.RowKit

def lp (y : Int) : Int := if y % 4 = 0 ∧ (y % 100 ≠ 0 ∨ y % 400 = 0) then 1 else 0
def lpB (y : Int) : Bool := lp y == 1
def dim (y m : Int) : Int := if m = 2 then 28 + lp y else if m = 4 ∨ m = 6 ∨ m = 9 ∨ m = 11 then 30 else 31
def dby (y : Int) : Int := (y - 1970) * 365 + ((y - 1) / 4 - (y - 1) / 100 + (y - 1) / 400) - 477
def cum (y m : Int) : Int :=
  if m ≤ 1 then 0 else if m = 2 then 31 else if m = 3 then 59 + lp y else if m = 4 then 90 + lp y else if m = 5 then 120 + lp y
  else if m = 6 then 151 + lp y else if m = 7 then 181 + lp y else if m = 8 then 212 + lp y else if m = 9 then 243 + lp y
  else if m = 10 then 273 + lp y else if m = 11 then 304 + lp y else if m = 12 then 334 + lp y else 365 + lp y
def num (y m d : Int) : Int := dby y + cum y m + d - 1
def vldB (y m d : Int) : Bool := decide (1970 ≤ y ∧ y ≤ 9999 ∧ 1 ≤ m ∧ m ≤ 12 ∧ 1 ≤ d ∧ d ≤ dim y m)

theorem vld_iff {y m d : Int} : vldB y m d = true ↔ 1970 ≤ y ∧ y ≤ 9999 ∧ 1 ≤ m ∧ m ≤ 12 ∧ 1 ≤ d ∧ d ≤ dim y m := by unfold vldB; simp
theorem vld_mk {y m d : Int} (h : 1970 ≤ y ∧ y ≤ 9999 ∧ 1 ≤ m ∧ m ≤ 12 ∧ 1 ≤ d ∧ d ≤ dim y m) : vldB y m d = true := vld_iff.2 h
theorem vld_no {y m d : Int} (h : ¬ (1970 ≤ y ∧ y ≤ 9999 ∧ 1 ≤ m ∧ m ≤ 12 ∧ 1 ≤ d ∧ d ≤ dim y m)) : vldB y m d = false := by unfold vldB; simpa using h

theorem lp_01 (y : Int) : 0 ≤ lp y ∧ lp y ≤ 1 := by unfold lp; split <;> omega
theorem lp_or (y : Int) : lp y = 0 ∨ lp y = 1 := by unfold lp; split <;> simp
theorem dim_lo (y m : Int) : 28 ≤ dim y m ∧ dim y m ≤ 31 := by
  have := lp_01 y
  unfold dim; split <;> (try split) <;> omega
theorem dby_succ (y : Int) : dby (y + 1) = dby y + 365 + lp y := by
  unfold dby lp; split <;> omega
theorem dby_mono (a b : Int) (h : a ≤ b) : dby a ≤ dby b := by unfold dby; omega
theorem dby_bd (a : Int) (h0 : 1970 ≤ a) (h : a ≤ 10000) : 0 ≤ dby a ∧ dby a ≤ 2932897 := by unfold dby; omega
theorem dby_0 : dby 1970 = 0 := by decide
theorem dby_max : dby 10000 = 2932897 := by decide
theorem dby_guess (n : Int) (h : 0 ≤ n) : dby (1970 + n / 366) ≤ n := by unfold dby; omega
theorem dby_400 (y : Int) : dby (y + 400) = dby y + 146097 := by unfold dby; omega
theorem lp_400 (y : Int) : lp (y + 400) = lp y := by unfold lp; split <;> split <;> omega
theorem dim_400 (y m : Int) : dim (y + 400) m = dim y m := by unfold dim; rw [lp_400]
theorem cum_400 (y m : Int) : cum (y + 400) m = cum y m := by unfold cum; rw [lp_400]

theorem m12 {m : Int} (h1 : 1 ≤ m) (h2 : m ≤ 12) : m = 1 ∨ m = 2 ∨ m = 3 ∨ m = 4 ∨ m = 5 ∨ m = 6 ∨ m = 7 ∨ m = 8 ∨ m = 9 ∨ m = 10 ∨ m = 11 ∨ m = 12 := by omega

theorem cum_succ (y m : Int) (h1 : 1 ≤ m) (h2 : m ≤ 12) : cum y (m + 1) = cum y m + dim y m := by
  rcases m12 h1 h2 with rfl | rfl | rfl | rfl | rfl | rfl | rfl | rfl | rfl | rfl | rfl | rfl <;> simp [cum, dim] <;> omega
theorem cum_one (y : Int) : cum y 1 = 0 := by simp [cum]
theorem cum_13 (y : Int) : cum y 13 = 365 + lp y := by simp [cum]
theorem cum_bd (y m : Int) : 0 ≤ cum y m ∧ cum y m ≤ 366 := by
  have := lp_01 y
  unfold cum
  repeat (first | omega | split)
theorem cum_mono (y a b : Int) (h1 : 1 ≤ a) (h2 : a < b) (h3 : b ≤ 13) : cum y a + dim y a ≤ cum y b := by
  have := lp_01 y
  rcases m12 h1 (show a ≤ 12 by omega) with rfl | rfl | rfl | rfl | rfl | rfl | rfl | rfl | rfl | rfl | rfl | rfl
  all_goals
    rcases (show b = 2 ∨ b = 3 ∨ b = 4 ∨ b = 5 ∨ b = 6 ∨ b = 7 ∨ b = 8 ∨ b = 9 ∨ b = 10 ∨ b = 11 ∨ b = 12 ∨ b = 13 by omega) with rfl | rfl | rfl | rfl | rfl | rfl | rfl | rfl | rfl | rfl | rfl | rfl
    all_goals first | omega | (simp [cum, dim] <;> omega)

theorem num_lo {y m d : Int} (h : vldB y m d = true) : dby y ≤ num y m d ∧ num y m d < dby (y + 1) := by
  obtain ⟨a, b, c, e, f, g⟩ := vld_iff.1 h
  have h1 := cum_bd y m
  have h2 := cum_succ y m c e
  have h3 : cum y (m + 1) ≤ cum y 13 := by
    by_cases hm : m = 12
    · subst hm; exact Int.le_refl _
    · have := cum_mono y (m + 1) 13 (by omega) (by omega) (by omega)
      have := dim_lo y (m + 1); omega
  have h4 := dby_succ y
  rw [cum_13] at h3
  unfold num; omega
theorem num_bd {y m d : Int} (h : vldB y m d = true) : 0 ≤ num y m d ∧ num y m d ≤ 2932896 := by
  obtain ⟨a, b, _⟩ := vld_iff.1 h
  have h1 := num_lo h
  have h2 := dby_bd y a (by omega)
  have h3 := dby_mono (y + 1) 10000 (by omega)
  rw [dby_max] at h3; omega

theorem num_lt {y m d z k c : Int} (h : vldB y m d = true) (h' : vldB z k c = true) (hl : y < z ∨ y = z ∧ (m < k ∨ m = k ∧ d < c)) : num y m d < num z k c := by
  rcases hl with hl | ⟨rfl, hl | ⟨rfl, hl⟩⟩
  · have := num_lo h
    have := num_lo h'
    have := dby_mono (y + 1) z (by omega)
    omega
  · obtain ⟨a, b, c, e, f, g⟩ := vld_iff.1 h
    obtain ⟨a', b', c', e', f', g'⟩ := vld_iff.1 h'
    have := cum_mono y m k c hl (by omega)
    unfold num; omega
  · unfold num; omega
theorem num_order {y m d z k c : Int} (h : vldB y m d = true) (h' : vldB z k c = true) : num y m d < num z k c ↔ y < z ∨ y = z ∧ (m < k ∨ m = k ∧ d < c) := by
  refine ⟨fun hl => ?_, num_lt h h'⟩
  by_cases g : y < z ∨ y = z ∧ (m < k ∨ m = k ∧ d < c)
  · exact g
  · rcases (show z < y ∨ z = y ∧ (k < m ∨ k = m ∧ c < d) ∨ (y = z ∧ m = k ∧ d = c) by omega) with g' | g' | ⟨rfl, rfl, rfl⟩
    · have := num_lt h' h (.inl g'); omega
    · have := num_lt h' h (.inr g'); omega
    · omega
theorem num_inj {y m d z k c : Int} (h : vldB y m d = true) (h' : vldB z k c = true) (e : num y m d = num z k c) : y = z ∧ m = k ∧ d = c := by
  have a := (num_order h h').2
  have b := (num_order h' h).2
  rcases (show (y < z ∨ y = z ∧ (m < k ∨ m = k ∧ d < c)) ∨ (z < y ∨ z = y ∧ (k < m ∨ k = m ∧ c < d)) ∨ (y = z ∧ m = k ∧ d = c) by omega) with g | g | g
  · have := a g; omega
  · have := b g; omega
  · exact g
theorem num_400 (y m d : Int) : num (y + 400) m d = num y m d + 146097 := by
  unfold num; rw [dby_400, cum_400]; omega
theorem vld_400 (y m d : Int) (h : vldB y m d = true) (h' : y ≤ 9599) : vldB (y + 400) m d = true := by
  have := vld_iff.1 h
  refine vld_mk ?_
  rw [dim_400]; omega
theorem vld_400' (y m d : Int) (h : vldB (y + 400) m d = true) (h' : 1970 ≤ y) : vldB y m d = true := by
  have := vld_iff.1 h
  rw [dim_400] at this
  exact vld_mk (by omega)

theorem num_of (n y k : Int) : num y k (n - dby y - cum y k + 1) = n := by unfold num; omega
theorem vld_of (n y k : Int) (a : 1970 ≤ y) (b : y ≤ 9999) (c : 1 ≤ k) (d : k ≤ 12) (e : 0 ≤ n - dby y - cum y k) (f : n - dby y - cum y k < dim y k) : vldB y k (n - dby y - cum y k + 1) = true :=
  vld_mk (by omega)

/-- the day behind a day -/
theorem num_next {y m d z k c : Int} (h : vldB y m d = true) (h' : vldB z k c = true) (e : num z k c = num y m d + 1) :
    (z = y ∧ k = m ∧ c = d + 1 ∧ c ≤ 31) ∨ (z = y ∧ k = m + 1 ∧ c = 1 ∧ 28 ≤ d ∧ d ≤ 31) ∨ (z = y + 1 ∧ m = 12 ∧ k = 1 ∧ c = 1 ∧ 28 ≤ d ∧ d ≤ 31) := by
  obtain ⟨a1, a2, a3, a4, a5, a6⟩ := vld_iff.1 h
  have hd := dim_lo y m
  have b := vld_iff.1 h'
  by_cases h1 : d < dim y m
  · have hv : vldB y m (d + 1) = true := vld_mk (by omega)
    have := num_inj h' hv (by rw [e]; unfold num; omega)
    left; omega
  · by_cases h2 : m = 12
    · subst h2
      have hy : y < 9999 := by
        by_cases hy : y < 9999
        · exact hy
        · have hb := num_bd h'
          obtain rfl : y = 9999 := by omega
          rw [e] at hb
          have h3 : dim 9999 12 = 31 := by decide
          obtain rfl : d = 31 := by omega
          have h4 : num 9999 12 31 = 2932896 := by decide
          rw [h4] at hb; omega
      have hdd := dim_lo (y + 1) 1
      have hv : vldB (y + 1) 1 1 = true := vld_mk (by omega)
      have h4 := dby_succ y
      have h5 : cum y 12 = 334 + lp y := by simp [cum]
      have h6 : dim y 12 = 31 := by simp [dim]
      have := num_inj h' hv (by rw [e]; unfold num; rw [cum_one]; omega)
      right; right; omega
    · have hdd := dim_lo y (m + 1)
      have hv : vldB y (m + 1) 1 = true := vld_mk (by omega)
      have hc := cum_succ y m a3 a4
      have := num_inj h' hv (by rw [e]; unfold num; omega)
      right; left; omega
end Go.Proofs.YtigbjhkkbgdkcaaGreatDoor

/-
  Dates as lists of bytes: the names of days and months, numbers in two and in four digits, the text of a second; no program is named here.
-/
namespace Go.Proofs.YtigbjhkkbgdkcaaGreatDoor
open Go.RowKit

def weekL : List (List UInt8) := [[84, 104, 117], [70, 114, 105], [83, 97, 116], [83, 117, 110], [77, 111, 110], [84, 117, 101], [87, 101, 100]]
def monthL : List (List UInt8) := [[74, 97, 110], [70, 101, 98], [77, 97, 114], [65, 112, 114], [77, 97, 121], [74, 117, 110], [74, 117, 108], [65, 117, 103], [83, 101, 112], [79, 99, 116], [78, 111, 118], [68, 101, 99]]
def weekS (k : Nat) : List UInt8 := weekL.getD k []
def monthS (k : Nat) : List UInt8 := monthL.getD k []
def dg (u : Nat) : UInt8 := UInt8.ofNat (48 + u)
def dig2 (u : Nat) : List UInt8 := [dg (u / 10), dg (u % 10)]
def dig4 (u : Nat) : List UInt8 := [dg (u / 1000), dg (u / 100 % 10), dg (u / 10 % 10), dg (u % 10)]

/-- the text of second n, on the day (y, m, d) -/
def dtext (n y m d : Int) : List UInt8 :=
  weekS (n / 86400 % 7).toNat ++ [44, 32] ++ dig2 d.toNat ++ [32] ++ monthS (m - 1).toNat ++ [32] ++ dig4 y.toNat ++ [32]
    ++ dig2 (n % 86400 / 3600).toNat ++ [58] ++ dig2 (n % 3600 / 60).toNat ++ [58] ++ dig2 (n % 60).toNat ++ [32, 71, 77, 84]

theorem week_len (k : Nat) (h : k < 7) : (weekS k).length = 3 := by
  rcases (show k = 0 ∨ k = 1 ∨ k = 2 ∨ k = 3 ∨ k = 4 ∨ k = 5 ∨ k = 6 by omega) with rfl | rfl | rfl | rfl | rfl | rfl | rfl <;> rfl
theorem month_len (k : Nat) (h : k < 12) : (monthS k).length = 3 := by
  rcases (show k = 0 ∨ k = 1 ∨ k = 2 ∨ k = 3 ∨ k = 4 ∨ k = 5 ∨ k = 6 ∨ k = 7 ∨ k = 8 ∨ k = 9 ∨ k = 10 ∨ k = 11 by omega) with rfl | rfl | rfl | rfl | rfl | rfl | rfl | rfl | rfl | rfl | rfl | rfl <;> rfl
theorem dig2_len (u : Nat) : (dig2 u).length = 2 := rfl
theorem dig4_len (u : Nat) : (dig4 u).length = 4 := rfl

theorem dec_1 (u : Nat) (h : u < 10) : [48] ++ Lib.decDigits u = dig2 u := by
  rw [Lib.decDigits_one h]
  unfold dig2
  rw [show u / 10 = 0 by omega, show u % 10 = u by omega]; rfl
theorem dec_2 (u : Nat) (h1 : ¬ u < 10) (h2 : u < 100) : Lib.decDigits u = dig2 u := Lib.decDigits_two h1 h2
theorem dec_4 (u : Nat) (h1 : 1000 ≤ u) (h2 : u ≤ 9999) : Lib.decDigits u = dig4 u := by
  rw [Lib.decDigits, dif_neg (by omega), Lib.decDigits, dif_neg (by omega), Lib.decDigits_two (by omega) (by omega)]
  unfold dig4
  rw [show u / 10 / 10 / 10 = u / 1000 by omega, show u / 10 / 10 % 10 = u / 100 % 10 by omega]
  rfl

theorem dtext_len (n y m d : Int) (h1 : 1 ≤ m) (h2 : m ≤ 12) : (dtext n y m d).length = 29 := by
  unfold dtext
  simp only [List.length_append, dig2_len, dig4_len, week_len (n / 86400 % 7).toNat (by omega), month_len (m - 1).toNat (by omega), List.length_cons, List.length_nil]
end Go.Proofs.YtigbjhkkbgdkcaaGreatDoor

/-
  How a date's text is read in plain lists: numbers of digits, months by their names, the places where they stand; only one second has a given text. No program is named here.
-/
namespace Go.Proofs.YtigbjhkkbgdkcaaGreatDoor
open Go.RowKit

def sl (l : List UInt8) (i j : Nat) : List UInt8 := (l.drop i).take (j - i)
def numb (l : List UInt8) : Int := l.foldl (fun n c => n * 10 + (c.toNat : Int) - 48) 0
def mnumAt (x : List UInt8) (k : Nat) : Int := if k < 12 then if monthS k = x then (k : Int) + 1 else mnumAt x (k + 1) else 0
termination_by 12 - k
def mnum (x : List UInt8) : Int := mnumAt x 0

/-- l is the text of second n -/
def IsDT (l : List UInt8) (n : Int) : Prop := 0 ≤ n ∧ n ≤ 253402300799 ∧ ∃ y m d : Int, vldB y m d = true ∧ num y m d = n / 86400 ∧ l = dtext n y m d

def gY (l : List UInt8) : Int := numb (sl l 12 16)
def gM (l : List UInt8) : Int := mnum (sl l 8 11)
def gD (l : List UInt8) : Int := numb (sl l 5 7)
def gS (l : List UInt8) : Int := numb (sl l 17 19) * 3600 + numb (sl l 20 22) * 60 + numb (sl l 23 25)
def gss (l : List UInt8) : Int := num (gY l) (gM l) (gD l) * 86400 + gS l

theorem numb_snoc (l : List UInt8) (c : UInt8) : numb (l ++ [c]) = numb l * 10 + (c.toNat : Int) - 48 := by unfold numb; rw [List.foldl_append]; rfl

theorem dg_nat (u : Nat) (h : u < 10) : (dg u).toNat = 48 + u := by
  unfold dg
  rw [UInt8.toNat_ofNat', Nat.mod_eq_of_lt (by omega)]
theorem numb_2 (u : Nat) (h : u < 100) : numb (dig2 u) = u := by
  show (0 * 10 + ((dg (u / 10)).toNat : Int) - 48) * 10 + ((dg (u % 10)).toNat : Int) - 48 = u
  rw [dg_nat _ (by omega), dg_nat _ (by omega)]; omega
theorem numb_4 (u : Nat) (h : u < 10000) : numb (dig4 u) = u := by
  show (((0 * 10 + ((dg (u / 1000)).toNat : Int) - 48) * 10 + ((dg (u / 100 % 10)).toNat : Int) - 48) * 10 + ((dg (u / 10 % 10)).toNat : Int) - 48) * 10 + ((dg (u % 10)).toNat : Int) - 48 = u
  rw [dg_nat _ (by omega), dg_nat _ (by omega), dg_nat _ (by omega), dg_nat _ (by omega)]; omega
theorem mnum_month (k : Nat) (h : k < 12) : mnum (monthS k) = (k : Int) + 1 := by
  rcases (show k = 0 ∨ k = 1 ∨ k = 2 ∨ k = 3 ∨ k = 4 ∨ k = 5 ∨ k = 6 ∨ k = 7 ∨ k = 8 ∨ k = 9 ∨ k = 10 ∨ k = 11 by omega) with rfl | rfl | rfl | rfl | rfl | rfl | rfl | rfl | rfl | rfl | rfl | rfl <;> decide +kernel
theorem mnum_hit (x : List UInt8) (k : Nat) (h : k < 12) (e : monthS k = x) : mnumAt x k = (k : Int) + 1 := by rw [mnumAt, if_pos h, if_pos e]
theorem mnum_miss (x : List UInt8) (k : Nat) (h : k < 12) (e : monthS k ≠ x) : mnumAt x k = mnumAt x (k + 1) := by rw [mnumAt, if_pos h, if_neg e]
theorem mnum_end (x : List UInt8) : mnumAt x 12 = 0 := by rw [mnumAt, if_neg (by omega)]
theorem mnumAt_bd (x : List UInt8) (j : Nat) : ∀ k : Nat, 12 - k ≤ j → 0 ≤ mnumAt x k ∧ mnumAt x k ≤ 12 := by
  induction j with
  | zero => intro k hk; rw [mnumAt, if_neg (by omega)]; omega
  | succ j ih =>
    intro k hk
    rw [mnumAt]
    split
    · split
      · omega
      · exact ih (k + 1) (by omega)
    · omega
theorem mnum_bd (x : List UInt8) : 0 ≤ mnum x ∧ mnum x ≤ 12 := mnumAt_bd x 12 0 (Nat.le_refl _)

theorem three {l : List UInt8} (h : l.length = 3) : ∃ a b c, l = [a, b, c] := by
  match l, h with
  | [a, b, c], _ => exact ⟨a, b, c, rfl⟩

/-- where the parts of a date's text stand -/
theorem dtext_parts (n y m d : Int) (h1 : 1 ≤ m) (h2 : m ≤ 12) :
    sl (dtext n y m d) 5 7 = dig2 d.toNat ∧ sl (dtext n y m d) 8 11 = monthS (m - 1).toNat ∧ sl (dtext n y m d) 12 16 = dig4 y.toNat ∧ sl (dtext n y m d) 17 19 = dig2 (n % 86400 / 3600).toNat
      ∧ sl (dtext n y m d) 20 22 = dig2 (n % 3600 / 60).toNat ∧ sl (dtext n y m d) 23 25 = dig2 (n % 60).toNat := by
  obtain ⟨a, b, c, e1⟩ := three (week_len (n / 86400 % 7).toNat (by omega))
  obtain ⟨p, q, r, e2⟩ := three (month_len (m - 1).toNat (by omega))
  unfold dtext
  rw [e1, e2]
  exact ⟨rfl, rfl, rfl, rfl, rfl, rfl⟩

theorem dt_len {l : List UInt8} {n : Int} (h : IsDT l n) : l.length = 29 := by
  obtain ⟨_, _, y, m, d, hv, _, rfl⟩ := h
  obtain ⟨_, _, a, b, _⟩ := vld_iff.1 hv
  exact dtext_len n y m d a b

theorem dt_gss {l : List UInt8} {n : Int} (h : IsDT l n) : vldB (gY l) (gM l) (gD l) = true ∧ gss l = n := by
  obtain ⟨h0, h1, y, m, d, hv, hn, rfl⟩ := h
  obtain ⟨a1, a2, a3, a4, a5, a6⟩ := vld_iff.1 hv
  have hd := dim_lo y m
  obtain ⟨p1, p2, p3, p4, p5, p6⟩ := dtext_parts n y m d a3 a4
  have e1 : gY (dtext n y m d) = y := by unfold gY; rw [p3, numb_4 _ (by omega)]; omega
  have e2 : gM (dtext n y m d) = m := by unfold gM; rw [p2, mnum_month _ (by omega)]; omega
  have e3 : gD (dtext n y m d) = d := by unfold gD; rw [p1, numb_2 _ (by omega)]; omega
  have e4 : gS (dtext n y m d) = n % 86400 := by unfold gS; rw [p4, p5, p6, numb_2 _ (by omega), numb_2 _ (by omega), numb_2 _ (by omega)]; omega
  refine ⟨by rw [e1, e2, e3]; exact hv, ?_⟩
  unfold gss
  rw [e1, e2, e3, e4, hn]; omega

theorem dt_inj {l : List UInt8} {n k : Int} (h : IsDT l n) (h' : IsDT l k) : n = k := by rw [← (dt_gss h).2, ← (dt_gss h').2]

theorem dt_text {n : Int} {y m d z k c : Int} (hv : vldB y m d = true) (hn : num y m d = n / 86400) (hv' : vldB z k c = true) (hn' : num z k c = n / 86400) : dtext n y m d = dtext n z k c := by
  obtain ⟨rfl, rfl, rfl⟩ := num_inj hv hv' (hn.trans hn'.symm)
  rfl

/-- what reading a text answers: the second whose text it is, and 0, or 0 and 3 -/
def PR (l : List UInt8) (n c : Int) : Prop := (c = 0 ∧ IsDT l n) ∨ (c = 3 ∧ n = 0 ∧ ∀ k, ¬ IsDT l k)

theorem PR_one {l : List UInt8} {n c m d : Int} (h : PR l n c) (h' : PR l m d) : n = m ∧ c = d := by
  rcases h with ⟨rfl, h⟩ | ⟨rfl, rfl, h⟩ <;> rcases h' with ⟨rfl, h'⟩ | ⟨rfl, rfl, h'⟩
  · exact ⟨dt_inj h h', rfl⟩
  · exact absurd h (h' _)
  · exact absurd h' (h _)
  · exact ⟨rfl, rfl⟩

theorem numb_bd2 {l : List UInt8} (h : l.length = 2) : -528 ≤ numb l ∧ numb l ≤ 2277 := by
  match l, h with
  | [a, b], _ =>
    have := a.toNat_lt; have := b.toNat_lt
    show -528 ≤ (0 * 10 + (a.toNat : Int) - 48) * 10 + (b.toNat : Int) - 48 ∧ (0 * 10 + (a.toNat : Int) - 48) * 10 + (b.toNat : Int) - 48 ≤ 2277
    omega
theorem numb_bd4 {l : List UInt8} (h : l.length = 4) : -53328 ≤ numb l ∧ numb l ≤ 229977 := by
  match l, h with
  | [a, b, c, d], _ =>
    have := a.toNat_lt; have := b.toNat_lt; have := c.toNat_lt; have := d.toNat_lt
    show -53328 ≤ (((0 * 10 + (a.toNat : Int) - 48) * 10 + (b.toNat : Int) - 48) * 10 + (c.toNat : Int) - 48) * 10 + (d.toNat : Int) - 48 ∧ (((0 * 10 + (a.toNat : Int) - 48) * 10 + (b.toNat : Int) - 48) * 10 + (c.toNat : Int) - 48) * 10 + (d.toNat : Int) - 48 ≤ 229977
    omega
theorem sl_len (l : List UInt8) (i j : Nat) (h : l.length = 29) (h1 : i ≤ j) (h2 : j ≤ 29) : (sl l i j).length = j - i := by
  unfold sl; rw [List.length_take, List.length_drop]; omega
end Go.Proofs.YtigbjhkkbgdkcaaGreatDoor
