/-
  Plain functions on lists of bytes that say what package token and the document's answers compute, with small lemmas on them; no program is named here.
-/
import Derived.WalkKit
import Derived.WalkSpells
import Derived.WalkLawsBesides
import Derived.Lib.IndexAny
import Derived.Lib.UnsafeStr
import Derived.Lib.Strings
import Derived.Lib.SlTrimSet
import Derived.Lib.Join
import Derived.Test.YteifheoomodplaaDoorShelf
import Derived.Test.YteifheoomodplaaDoorRows
import Derived.Handy
import Derived.Deep.Draws
namespace Go.Proofs.YteifheoomodplaaDoor
open Go.RowKit

def isTok (c : UInt8) : Bool :=
  (97 ≤ c && c ≤ 122) || (65 ≤ c && c ≤ 90) || (48 ≤ c && c ≤ 57) || [33, 35, 36, 37, 38, 39, 42, 43, 45, 46, 94, 95, 96, 124, 126].contains c
def token (l : List UInt8) : Bool := !l.isEmpty && l.all isTok
def allIn (f s : List UInt8) : Bool := s.all fun c => f.contains c
def low (c : UInt8) : UInt8 := if 65 ≤ c && c ≤ 90 then c + 32 else c
def lower (l : List UInt8) : List UInt8 := l.map low

theorem byAll (P : UInt8 → Bool) (h : ∀ n : Fin 256, P (UInt8.ofNat n.val) = true) (c : UInt8) : P c = true := by
  have := h ⟨c.toNat, c.toNat_lt⟩
  simpa using this

theorem take_snoc (s : ByteArray) (k : Nat) (h : k < s.size) : s.data.toList.take (k + 1) = s.data.toList.take k ++ [s[k]] := by
  rw [List.take_succ_eq_append_getElem (by simpa using h)]; rfl

theorem size_list (s : ByteArray) : s.data.toList.length = s.size := by rw [Array.length_toList]; rfl

theorem take_all (s : ByteArray) : s.data.toList.take s.size = s.data.toList := by
  rw [List.take_of_length_le]; rw [size_list]; exact Nat.le_refl _

theorem extract_one (s : ByteArray) (k : Nat) (h : k < s.size) : s.extract k (k + 1) = ⟨#[s[k]]⟩ := by
  apply ByteArray.ext
  rw [ByteArray.data_extract]
  apply Array.ext'
  have h' : k < s.data.size := h
  simp [Array.toList_extract, List.extract_eq_take_drop]
  rw [List.drop_eq_getElem_cons (by simpa using h')]
  simp
  rfl

theorem ret_bool {a b : Bool} (h : a = b) : Ending.returned (.bool a) = .returned (.bool b) := by rw [h]
theorem ret_int {k : IntKind} {a b : Int} (h : a = b) : Ending.returned (.int k a) = .returned (.int k b) := by rw [h]
theorem ret_str {a b : ByteArray} (h : a = b) : Ending.returned (.string a) = .returned (.string b) := by rw [h]

theorem mem_at (s : ByteArray) (k : Nat) (h : k < s.size) : s[k] ∈ s.data.toList := by
  have h' : k < s.data.size := h
  exact Array.mem_toList_iff.2 (Array.getElem_mem h')

theorem all_false (s : ByteArray) (p : UInt8 → Bool) (k : Nat) (h : k < s.size) (hp : p s[k] = false) : s.data.toList.all p = false :=
  List.all_eq_false.2 ⟨s[k], mem_at s k h, by simp [hp]⟩

theorem isEmpty_size (s : ByteArray) : s.data.toList.isEmpty = decide (s.size = 0) := by
  rw [← size_list]; cases s.data.toList <;> simp

end Go.Proofs.YteifheoomodplaaDoor

/-
  Plain functions on lists of bytes: what may stand between two quotes, and what is read of it; no program is named here.
-/
namespace Go.Proofs.YteifheoomodplaaDoor
open Go.RowKit

def plainB (c : UInt8) : Bool := (32 ≤ c && c ≤ 126) || c == 9

def ustep : Option (List UInt8 × Bool) → UInt8 → Option (List UInt8 × Bool)
  | none, _ => none
  | some (acc, true), c => if plainB c = true then some (acc ++ [c], false) else none
  | some (acc, false), c => if plainB c = true then (if c = 34 then none else if c = 92 then some (acc, true) else some (acc ++ [c], false)) else none

def unesc (l : List UInt8) : Option (List UInt8 × Bool) := l.foldl ustep (some ([], false))
def unescT (l : List UInt8) : List UInt8 := match unesc l with | some (acc, _) => acc | none => []
def unescOk (l : List UInt8) : Bool := match unesc l with | some (_, c) => !c | none => false

theorem unesc_snoc (l : List UInt8) (c : UInt8) : unesc (l ++ [c]) = ustep (unesc l) c := by simp [unesc]

theorem ustep_none (l : List UInt8) : l.foldl ustep none = none := by
  induction l with
  | nil => rfl
  | cons a l ih => rw [List.foldl_cons]; exact ih

theorem split_at (s : ByteArray) (k : Nat) (h : k < s.size) : s.data.toList = s.data.toList.take k ++ s[k] :: s.data.toList.drop (k + 1) := by
  have h' : k < s.data.toList.length := by rw [size_list]; exact h
  have e : s.data.toList.drop k = s[k] :: s.data.toList.drop (k + 1) := by
    rw [List.drop_eq_getElem_cons h']; rfl
  rw [← e, List.take_append_drop]

theorem unesc_dead (s : ByteArray) (k : Nat) (h : k < s.size) (x : Option (List UInt8 × Bool)) (hx : unesc (s.data.toList.take k) = x) (hd : ustep x s[k] = none) : unesc s.data.toList = none := by
  rw [split_at s k h]
  unfold unesc at hx ⊢
  rw [List.foldl_append, hx, List.foldl_cons, hd, ustep_none]

theorem ustep_bad (x : Option (List UInt8 × Bool)) (c : UInt8) (h : plainB c = false) : ustep x c = none := by
  rcases x with _ | ⟨acc, b⟩
  · rfl
  · cases b <;> simp [ustep, h]
theorem ustep_took (acc : List UInt8) (c : UInt8) (h : plainB c = true) : ustep (some (acc, true)) c = some (acc ++ [c], false) := by simp [ustep, h]
theorem ustep_quote (acc : List UInt8) (c : UInt8) (hc : c = 34) : ustep (some (acc, false)) c = none := by
  subst hc; rfl
theorem ustep_back (acc : List UInt8) (c : UInt8) (hc : c = 92) : ustep (some (acc, false)) c = some (acc, true) := by
  subst hc; rfl
theorem ustep_else (acc : List UInt8) (c : UInt8) (h : plainB c = true) (h1 : c ≠ 34) (h2 : c ≠ 92) : ustep (some (acc, false)) c = some (acc ++ [c], false) := by simp [ustep, h, h1, h2]

theorem unesc_len (l : List UInt8) : ∀ acc b, unesc l = some (acc, b) → acc.length ≤ l.length := by
  have gen : ∀ (l : List UInt8) (a0 : List UInt8) (b0 : Bool) acc b, l.foldl ustep (some (a0, b0)) = some (acc, b) → acc.length ≤ a0.length + l.length := by
    intro l
    induction l with
    | nil => intro a0 b0 acc b h; simp at h; obtain ⟨rfl, _⟩ := h; simp
    | cons c l ih =>
      intro a0 b0 acc b h
      rw [List.foldl_cons] at h
      cases hu : ustep (some (a0, b0)) c with
      | none => rw [hu, ustep_none] at h; cases h
      | some y =>
        obtain ⟨a1, b1⟩ := y
        rw [hu] at h
        have h1 := ih a1 b1 acc b h
        have h2 : a1.length ≤ a0.length + 1 := by
          cases b0 <;> simp only [ustep] at hu <;> (repeat' split at hu) <;> simp at hu <;> obtain ⟨rfl, _⟩ := hu <;> simp
        simp only [List.length_cons]
        omega
  intro acc b h
  have := gen l [] false acc b h
  simpa using this

theorem ne_of_int (c d : UInt8) (h : (c.toNat : Int) ≠ (d.toNat : Int)) : c ≠ d := fun e => h (by rw [e])
theorem eq_of_int (c d : UInt8) (h : (c.toNat : Int) = (d.toNat : Int)) : c = d := UInt8.toNat.inj (by omega)

theorem plainB_iff (c : UInt8) : plainB c = decide ((32 ≤ (c.toNat : Int) ∧ (c.toNat : Int) ≤ 126) ∨ (c.toNat : Int) = 9) := by
  have h9 : (c == 9) = decide ((c.toNat : Int) = 9) := by
    rw [Bool.eq_iff_iff]; simp
    constructor
    · rintro rfl; rfl
    · intro h; exact eq_of_int c 9 (by simpa using h)
  unfold plainB
  rw [h9, Bool.eq_iff_iff]
  simp [UInt8.le_iff_toNat_le]
  omega
def allPlain (l : List UInt8) : Bool := l.all plainB

theorem allPlain_dead (s : ByteArray) (k : Nat) (h : k < s.size) (hp : plainB s[k] = false) : allPlain s.data.toList = false := all_false s plainB k h hp
theorem allPlain_snoc (l : List UInt8) (c : UInt8) (h : allPlain l = true) (hc : plainB c = true) : allPlain (l ++ [c]) = true := by
  unfold allPlain at *; rw [List.all_append, h]; simp [hc]

def esc1 (c : UInt8) : List UInt8 := if c = 34 ∨ c = 92 then [92, c] else [c]
def esc (l : List UInt8) : List UInt8 := l.flatMap esc1
def qt (l : List UInt8) : List UInt8 × Int := if 1000 < l.length then ([], 2) else if allPlain l = true then (34 :: (esc l ++ [34]), 0) else ([], 3)

theorem esc_snoc (l : List UInt8) (c : UInt8) : esc (l ++ [c]) = esc l ++ esc1 c := by simp [esc]
theorem esc_len (l : List UInt8) : l.length ≤ (esc l).length ∧ (esc l).length ≤ 2 * l.length := by
  induction l with
  | nil => simp [esc]
  | cons c l ih =>
    have e : esc (c :: l) = esc1 c ++ esc l := by simp [esc]
    have h : 1 ≤ (esc1 c).length ∧ (esc1 c).length ≤ 2 := by unfold esc1; split <;> simp
    rw [e, List.length_append, List.length_cons]
    omega
end Go.Proofs.YteifheoomodplaaDoor

/-
  Plain functions on lists of bytes: how a text is cut at a sign that is not within quotes; no program is named here.
-/
namespace Go.Proofs.YteifheoomodplaaDoor
open Go.RowKit

def strs (ps : List (List UInt8)) : List Value := ps.map fun p => Value.string ⟨p.toArray⟩
theorem strs_snoc (ps : List (List UInt8)) (p : List UInt8) : strs ps ++ [Value.string ⟨p.toArray⟩] = strs (ps ++ [p]) := by simp [strs]
theorem strs_length (ps : List (List UInt8)) : (strs ps).length = ps.length := by simp [strs]
theorem strs_get (ps : List (List UInt8)) (k : Nat) (h : k < ps.length) : (strs ps)[k]? = some (.string ⟨ps[k].toArray⟩) := by
  simp [strs, h]

/-- What has been cut, what is being read, whether it is within quotes, whether a stroke counts. -/
structure Cut where
  ps : List (List UInt8)
  cur : List UInt8
  q : Bool
  cn : Bool

def cstep (sep : UInt8) (x : Cut) (c : UInt8) : Cut :=
  if c = sep ∧ x.q = false then ⟨x.ps ++ [x.cur], [], x.q, x.cn⟩
  else ⟨x.ps, x.cur ++ [c], if x.cn = true then x.q else if c = 34 then !x.q else x.q, if x.cn = true then false else if c = 34 then false else if c = 92 then x.q else false⟩
def cutS (sep : UInt8) (l : List UInt8) : Cut := l.foldl (cstep sep) ⟨[], [], false, false⟩
def pieces (sep : UInt8) (l : List UInt8) : List (List UInt8) := (cutS sep l).ps ++ [(cutS sep l).cur]
def ends (sep : UInt8) (l : List UInt8) : Bool := !(cutS sep l).q

theorem cutS_snoc (sep : UInt8) (l : List UInt8) (c : UInt8) : cutS sep (l ++ [c]) = cstep sep (cutS sep l) c := by simp [cutS]

theorem cutS_len (sep : UInt8) (l : List UInt8) : (cutS sep l).ps.length ≤ l.length := by
  have gen : ∀ (l : List UInt8) (x : Cut), (l.foldl (cstep sep) x).ps.length ≤ x.ps.length + l.length := by
    intro l
    induction l with
    | nil => intro x; simp
    | cons c l ih =>
      intro x
      rw [List.foldl_cons]
      have h := ih (cstep sep x c)
      have h2 : (cstep sep x c).ps.length ≤ x.ps.length + 1 := by unfold cstep; split <;> simp
      rw [List.length_cons]
      omega
  have := gen l ⟨[], [], false, false⟩
  simpa [cutS] using this

theorem cstep_back (sep : UInt8) (ps : List (List UInt8)) (cur : List UInt8) (c : UInt8) (hc : c = 92) : cstep sep ⟨ps, cur, true, false⟩ c = ⟨ps, cur ++ [c], true, true⟩ := by
  subst hc; simp [cstep]
theorem cstep_took (sep : UInt8) (ps : List (List UInt8)) (cur : List UInt8) (c : UInt8) : cstep sep ⟨ps, cur, true, true⟩ c = ⟨ps, cur ++ [c], true, false⟩ := by
  simp [cstep]
theorem cstep_quote (sep : UInt8) (hs : sep ≠ 34) (ps : List (List UInt8)) (cur : List UInt8) (q : Bool) (c : UInt8) (hc : c = 34) : cstep sep ⟨ps, cur, q, false⟩ c = ⟨ps, cur ++ [c], !q, false⟩ := by
  subst hc
  have : ¬ ((34 : UInt8) = sep ∧ q = false) := fun h => hs h.1.symm
  simp [cstep, this]
theorem cstep_sep (sep : UInt8) (ps : List (List UInt8)) (cur : List UInt8) (c : UInt8) (hc : c = sep) : cstep sep ⟨ps, cur, false, false⟩ c = ⟨ps ++ [cur], [], false, false⟩ := by
  simp [cstep, hc]
theorem cstep_else (sep : UInt8) (ps : List (List UInt8)) (cur : List UInt8) (q : Bool) (c : UInt8) (h1 : ¬ (c = sep ∧ q = false)) (h2 : c ≠ 34) (h3 : ¬ (c = 92 ∧ q = true)) : cstep sep ⟨ps, cur, q, false⟩ c = ⟨ps, cur ++ [c], q, false⟩ := by
  unfold cstep
  rw [if_neg h1]
  cases q
  · simp [h2]
  · have : c ≠ 92 := fun e => h3 ⟨e, rfl⟩
    simp [h2, this]

theorem pieces_len (sep : UInt8) (l : List UInt8) : ∀ p ∈ pieces sep l, p.length ≤ l.length := by
  have gen : ∀ (l : List UInt8) (x : Cut) (N : Nat), (∀ p ∈ x.ps, p.length ≤ N) → x.cur.length ≤ N → (∀ p ∈ (l.foldl (cstep sep) x).ps, p.length ≤ N + l.length) ∧ (l.foldl (cstep sep) x).cur.length ≤ N + l.length := by
    intro l
    induction l with
    | nil => intro x N h1 h2; exact ⟨h1, h2⟩
    | cons c l ih =>
      intro x N h1 h2
      rw [List.foldl_cons, List.length_cons]
      have h3 : (∀ p ∈ (cstep sep x c).ps, p.length ≤ N + 1) ∧ (cstep sep x c).cur.length ≤ N + 1 := by
        unfold cstep
        split
        · refine ⟨fun p hp => ?_, by simp⟩
          simp only [List.mem_append, List.mem_singleton] at hp
          rcases hp with hp | rfl
          · have := h1 p hp; omega
          · omega
        · refine ⟨fun p hp => ?_, by simp; omega⟩
          have := h1 p hp; omega
      have := ih _ (N + 1) h3.1 h3.2
      rw [show N + (l.length + 1) = N + 1 + l.length from by omega]
      exact this
  have h := gen l ⟨[], [], false, false⟩ 0 (fun p hp => by cases hp) (Nat.le_refl _)
  intro p hp
  unfold pieces at hp
  simp only [List.mem_append, List.mem_singleton] at hp
  rw [Nat.zero_add] at h
  rcases hp with hp | rfl
  · exact h.1 p hp
  · exact h.2

theorem seg_snoc (s : ByteArray) (a k : Nat) (ha : a ≤ k) (h : k < s.size) : (s.data.toList.drop a).take (k + 1 - a) = (s.data.toList.drop a).take (k - a) ++ [s[k]] := by
  have h' : k - a < (s.data.toList.drop a).length := by rw [List.length_drop, size_list]; omega
  rw [show k + 1 - a = (k - a) + 1 from by omega, List.take_succ_eq_append_getElem h']
  congr 2
  rw [List.getElem_drop]
  have : a + (k - a) = k := by omega
  simp only [this]
  rfl
theorem extract_seg (s : ByteArray) (a k : Nat) : s.extract a k = ⟨((s.data.toList.drop a).take (k - a)).toArray⟩ := by
  apply ByteArray.ext
  apply Array.ext'
  rw [Lib.extract_data]
end Go.Proofs.YteifheoomodplaaDoor

/-
  Plain lemmas on a text without the blanks at its ends; no program is named here.
-/
namespace Go.Proofs.YteifheoomodplaaDoor
open Go.RowKit

def trimL (l : List UInt8) : List UInt8 := Lib.trimS l [32, 9]
def blank (b : UInt8) : Bool := [32, 9].contains b

theorem trimL_eq (l : List UInt8) : trimL l = ((l.reverse.dropWhile blank).reverse).dropWhile blank := rfl

theorem trimL_last (l : List UInt8) (b : UInt8) (h : blank b = true) : trimL (l ++ [b]) = trimL l := by
  rw [trimL_eq, trimL_eq, List.reverse_append, List.reverse_singleton, List.singleton_append, List.dropWhile_cons, if_pos h]

theorem trimL_first (l : List UInt8) (b : UInt8) (h : blank b = true) : trimL (b :: l) = trimL l := by
  rw [trimL_eq, trimL_eq, List.reverse_cons, List.dropWhile_append]
  split
  · rename_i he
    have e : l.reverse.dropWhile blank = [] := by simpa using he
    rw [e]
    simp [h]
  · rw [List.reverse_append, List.reverse_singleton, List.singleton_append, List.dropWhile_cons, if_pos h]

theorem trimL_stays (l : List UInt8) (h1 : ∀ b, l.head? = some b → blank b = false) (h2 : ∀ b, l.getLast? = some b → blank b = false) : trimL l = l := by
  have hd : ∀ m : List UInt8, (∀ b, m.head? = some b → blank b = false) → m.dropWhile blank = m := by
    intro m hm
    cases m with
    | nil => rfl
    | cons a m => rw [List.dropWhile_cons, hm a rfl]; rfl
  rw [trimL_eq, hd l.reverse (fun b hb => h2 b (by rw [← List.head?_reverse]; exact hb)), List.reverse_reverse, hd l h1]

theorem trimL_len (l : List UInt8) : (trimL l).length ≤ l.length := by
  rw [trimL_eq]
  have h1 := (List.dropWhile_sublist blank (l := (l.reverse.dropWhile blank).reverse)).length_le
  have h2 := (List.dropWhile_sublist blank (l := l.reverse)).length_le
  simp only [List.length_reverse] at h1 h2
  omega

theorem dropWhile_head (l : List UInt8) : ∀ b, (l.dropWhile blank).head? = some b → blank b = false := by
  intro b hb
  induction l with
  | nil => simp at hb
  | cons a l ih =>
    rw [List.dropWhile_cons] at hb
    split at hb
    · exact ih hb
    · rename_i ha
      simp only [List.head?_cons, Option.some.injEq] at hb
      subst hb
      simpa using ha

theorem trimL_head (l : List UInt8) : ∀ b, (trimL l).head? = some b → blank b = false := by
  rw [trimL_eq]; exact dropWhile_head _
theorem trimL_tail (l : List UInt8) : ∀ b, (trimL l).getLast? = some b → blank b = false := by
  intro b hb
  rw [trimL_eq] at hb
  have hne : ((l.reverse.dropWhile blank).reverse).dropWhile blank ≠ [] := by
    intro e; rw [e] at hb; simp at hb
  have hsuf : ((l.reverse.dropWhile blank).reverse).dropWhile blank <:+ (l.reverse.dropWhile blank).reverse := List.dropWhile_suffix blank
  obtain ⟨t, ht⟩ := hsuf
  have e1 : ((l.reverse.dropWhile blank).reverse).getLast? = some b := by
    rw [← ht, List.getLast?_append, hb]; rfl
  rw [List.getLast?_reverse] at e1
  exact dropWhile_head _ b e1
theorem trimL_twice (l : List UInt8) : trimL (trimL l) = trimL l := trimL_stays _ (trimL_head l) (trimL_tail l)

theorem pre_yes (l : List UInt8) (b : UInt8) (h : Lib.hasPrefix l [b] = true) : l = b :: l.drop 1 := by
  unfold Lib.hasPrefix at h
  cases l with
  | nil => simp at h
  | cons a l => simp at h; simp [h]
theorem pre_no (l : List UInt8) (b : UInt8) (h : Lib.hasPrefix l [b] = false) : l.head? ≠ some b := by
  unfold Lib.hasPrefix at h
  intro e
  cases l with
  | nil => simp at e
  | cons a l => simp at e; subst e; simp at h
theorem suf_yes (l : List UInt8) (b : UInt8) (h : Lib.hasSuffix l [b] = true) : l = l.take (l.length - 1) ++ [b] := by
  unfold Lib.hasSuffix at h
  obtain ⟨t, ht⟩ := List.isSuffixOf_iff_suffix.1 h
  subst ht
  simp
theorem suf_no (l : List UInt8) (b : UInt8) (h : Lib.hasSuffix l [b] = false) : l.getLast? ≠ some b := by
  unfold Lib.hasSuffix at h
  intro e
  have : [b] <:+ l := by
    obtain ⟨ys, hy⟩ := List.getLast?_eq_some_iff.1 e
    exact ⟨ys, hy.symm⟩
  rw [List.isSuffixOf_iff_suffix.2 this] at h
  cases h
theorem trimL_none (l : List UInt8) (h1 : Lib.hasPrefix l [32] = false) (h2 : Lib.hasSuffix l [32] = false) (h3 : Lib.hasPrefix l [9] = false) (h4 : Lib.hasSuffix l [9] = false) : trimL l = l := by
  apply trimL_stays
  · intro b hb
    cases hbl : blank b
    · rfl
    · exfalso
      unfold blank at hbl
      simp at hbl
      rcases hbl with rfl | rfl
      · exact pre_no _ _ h1 hb
      · exact pre_no _ _ h3 hb
  · intro b hb
    cases hbl : blank b
    · rfl
    · exfalso
      unfold blank at hbl
      simp at hbl
      rcases hbl with rfl | rfl
      · exact suf_no _ _ h2 hb
      · exact suf_no _ _ h4 hb
theorem trimL_pre (l : List UInt8) (b : UInt8) (hb : blank b = true) (h : Lib.hasPrefix l [b] = true) : trimL (l.drop 1) = trimL l ∧ 1 ≤ l.length := by
  have e := pre_yes l b h
  generalize l.drop 1 = m at e
  subst e
  exact ⟨(trimL_first _ b hb).symm, by simp⟩
theorem trimL_suf (l : List UInt8) (b : UInt8) (hb : blank b = true) (h : Lib.hasSuffix l [b] = true) : trimL (l.take (l.length - 1)) = trimL l ∧ 1 ≤ l.length := by
  have e := suf_yes l b h
  generalize l.take (l.length - 1) = m at e
  subst e
  exact ⟨(trimL_last _ b hb).symm, by simp⟩
end Go.Proofs.YteifheoomodplaaDoor

/-
  Plain lemmas: what is read between two signs, put together again with such signs, is cut at the same places; a quoted text is never cut; no program is named here.
-/
namespace Go.Proofs.YteifheoomodplaaDoor
open Go.RowKit

/-- Where one stands behind a text, if no sign that counts was met. -/
def run (sep : UInt8) : Bool × Bool → List UInt8 → Option (Bool × Bool)
  | st, [] => some st
  | st, c :: l => if c = sep ∧ st.1 = false then none else
      run sep (if st.2 = true then st.1 else if c = 34 then !st.1 else st.1, if st.2 = true then false else if c = 34 then false else if c = 92 then st.1 else false) l
def closed (sep : UInt8) (r : List UInt8) : Prop := run sep (false, false) r = some (false, false)

theorem run_cons (sep : UInt8) (st : Bool × Bool) (c : UInt8) (l : List UInt8) : run sep st (c :: l) = if c = sep ∧ st.1 = false then none else
      run sep (if st.2 = true then st.1 else if c = 34 then !st.1 else st.1, if st.2 = true then false else if c = 34 then false else if c = 92 then st.1 else false) l := rfl
theorem run_app (sep : UInt8) (a b : List UInt8) : ∀ st, run sep st (a ++ b) = (run sep st a).bind (fun x => run sep x b) := by
  induction a with
  | nil => intro st; rfl
  | cons c a ih =>
    intro st
    rw [List.cons_append, run_cons, run_cons]
    split
    · rfl
    · exact ih _

theorem run_fold (sep : UInt8) (r : List UInt8) : ∀ (X : List (List UInt8)) (cur : List UInt8) (q cn q' cn' : Bool), run sep (q, cn) r = some (q', cn') → r.foldl (cstep sep) ⟨X, cur, q, cn⟩ = ⟨X, cur ++ r, q', cn'⟩ := by
  induction r with
  | nil => intro X cur q cn q' cn' h; simp [run] at h; obtain ⟨rfl, rfl⟩ := h; simp
  | cons c r ih =>
    intro X cur q cn q' cn' h
    unfold run at h
    split at h
    · cases h
    · rename_i hs
      rw [List.foldl_cons]
      have e : cstep sep ⟨X, cur, q, cn⟩ c = ⟨X, cur ++ [c], if cn = true then q else if c = 34 then !q else q, if cn = true then false else if c = 34 then false else if c = 92 then q else false⟩ := by
        unfold cstep; rw [if_neg hs]
      rw [e, ih X (cur ++ [c]) _ _ q' cn' h]
      simp

theorem pieces_closed (sep : UInt8) (l : List UInt8) (h : ends sep l = true) : ∀ p ∈ pieces sep l, closed sep p := by
  have gen : ∀ (l : List UInt8) (x : Cut), (∀ p ∈ x.ps, closed sep p) → run sep (false, false) x.cur = some (x.q, x.cn) → (x.cn = true → x.q = true) →
      (∀ p ∈ (l.foldl (cstep sep) x).ps, closed sep p) ∧ run sep (false, false) (l.foldl (cstep sep) x).cur = some ((l.foldl (cstep sep) x).q, (l.foldl (cstep sep) x).cn) ∧ ((l.foldl (cstep sep) x).cn = true → (l.foldl (cstep sep) x).q = true) := by
    intro l
    induction l with
    | nil => intro x h1 h2 h3; exact ⟨h1, h2, h3⟩
    | cons c l ih =>
      intro x h1 h2 h3
      rw [List.foldl_cons]
      apply ih
      · unfold cstep
        split
        · rename_i hs
          intro p hp
          simp only [List.mem_append, List.mem_singleton] at hp
          rcases hp with hp | rfl
          · exact h1 p hp
          · have hcn : x.cn = false := by
              cases hc : x.cn
              · rfl
              · have := h3 hc; rw [hs.2] at this; cases this
            unfold closed
            rw [h2, hs.2, hcn]
        · exact h1
      · unfold cstep
        split
        · rename_i hs
          have hcn : x.cn = false := by
            cases hc : x.cn
            · rfl
            · have := h3 hc; rw [hs.2] at this; cases this
          simp [run, hs.2, hcn]
        · rename_i hs
          simp only
          rw [run_app, h2]
          simp only [Option.bind_some]
          unfold run
          rw [if_neg hs]
          rfl
      · unfold cstep
        split
        · rename_i hs
          intro hc
          have := h3 hc
          rw [hs.2] at this; cases this
        · simp only
          cases hc : x.cn
          · simp only [Bool.false_eq_true, if_false]
            intro h
            by_cases h34 : c = 34
            · simp [h34] at h
            · by_cases h92 : c = 92
              · simp only [h92, if_true] at h ⊢
                simpa using h
              · simp [h34, h92] at h
          · simp
  have hg := gen l ⟨[], [], false, false⟩ (fun p hp => by cases hp) rfl (fun h => by cases h)
  unfold ends at h
  intro p hp
  unfold pieces at hp
  simp only [List.mem_append, List.mem_singleton] at hp
  have hq : (cutS sep l).q = false := by simpa using h
  have hcn : (cutS sep l).cn = false := by
    cases hc : (cutS sep l).cn
    · rfl
    · have := hg.2.2 hc
      exact absurd (hq.symm.trans this) (by simp)
  rcases hp with hp | rfl
  · exact hg.1 p hp
  · unfold closed
    have := hg.2.1
    unfold cutS at hq hcn ⊢
    rw [this, hq, hcn]

theorem run_cn (sep : UInt8) (r : List UInt8) : ∀ (st : Bool × Bool) (q cn : Bool), (st.2 = true → st.1 = true) → run sep st r = some (q, cn) → cn = true → q = true := by
  induction r with
  | nil => intro st q cn h hr; simp [run] at hr; rw [hr] at h; exact h
  | cons c r ih =>
    intro st q cn h hr
    unfold run at hr
    split at hr
    · cases hr
    · refine ih _ q cn ?_ hr
      simp only
      cases hc : st.2
      · simp only [Bool.false_eq_true, if_false]
        intro h'
        by_cases h34 : c = 34
        · simp [h34] at h'
        · by_cases h92 : c = 92
          · simp only [h92, if_true] at h' ⊢
            simpa using h'
          · simp [h34, h92] at h'
      · simp
theorem run_cnq (sep : UInt8) (r : List UInt8) (q cn : Bool) (h : run sep (false, false) r = some (q, cn)) : cn = true → q = true := run_cn sep r (false, false) q cn (fun h => by cases h) h

theorem blank_ne (b : UInt8) (h : blank b = true) : b ≠ 34 ∧ b ≠ 92 := by
  unfold blank at h
  simp at h
  rcases h with rfl | rfl <;> exact ⟨by decide, by decide⟩

theorem closed_first (sep : UInt8) (b : UInt8) (r : List UInt8) (hb : blank b = true) (h : closed sep (b :: r)) : closed sep r := by
  obtain ⟨h1, h2⟩ := blank_ne b hb
  unfold closed at h ⊢
  unfold run at h
  split at h
  · cases h
  · simpa [h1, h2] using h
theorem closed_last (sep : UInt8) (b : UInt8) (r : List UInt8) (hb : blank b = true) (h : closed sep (r ++ [b])) : closed sep r := by
  obtain ⟨h1, h2⟩ := blank_ne b hb
  unfold closed at h ⊢
  rw [run_app] at h
  cases hr : run sep (false, false) r with
  | none => rw [hr] at h; cases h
  | some st =>
    rw [hr] at h
    obtain ⟨q, cn⟩ := st
    simp only [Option.bind_some, run, h1, h2, if_false] at h
    split at h
    · cases h
    · have hcnq : cn = true → q = true := run_cnq sep r q cn hr
      cases cn
      · simp at h; rw [h]
      · have := hcnq rfl
        subst this
        simp at h
theorem drop_closed (sep : UInt8) : ∀ (r : List UInt8), closed sep r → closed sep (r.dropWhile blank)
  | [], h => h
  | b :: r, h => by
    rw [List.dropWhile_cons]
    split
    · rename_i hb
      exact drop_closed sep r (closed_first sep b r hb h)
    · exact h
theorem dropr_closed (sep : UInt8) : ∀ (r : List UInt8), closed sep r.reverse → closed sep (r.dropWhile blank).reverse
  | [], h => h
  | b :: r, h => by
    rw [List.dropWhile_cons]
    split
    · rename_i hb
      rw [List.reverse_cons] at h
      exact dropr_closed sep r (closed_last sep b _ hb h)
    · exact h
theorem trim_closed (sep : UInt8) (r : List UInt8) (h : closed sep r) : closed sep (trimL r) := by
  rw [trimL_eq]
  apply drop_closed
  apply dropr_closed
  rw [List.reverse_reverse]
  exact h

/-- Texts with the sign between them. -/
theorem join_fold (sep : UInt8) : ∀ (ps : List (List UInt8)) (p : List UInt8) (X : List (List UInt8)), (∀ r ∈ p :: ps, closed sep r) →
    (Lib.join (p :: ps) [sep]).foldl (cstep sep) ⟨X, [], false, false⟩ = ⟨X ++ (p :: ps).dropLast, (p :: ps).getLast (by simp), false, false⟩
  | [], p, X, h => by
    have hj : Lib.join [p] [sep] = p := Lib.join_one p [sep]
    rw [hj, run_fold sep p X [] false false false false (h p (by simp))]
    simp
  | q :: ps, p, X, h => by
    have hj : Lib.join (p :: q :: ps) [sep] = p ++ (sep :: Lib.join (q :: ps) [sep]) := by
      rw [Lib.join_cons, Lib.join_cons]; simp [Lib.joinTail]
    rw [hj, List.foldl_append, run_fold sep p X [] false false false false (h p (by simp)), List.foldl_cons]
    have e : cstep sep ⟨X, [] ++ p, false, false⟩ sep = ⟨X ++ [p], [], false, false⟩ := by simp [cstep]
    rw [e, join_fold sep ps q (X ++ [p]) (fun r hr => h r (by simp at hr ⊢; rcases hr with hr | hr <;> simp [hr]))]
    simp

theorem pieces_join (sep : UInt8) (p : List UInt8) (ps : List (List UInt8)) (h : ∀ r ∈ p :: ps, closed sep r) : pieces sep (Lib.join (p :: ps) [sep]) = p :: ps ∧ ends sep (Lib.join (p :: ps) [sep]) = true := by
  have e : cutS sep (Lib.join (p :: ps) [sep]) = ⟨[] ++ (p :: ps).dropLast, (p :: ps).getLast (by simp), false, false⟩ := join_fold sep ps p [] h
  refine ⟨?_, by unfold ends; rw [e]; rfl⟩
  unfold pieces
  rw [e]
  simp only [List.nil_append]
  exact List.dropLast_concat_getLast (by simp)

def tot (ps : List (List UInt8)) : Nat := (ps.map fun p => p.length + 1).sum
theorem tot_app (a b : List (List UInt8)) : tot (a ++ b) = tot a + tot b := by simp [tot]
theorem tot_one (a : List UInt8) : tot [a] = a.length + 1 := by simp [tot]
theorem pieces_tot (sep : UInt8) (l : List UInt8) : tot (pieces sep l) = l.length + 1 := by
  have gen : ∀ (l : List UInt8) (x : Cut), tot (l.foldl (cstep sep) x).ps + (l.foldl (cstep sep) x).cur.length = tot x.ps + x.cur.length + l.length := by
    intro l
    induction l with
    | nil => intro x; simp
    | cons c l ih =>
      intro x
      rw [List.foldl_cons, ih, List.length_cons]
      have : tot (cstep sep x c).ps + (cstep sep x c).cur.length = tot x.ps + x.cur.length + 1 := by
        unfold cstep
        split
        · simp only [tot_app, tot_one, List.length_nil]; omega
        · simp; omega
      omega
  have h := gen l ⟨[], [], false, false⟩
  unfold pieces
  rw [tot_app, tot_one]
  have h0 : tot ([] : List (List UInt8)) = 0 := rfl
  simp only [h0, List.length_nil] at h
  unfold cutS
  omega
theorem tot_filter (f : List UInt8 → Bool) (ps : List (List UInt8)) : tot (ps.filter f) ≤ tot ps := by
  induction ps with
  | nil => simp [tot]
  | cons p ps ih =>
    have e : tot (p :: ps) = p.length + 1 + tot ps := by simp [tot]
    rw [List.filter_cons]
    split
    · have e2 : tot (p :: ps.filter f) = p.length + 1 + tot (ps.filter f) := by simp [tot]
      omega
    · omega
theorem tot_trim (ps : List (List UInt8)) : tot (ps.map trimL) ≤ tot ps := by
  induction ps with
  | nil => simp [tot]
  | cons p ps ih =>
    have e : tot (p :: ps) = p.length + 1 + tot ps := by simp [tot]
    have e2 : tot ((p :: ps).map trimL) = (trimL p).length + 1 + tot (ps.map trimL) := by simp [tot]
    have := trimL_len p
    omega
theorem tot_join (sep : UInt8) : ∀ (ps : List (List UInt8)) (p : List UInt8), (Lib.join (p :: ps) [sep]).length + 1 = tot (p :: ps)
  | [], p => by rw [Lib.join_one]; simp [tot]
  | q :: ps, p => by
    have hj : Lib.join (p :: q :: ps) [sep] = p ++ (sep :: Lib.join (q :: ps) [sep]) := by rw [Lib.join_cons, Lib.join_cons]; simp [Lib.joinTail]
    have ih := tot_join sep ps q
    have e : tot (p :: q :: ps) = p.length + 1 + tot (q :: ps) := by simp [tot]
    rw [hj, List.length_append, List.length_cons]
    omega

/-- A quoted text is closed. -/
theorem run_esc (sep : UInt8) (l : List UInt8) : run sep (true, false) (esc l) = some (true, false) := by
  induction l with
  | nil => rfl
  | cons c l ih =>
    have e : esc (c :: l) = esc1 c ++ esc l := by simp [esc]
    rw [e, run_app]
    have : run sep (true, false) (esc1 c) = some (true, false) := by
      unfold esc1
      split
      · simp [run]
      · rename_i hc
        have h1 : c ≠ 34 := fun e => hc (.inl e)
        have h2 : c ≠ 92 := fun e => hc (.inr e)
        simp [run, h1, h2]
    rw [this]
    exact ih
theorem closed_quoted (sep : UInt8) (h34 : sep ≠ 34) (l : List UInt8) : closed sep (34 :: (esc l ++ [34])) := by
  unfold closed
  have e : run sep (false, false) (34 :: (esc l ++ [34])) = run sep (true, false) (esc l ++ [34]) := by
    conv => lhs; unfold run
    rw [if_neg (fun h => h34 h.1.symm)]
    simp
  rw [e, run_app, run_esc sep]
  simp [run]
theorem trimL_quoted (m : List UInt8) : trimL (34 :: (m ++ [34])) = 34 :: (m ++ [34]) := by
  apply trimL_stays
  · intro b hb; simp at hb; subst hb; rfl
  · intro b hb
    rw [show (34 :: (m ++ [34])) = (34 :: m) ++ [34] from rfl, List.getLast?_append] at hb
    simp at hb; subst hb; rfl
end Go.Proofs.YteifheoomodplaaDoor

/-
  What trim of package token and strings.Clone compute; a text is no longer than Go allows.
-/
namespace Go.Proofs.YteifheoomodplaaDoor
open Go.RowKit

set_option maxRecDepth 100000 in
theorem trim_at (s t : ByteArray) (ht : t.data.toList = trimL s.data.toList) (w : World) (hs : s.size ≤ 100000) :
    Calls Tryd.prog 43 #[.string s] w fun e w' => e = .returned (.string t) ∧ Below w.heap.size w w' := by
  have HT : Hid (t.data.toList = trimL s.data.toList) := ht
  clear ht
  go_enter Tryd.func43, Tryd.ntmps43
  go_wp2_with fail
  refine (Tryd.strings_Trim_set s ⟨#[32, 9]⟩ _ (by omega) (by decide) (ascii_of_all (by decide))).mono ?_
  rintro e w1 ⟨rfl, hb⟩
  go_wp2_with fail
  go_ret
  refine ⟨ret_str ?_, hb⟩
  apply ByteArray.ext
  apply Array.ext'
  rw [HT.out]
  rfl

set_option maxRecDepth 100000 in
theorem clone_at (s : ByteArray) (w : World) (hs : s.size ≤ 100000) :
    Calls Tryd.prog 44 #[.string s] w fun e w' => e = .returned (.string s) ∧ Below w.heap.size w w' := by
  go_enter Tryd.func44, Tryd.ntmps44
  go_wp2_with fail
  refine (Tryd.stringslite_Clone s _ (by omega)).mono ?_
  rintro e w1 ⟨rfl, hb⟩
  go_wp2_with fail
  go_ret
  exact ⟨rfl, hb⟩
end Go.Proofs.YteifheoomodplaaDoor

/-
  The row of the type of texts, and the cells of a block of one; over the program's table of types.
-/
namespace Go.Proofs.YteifheoomodplaaDoor
open Go.RowKit

theorem info9 : (Tryd.prog.info? 9).map (fun i => (i.zero, i.size, i.bytes)) = some (some (.string ⟨#[]⟩), 1, 16) := by kernel_rfl
theorem one_cell (w : World) (v : Value) (t : TypeId) : ∀ (j : Nat) u, [v][j]? = some u → (w.alloc (.cells #[v] t)).cell? ((⟨w.heap.size, 0, none⟩ : Addr).add j) = some u := by
  intro j u h
  match j, h with
  | 0, h => simp at h; subst h; simp [Addr.add]
end Go.Proofs.YteifheoomodplaaDoor

/-
  What cut of package token computes: the pieces of a text between the signs that are not within quotes; the text has at most 1000 bytes, and the sign is no quote and no stroke.
-/
namespace Go.Proofs.YteifheoomodplaaDoor
open Go.RowKit

set_option maxHeartbeats 4000000 in
set_option maxRecDepth 100000 in
theorem cut_any (s : ByteArray) (sep : UInt8) (w : World) (hs : s.size ≤ 1000) (h34 : sep ≠ 34) :
    Calls Tryd.prog 42 #[.string s, .int .u8 (sep.toNat : Int)] w fun e w' => ∃ v, e = .returned (.tuple #[v, .bool (ends sep s.data.toList)]) ∧
      w'.ownsRow w.heap.size 9 1 v (pieces sep s.data.toList).length (strs (pieces sep s.data.toList)) ∧ Below w.heap.size w w' := by
  obtain ⟨i0, hi, hz0, hz1, hz2⟩ := info_parts info9
  have HS34 : Hid (sep ≠ 34) := h34
  clear h34
  go_enter Tryd.func42, Tryd.ntmps42
  go_wp2_with fail
  go_loopw [6, 7, 8, 9] (fun v st wi i wr => ∃ (k a : Nat) (ps : List (List UInt8)) (q cn : Bool), k ≤ s.size + 1 ∧ a ≤ k ∧ a ≤ s.size ∧ i = .int .i64 k ∧ st = .int .i64 a ∧ wi = .bool q ∧ (k ≤ s.size → cn = false) ∧
      cutS sep (s.data.toList.take k) = ⟨ps, (s.data.toList.drop a).take (k - a), q, cn⟩ ∧ wr.ownsRow w.heap.size 9 1 v ps.length (strs ps) ∧ Below w.heap.size w wr) (fun _ _ _ i _ => s.size + 1 - (intOf i).toNat)
  case atStart => exact ⟨0, 0, [], false, false, by omega, by omega, by omega, rfl, rfl, rfl, fun _ => rfl, by simp [cutS], World.ownsRow_nil _ _ _ _, Below.refl _ _⟩
  case round =>
    obtain ⟨k, a, ps, q, cn, hk, hak, has, rfl, rfl, rfl, hcn, hcut, hown, hw⟩ := hrel
    have hpl : ps.length ≤ 1000 := by
      have h1 := cutS_len sep (s.data.toList.take k)
      have h2 := List.length_take_le' k s.data.toList
      rw [hcut] at h1
      rw [size_list] at h2
      simp only at h1
      omega
    have hsz := hw.size
    have HC : Hid (cutS sep (s.data.toList.take k) = ⟨ps, (s.data.toList.drop a).take (k - a), q, cn⟩) := hcut
    clear hcut
    by_cases hlt : k < s.size
    · have hcn' := hcn (by omega)
      subst hcn'
      clear hcn
      have hc1 : (s[k].toNat : Int) < 256 := by have := s[k].toNat_lt; omega
      have HSN : Hid (∀ x, cstep sep ⟨ps, (s.data.toList.drop a).take (k - a), q, false⟩ s[k] = x → cutS sep (s.data.toList.take (k + 1)) = x) := by
        intro x hx
        rw [take_snoc s k hlt, cutS_snoc, HC.out, hx]
      by_cases hq34 : (s[k].toNat : Int) = 34
      · have hd1 : ((s[k].toNat : Int) == 92) = false := by rw [beq_eq_false_iff_ne]; omega
        have hd2 : ((s[k].toNat : Int) == 34) = true := by simp [hq34]
        have H34 : Hid ((s[k].toNat : Int) = 34) := hq34
        clear hq34
        cases q
        · go_wp2_with fail
          go_roundw
          case rel => exact ⟨k + 1, a, ps, true, false, by omega, by omega, by omega, by go_num, rfl, rfl, fun _ => rfl, by rw [seg_snoc s a k hak hlt]; exact HSN.out _ (cstep_quote sep HS34.out _ _ _ _ (eq_of_int _ 34 H34.out)), hown, hw⟩
          case measure => simp [intOf]; omega
        · go_wp2_with fail
          go_roundw
          case rel => exact ⟨k + 1, a, ps, false, false, by omega, by omega, by omega, by go_num, rfl, rfl, fun _ => rfl, by rw [seg_snoc s a k hak hlt]; exact HSN.out _ (cstep_quote sep HS34.out _ _ _ _ (eq_of_int _ 34 H34.out)), hown, hw⟩
          case measure => simp [intOf]; omega
      · have hd2 : ((s[k].toNat : Int) == 34) = false := by rw [beq_eq_false_iff_ne]; exact hq34
        have H34 : Hid ((s[k].toNat : Int) ≠ 34) := hq34
        clear hq34
        cases q
        · by_cases hsep : (s[k].toNat : Int) = (sep.toNat : Int)
          · have hd3 : ((s[k].toNat : Int) == (sep.toNat : Int)) = true := by simp [hsep]
            have HSP : Hid ((s[k].toNat : Int) = (sep.toNat : Int)) := hsep
            clear hsep
            go_wp2_with (at_builtin; refine wpList_append_own _ rfl _ _ 23 rfl w.heap.size 9 i0 (.string ⟨#[]⟩) 1 16 Tryd.underlying23 hi hz0 hz1 hz2 rfl (by decide) _ _ _ rfl (hown.alloc _) ⟨wr.heap.size, 0, none⟩ 1 1 [.string (s.extract a k)] rfl rfl ?c1 ?c2 ?c3 ?c4 ?c5 ?_)
            case c1 => exact one_cell _ _ _
            case c2 => intro u hu; simp at hu; subst hu; rfl
            case c3 => unfold maxLen; omega
            case c4 => omega
            case c5 => simp; omega
            · intro v' w1 hown' hgrow _
              have hB : Below w.heap.size w w1 := (hw.alloc (by omega) _).grown hgrow (by simp; omega) (fun b hb => ((hown.alloc (.cells #[.string (s.extract a k)] 9)).lt b hb).1)
              have hown2 : w1.ownsRow w.heap.size 9 1 v' (ps ++ [(s.data.toList.drop a).take (k - a)]).length (strs (ps ++ [(s.data.toList.drop a).take (k - a)])) := by
                rw [← strs_snoc, List.length_append, ← extract_seg]; exact hown'
              clear hown' hgrow hown hw
              go_wp2_with fail
              go_roundw
              case rel => exact ⟨k + 1, k + 1, _, false, false, by omega, by omega, by omega, by go_num, by go_num, rfl, fun _ => rfl, by rw [Nat.sub_self, List.take_zero]; exact HSN.out _ (cstep_sep sep _ _ _ (eq_of_int _ _ HSP.out)), hown2, hB⟩
              case measure => simp [intOf]; omega
          · have hd3 : ((s[k].toNat : Int) == (sep.toNat : Int)) = false := by rw [beq_eq_false_iff_ne]; exact hsep
            have HSP : Hid ((s[k].toNat : Int) ≠ (sep.toNat : Int)) := hsep
            clear hsep
            go_wp2_with fail
            go_roundw
            case rel => exact ⟨k + 1, a, ps, false, false, by omega, by omega, by omega, by go_num, rfl, rfl, fun _ => rfl, by rw [seg_snoc s a k hak hlt]; exact HSN.out _ (cstep_else sep _ _ _ _ (fun h => ne_of_int _ _ HSP.out h.1) (ne_of_int _ 34 H34.out) (fun h => by cases h.2)), hown, hw⟩
            case measure => simp [intOf]; omega
        · by_cases hq92 : (s[k].toNat : Int) = 92
          · have hd1 : ((s[k].toNat : Int) == 92) = true := by simp [hq92]
            have H92 : Hid ((s[k].toNat : Int) = 92) := hq92
            clear hq92
            have HN : Hid (∃ cn', (k + 2 ≤ s.size → cn' = false) ∧ cutS sep (s.data.toList.take (k + 2)) = ⟨ps, (s.data.toList.drop a).take (k + 2 - a), true, cn'⟩) := by
              have h1 := HSN.out _ (cstep_back sep _ _ _ (eq_of_int _ 92 H92.out))
              rw [← seg_snoc s a k hak hlt] at h1
              by_cases h2 : k + 1 < s.size
              · refine ⟨false, fun _ => rfl, ?_⟩
                rw [take_snoc s (k + 1) h2, cutS_snoc, h1, cstep_took, seg_snoc s a (k + 1) (by omega) h2]
              · refine ⟨true, fun h => absurd h (by omega), ?_⟩
                have e1 : s.data.toList.take (k + 2) = s.data.toList.take (k + 1) := by
                  rw [List.take_of_length_le (by rw [size_list]; omega), List.take_of_length_le (by rw [size_list]; omega)]
                have e2 : (s.data.toList.drop a).take (k + 2 - a) = (s.data.toList.drop a).take (k + 1 - a) := by
                  rw [List.take_of_length_le (by rw [List.length_drop, size_list]; omega), List.take_of_length_le (by rw [List.length_drop, size_list]; omega)]
                rw [e1, e2, h1]
            go_wp2_with fail
            go_roundw
            case rel =>
              obtain ⟨cn', h1, h2⟩ := HN.out
              exact ⟨k + 2, a, ps, true, cn', by omega, by omega, by omega, by go_num, rfl, rfl, h1, h2, hown, hw⟩
            case measure => simp [intOf]; omega
          · have hd1 : ((s[k].toNat : Int) == 92) = false := by rw [beq_eq_false_iff_ne]; exact hq92
            have H92 : Hid ((s[k].toNat : Int) ≠ 92) := hq92
            clear hq92
            by_cases hsep : (s[k].toNat : Int) = (sep.toNat : Int)
            · have hd3 : ((s[k].toNat : Int) == (sep.toNat : Int)) = true := by simp [hsep]
              clear hsep
              go_wp2_with fail
              go_roundw
              case rel => exact ⟨k + 1, a, ps, true, false, by omega, by omega, by omega, by go_num, rfl, rfl, fun _ => rfl, by rw [seg_snoc s a k hak hlt]; exact HSN.out _ (cstep_else sep _ _ _ _ (fun h => by cases h.2) (ne_of_int _ 34 H34.out) (fun h => ne_of_int _ 92 H92.out h.1)), hown, hw⟩
              case measure => simp [intOf]; omega
            · have hd3 : ((s[k].toNat : Int) == (sep.toNat : Int)) = false := by rw [beq_eq_false_iff_ne]; exact hsep
              clear hsep
              go_wp2_with fail
              go_roundw
              case rel => exact ⟨k + 1, a, ps, true, false, by omega, by omega, by omega, by go_num, rfl, rfl, fun _ => rfl, by rw [seg_snoc s a k hak hlt]; exact HSN.out _ (cstep_else sep _ _ _ _ (fun h => by cases h.2) (ne_of_int _ 34 H34.out) (fun h => ne_of_int _ 92 H92.out h.1)), hown, hw⟩
              case measure => simp [intOf]; omega
    · have HE : Hid (cutS sep s.data.toList = ⟨ps, (s.data.toList.drop a).take (s.size - a), q, cn⟩) := by
        show cutS sep s.data.toList = _
        have h := HC.out
        have e2 : (s.data.toList.drop a).take (k - a) = (s.data.toList.drop a).take (s.size - a) := by
          rw [List.take_of_length_le (by rw [List.length_drop, size_list]; omega), List.take_of_length_le (by rw [List.length_drop, size_list]; omega)]
        rw [List.take_of_length_le (by rw [size_list]; omega), e2] at h
        exact h
      clear hcn
      go_wp2_with (at_builtin; refine wpList_append_own _ rfl _ _ 23 rfl w.heap.size 9 i0 (.string ⟨#[]⟩) 1 16 Tryd.underlying23 hi hz0 hz1 hz2 rfl (by decide) _ _ _ rfl (hown.alloc _) ⟨wr.heap.size, 0, none⟩ 1 1 [.string (s.extract a s.size)] rfl rfl ?d1 ?d2 ?d3 ?d4 ?d5 ?_)
      case d1 => exact one_cell _ _ _
      case d2 => intro u hu; simp at hu; subst hu; rfl
      case d3 => unfold maxLen; omega
      case d4 => omega
      case d5 => simp; omega
      · intro v' w1 hown' hgrow _
        have hB : Below w.heap.size w w1 := (hw.alloc (by omega) _).grown hgrow (by simp; omega) (fun b hb => ((hown.alloc (.cells #[.string (s.extract a s.size)] 9)).lt b hb).1)
        have hown2 : w1.ownsRow w.heap.size 9 1 v' (pieces sep s.data.toList).length (strs (pieces sep s.data.toList)) := by
          unfold pieces
          rw [HE.out, ← strs_snoc, List.length_append, ← extract_seg]; exact hown'
        have HEN : Hid (ends sep s.data.toList = !q) := by show _ = _; unfold ends; rw [HE.out]
        clear hown' hgrow hown hw
        go_wp2_with fail
        go_ret2
        exact ⟨v', by rw [HEN.out]; rfl, hown2, hB⟩
end Go.Proofs.YteifheoomodplaaDoor

/-
  Small laws on rows of memory that a call made itself; no program is named here.
-/
namespace Go.Proofs.YteifheoomodplaaDoor
open Go.RowKit

theorem own_nil {w : World} {B : Nat} {e : TypeId} {v : Value} {xs : List Value} (h : w.ownsRow B e 1 v 0 xs) : xs = [] := by
  have := h.1
  simpa using this

theorem own_cell {w : World} {B : Nat} {v : Value} {n : Nat} {ps : List (List UInt8)} (h : w.ownsRow B 9 1 v n (strs ps)) : n = ps.length := by
  have := h.1
  rw [strs_length] at this
  omega

theorem own_slice {w : World} {B : Nat} {e : TypeId} {v : Value} {n : Nat} {xs : List Value} (h : w.ownsRow B e 1 v n xs) : ∃ ad cap, v = .slice ad n cap ∧ cap ≤ maxLen ∧ n ≤ cap ∧ (0 < n → ∃ g, ad = some ⟨g, 0, none⟩ ∧ B ≤ g ∧ g < w.heap.size ∧ ∀ j, j < n → w.cell? ⟨g, j, none⟩ = xs[j]?) := by
  rcases h.2 with ⟨rfl, rfl⟩ | ⟨g, cap, cur, hv, hb, hg, hnc, hcm, _, _⟩
  · exact ⟨none, 0, rfl, by unfold maxLen; omega, Nat.le_refl _, fun h => absurd h (by omega)⟩
  · refine ⟨some ⟨g, 0, none⟩, cap, hv, hcm, hnc, fun _ => ⟨g, rfl, hb, (Array.getElem?_eq_some_iff.1 hg).1, fun j hj => ?_⟩⟩
    subst hv
    exact h.cellAt j (by omega)

theorem own_below2 {w w1 : World} {B : Nat} {e : TypeId} {v : Value} {n : Nat} {xs : List Value} (h : w.ownsRow B e 1 v n xs) (hb : Below w.heap.size w w1) : w1.ownsRow B e 1 v n xs := by
  refine ⟨h.1, ?_⟩
  rcases h.2 with h0 | ⟨g, cap, cur, hv, hB, hg, h3⟩
  · exact .inl h0
  · exact .inr ⟨g, cap, cur, hv, hB, (hb.block g (Array.getElem?_eq_some_iff.1 hg).1).trans hg, h3⟩
theorem ownsRow_le' {w : World} {B B' : Nat} {e : TypeId} {v : Value} {n : Nat} {xs : List Value} (h : w.ownsRow B e 1 v n xs) (hb : B' ≤ B) : w.ownsRow B' e 1 v n xs := by
  refine ⟨h.1, ?_⟩
  rcases h.2 with h0 | ⟨g, cap, cur, hv, hB, h3⟩
  · exact .inl h0
  · exact .inr ⟨g, cap, cur, hv, Nat.le_trans hb hB, h3⟩
end Go.Proofs.YteifheoomodplaaDoor

/-
  What Split of package token computes; the text is no longer than Go allows.
-/
namespace Go.Proofs.YteifheoomodplaaDoor
open Go.RowKit

def kept (P : List (List UInt8)) : List (List UInt8) := (P.map trimL).filter (fun p => !p.isEmpty)
def splitS (l : List UInt8) : List (List UInt8) × Int :=
  if 1000 < l.length then ([], 2) else if ends 44 l = false then ([], 3) else if 20 < (kept (pieces 44 l)).length then ([], 2) else (kept (pieces 44 l), 0)

theorem kept_snoc (P : List (List UInt8)) (p : List UInt8) : kept (P ++ [p]) = if (trimL p).isEmpty = true then kept P else kept P ++ [trimL p] := by
  unfold kept
  rw [List.map_append, List.filter_append]
  cases h : (trimL p).isEmpty <;> simp [h]
theorem kept_len (P : List (List UInt8)) : (kept P).length ≤ P.length := by
  unfold kept
  have := List.length_filter_le (fun p : List UInt8 => !p.isEmpty) (P.map trimL)
  simpa using this
theorem take_one (P : List (List UInt8)) (k : Nat) (h : k < P.length) : P.take (k + 1) = P.take k ++ [P[k]] := List.take_succ_eq_append_getElem h

set_option maxHeartbeats 4000000 in
set_option maxRecDepth 100000 in
theorem split_any (s : ByteArray) (w : World) :
    Calls Tryd.prog 18 #[.string s] w fun e w' => ∃ v, e = .returned (.tuple #[v, .int .i64 (splitS s.data.toList).2]) ∧
      w'.ownsRow w.heap.size 9 1 v (splitS s.data.toList).1.length (strs (splitS s.data.toList).1) ∧ Below w.heap.size w w' := by
  obtain ⟨i0, hi, hz0, hz1, hz2⟩ := info_parts info9
  by_cases h1 : 1000 < (s.size : Int)
  · have HL : Hid (splitS s.data.toList = ([], 2)) := by show _ = _; unfold splitS; rw [if_pos (by rw [size_list]; omega)]
    go_enter Tryd.func18, Tryd.ntmps18
    go_wp2_with fail
    go_ret2
    exact ⟨.slice none 0 0, by rw [HL.out]; rfl, by rw [HL.out]; exact World.ownsRow_nil _ _ _ _, Below.refl _ _⟩
  · have hs : s.size ≤ 1000 := by omega
    have HL : Hid (¬ 1000 < s.data.toList.length) := by show ¬ _; rw [size_list]; omega
    clear h1
    cases he : ends 44 s.data.toList
    · have HE : Hid (ends 44 s.data.toList = false) := he
      have HS : Hid (splitS s.data.toList = ([], 3)) := by show _ = _; unfold splitS; rw [if_neg HL.out, if_pos he]
      clear he
      go_enter Tryd.func18, Tryd.ntmps18
      go_wp2_with fail
      refine (cut_any s 44 _ hs (by decide)).mono ?_
      rintro e w1 ⟨v, rfl, hown, hb⟩
      rw [HE.out]
      go_wp2_with fail
      go_ret2
      exact ⟨.slice none 0 0, by rw [HS.out]; rfl, by rw [HS.out]; exact World.ownsRow_nil _ _ _ _, hb⟩
    · have HE : Hid (ends 44 s.data.toList = true) := he
      have HS : Hid (splitS s.data.toList = if 20 < (kept (pieces 44 s.data.toList)).length then ([], 2) else (kept (pieces 44 s.data.toList), 0)) := by
        show _ = _; unfold splitS; rw [if_neg HL.out, if_neg (by rw [he]; simp)]
      clear he
      obtain ⟨P, hP⟩ : ∃ P, P = pieces 44 s.data.toList := ⟨_, rfl⟩
      have HP : Hid (P = pieces 44 s.data.toList) := hP
      have hPl : P.length ≤ 1001 := by
        rw [hP]; unfold pieces
        have := cutS_len 44 s.data.toList
        rw [size_list] at this
        simp; omega
      clear hP
      go_enter Tryd.func18, Tryd.ntmps18
      go_wp2_with fail
      refine (cut_any s 44 _ hs (by decide)).mono ?_
      rintro e w1 ⟨v, rfl, hown, hb⟩
      rw [HE.out]
      rw [← HP.out] at hown
      obtain ⟨ad, cap, hv, hcm, hnc, hcells⟩ := own_slice hown
      subst hv
      unfold maxLen at hcm
      have HCL : Hid (0 < P.length → ∃ g, ad = some ⟨g, 0, none⟩ ∧ w.heap.size ≤ g ∧ g < w1.heap.size ∧ ∀ j, j < P.length → w1.cell? ⟨g, j, none⟩ = (strs P)[j]?) := hcells
      have hbs := hb.size
      clear hcells hown
      go_wp2_with fail
      go_loopw [6, 22] (fun v i wr => ∃ k : Nat, k ≤ P.length ∧ i = .int .i64 k ∧ wr.ownsRow w1.heap.size 9 1 v (kept (P.take k)).length (strs (kept (P.take k))) ∧ Below w1.heap.size w1 wr) (fun _ i _ => P.length - (intOf i).toNat)
      case atStart => exact ⟨0, by omega, rfl, World.ownsRow_nil _ _ _ _, Below.refl _ _⟩
      case round =>
        obtain ⟨k, hk, rfl, hown, hw⟩ := hrel
        have hsz := hw.size
        have hkl : (kept (P.take k)).length ≤ 1001 := by
          have h1 := kept_len (P.take k)
          have h2 := List.length_take_le k P
          omega
        by_cases hlt : k < P.length
        · obtain ⟨g, rfl, hgB, hgs, hce⟩ := HCL.out (by omega)
          have hcell : wr.cell? ⟨g, k, none⟩ = some (.string ⟨(P[k]).toArray⟩) := by
            rw [hw.cell (p := ⟨g, k, none⟩) hgs, hce k hlt]
            exact strs_get P k hlt
          obtain ⟨u, hu⟩ : ∃ u : ByteArray, u = ⟨(P[k]).toArray⟩ := ⟨_, rfl⟩
          rw [← hu] at hcell
          have hus : u.size ≤ 1000 := by
            rw [hu, ← size_list]
            have h2 := pieces_len 44 s.data.toList P[k] (by rw [← HP.out]; exact List.getElem_mem hlt)
            rw [size_list] at h2
            show (P[k]).length ≤ 1000
            omega
          obtain ⟨u', hu'⟩ : ∃ u' : ByteArray, u' = ⟨(trimL P[k]).toArray⟩ := ⟨_, rfl⟩
          have HU : Hid (u'.data.toList = trimL u.data.toList) := by show _ = _; rw [hu, hu']
          have HU' : Hid (u' = ⟨(trimL P[k]).toArray⟩) := hu'
          have hus' : u'.size ≤ 1000 := by
            rw [← size_list, HU.out]
            have := trimL_len u.data.toList
            rw [size_list] at this
            omega
          have HKS : Hid (kept (P.take (k + 1)) = if (trimL P[k]).isEmpty = true then kept (P.take k) else kept (P.take k) ++ [trimL P[k]]) := by
            show _ = _; rw [take_one P k hlt, kept_snoc]
          clear hce hu hu'
          cases hem : u'.toList.isEmpty
          · have HEM : Hid ((trimL P[k]).isEmpty = false) := by
              show _ = _
              rw [ByteArray.toList_eq, HU'.out] at hem
              exact hem
            go_wp2_with fail
            refine (trim_at _ u' HU.out _ (by omega)).mono ?_
            rintro e w2 ⟨rfl, hb2⟩
            have hown2 := own_below2 hown hb2
            have hw2 := hw.trans (hb2.mono hw.size)
            have hsz2 := hw2.size
            clear hown hw hb2 hcell
            go_wp2_with fail
            refine (clone_at _ _ (by omega)).mono ?_
            rintro e w3 ⟨rfl, hb3⟩
            have hown3 := own_below2 hown2 hb3
            have hw3 := hw2.trans (hb3.mono hw2.size)
            have hsz3 := hw3.size
            clear hown2 hw2 hb3
            go_wp2_with (at_builtin; refine wpList_append_own _ rfl _ _ 23 rfl w1.heap.size 9 i0 (.string ⟨#[]⟩) 1 16 Tryd.underlying23 hi hz0 hz1 hz2 rfl (by decide) _ _ _ rfl (hown3.alloc _) ⟨w3.heap.size, 0, none⟩ 1 1 [.string u'] rfl rfl ?c1 ?c2 ?c3 ?c4 ?c5 ?_)
            case c1 => exact one_cell _ _ _
            case c2 => intro x hx; simp at hx; subst hx; rfl
            case c3 => unfold maxLen; omega
            case c4 => omega
            case c5 => simp; omega
            · intro v' w4 hown' hgrow _
              have hB : Below w1.heap.size w1 w4 := (hw3.alloc (by omega) _).grown hgrow (by simp; omega) (fun b hb => ((hown3.alloc (.cells #[.string u'] 9)).lt b hb).1)
              have hown4 : w4.ownsRow w1.heap.size 9 1 v' (kept (P.take (k + 1))).length (strs (kept (P.take (k + 1)))) := by
                rw [HKS.out, HEM.out]
                simp only [Bool.false_eq_true, if_false]
                rw [← strs_snoc, List.length_append, ← HU'.out]; exact hown'
              clear hown' hgrow hown3 hw3
              go_wp2_with fail
              go_roundw
              case rel => exact ⟨k + 1, by omega, by go_num, hown4, hB⟩
              case measure => simp [intOf]; omega
          · have HEM : Hid ((trimL P[k]).isEmpty = true) := by
              show _ = _
              rw [ByteArray.toList_eq, HU'.out] at hem
              exact hem
            go_wp2_with fail
            refine (trim_at _ u' HU.out _ (by omega)).mono ?_
            rintro e w2 ⟨rfl, hb2⟩
            have hown2 := own_below2 hown hb2
            have hw2 := hw.trans (hb2.mono hw.size)
            clear hown hw hb2 hcell
            go_wp2_with fail
            go_roundw
            case rel => exact ⟨k + 1, by omega, by go_num, by rw [HKS.out, if_pos HEM.out]; exact hown2, hw2⟩
            case measure => simp [intOf]; omega
        · obtain rfl : k = P.length := by omega
          rw [List.take_length] at hown hkl
          obtain ⟨ad2, cap2, hv2, hcm2, hnc2, _⟩ := own_slice hown
          subst hv2
          unfold maxLen at hcm2
          by_cases h20 : 20 < ((kept P).length : Int)
          · have HR : Hid (splitS s.data.toList = ([], 2)) := by show _ = _; rw [HS.out, if_pos (by rw [← HP.out]; omega)]
            go_wp2_with fail
            go_ret2
            exact ⟨.slice none 0 0, by rw [HR.out]; rfl, by rw [HR.out]; exact World.ownsRow_nil _ _ _ _, hb.trans (hw.mono hbs)⟩
          · have HR : Hid (splitS s.data.toList = (kept P, 0)) := by show _ = _; rw [HS.out, if_neg (by rw [← HP.out]; omega), ← HP.out]
            go_wp2_with fail
            go_ret2
            exact ⟨_, by rw [HR.out]; rfl, by rw [HR.out]; exact ownsRow_le' hown hbs, hb.trans (hw.mono hbs)⟩
end Go.Proofs.YteifheoomodplaaDoor

/-
  A piece more behind a comma: a text is split as before, and that piece is the last; no program is named here.
-/
namespace Go.Proofs.YteifheoomodplaaDoor
open Go.RowKit

/-- A piece that stands by itself between commas: no quote in it. -/
def Bare (d : List UInt8) : Prop := closed 44 d ∧ trimL d = d ∧ d.isEmpty = false ∧ ∀ c ∈ d, c ≠ 34
theorem quote_stays (d : List UInt8) (h : ∀ c ∈ d, c ≠ 34) : ∀ x : Cut, x.q = true → (d.foldl (cstep 44) x).q = true := by
  induction d with
  | nil => intro x hx; exact hx
  | cons c d ih =>
    intro x hx
    rw [List.foldl_cons]
    apply ih (fun b hb => h b (List.mem_cons_of_mem _ hb))
    have hc := h c (List.mem_cons_self ..)
    unfold cstep
    rw [if_neg (fun e => by rw [hx] at e; cases e.2)]
    simp only [hc, if_false, hx]
    split <;> rfl
theorem cn_quote (l : List UInt8) : (cutS 44 l).cn = true → (cutS 44 l).q = true := by
  have gen : ∀ (l : List UInt8) (x : Cut), (x.cn = true → x.q = true) → ((l.foldl (cstep 44) x).cn = true → (l.foldl (cstep 44) x).q = true) := by
    intro l
    induction l with
    | nil => intro x h; exact h
    | cons c l ih =>
      intro x h
      rw [List.foldl_cons]
      apply ih
      unfold cstep
      split
      · rename_i hs
        intro hc
        have := h hc
        rw [hs.2] at this; cases this
      · simp only
        cases hc : x.cn
        · simp only [Bool.false_eq_true, if_false]
          intro h'
          by_cases h34 : c = 34
          · simp [h34] at h'
          · by_cases h92 : c = 92
            · simp only [h92, if_true] at h' ⊢
              simpa using h'
            · simp [h34, h92] at h'
        · simp
  exact gen l ⟨[], [], false, false⟩ (fun h => by cases h)
theorem split_comma (s d : List UInt8) (hd : Bare d) (P : List (List UInt8)) (h : splitS (s ++ 44 :: d) = (P, 0)) : ∃ Q, splitS s = (Q, 0) ∧ P = Q ++ [d] := by
  obtain ⟨h1, h2, h3, h4⟩ := hd
  have he : cutS 44 (s ++ 44 :: d) = d.foldl (cstep 44) (cstep 44 (cutS 44 s) 44) := by unfold cutS; rw [List.foldl_append, List.foldl_cons]
  cases hq : (cutS 44 s).q
  · have hcn : (cutS 44 s).cn = false := by
      cases hc : (cutS 44 s).cn
      · rfl
      · have := cn_quote s hc; rw [hq] at this; cases this
    have hst : cstep 44 (cutS 44 s) 44 = ⟨(cutS 44 s).ps ++ [(cutS 44 s).cur], [], false, false⟩ := by
      unfold cstep
      rw [if_pos ⟨rfl, hq⟩]
      simp [hq, hcn]
    rw [hst, run_fold 44 d _ [] false false false false h1] at he
    have hp : pieces 44 (s ++ 44 :: d) = pieces 44 s ++ [d] := by unfold pieces; rw [he]; simp
    have hes : ends 44 s = true := by unfold ends; rw [hq]; rfl
    have hk : kept (pieces 44 (s ++ 44 :: d)) = kept (pieces 44 s) ++ [d] := by
      rw [hp, kept_snoc, h2, h3]; simp
    unfold splitS at h
    split at h
    · cases h
    · rename_i hl
      split at h
      · cases h
      · split at h
        · cases h
        · rename_i h20
          simp only [Prod.mk.injEq, and_true] at h
          rw [hk] at h h20
          refine ⟨kept (pieces 44 s), ?_, h.symm⟩
          unfold splitS
          rw [if_neg (by simp at hl; omega), if_neg (by rw [hes]; simp), if_neg (by simp at h20; omega)]
  · exfalso
    have hst : (cstep 44 (cutS 44 s) 44).q = true := by
      unfold cstep
      rw [if_neg (fun e => by rw [hq] at e; cases e.2)]
      simp [hq]
    have hend : ends 44 (s ++ 44 :: d) = false := by
      unfold ends
      rw [he, quote_stays d h4 _ hst]; rfl
    unfold splitS at h
    split at h
    · cases h
    · first
      | cases h
      | (rw [if_pos hend] at h; cases h)
theorem split_one (d : List UInt8) (hd : Bare d) (hl : d.length ≤ 1000) : splitS d = ([d], 0) := by
  obtain ⟨h1, h2, h3, h4⟩ := hd
  have he : cutS 44 d = ⟨[], d, false, false⟩ := by unfold cutS; rw [run_fold 44 d _ [] false false false false h1]; rfl
  have hp : pieces 44 d = [d] := by unfold pieces; rw [he]; rfl
  have hk : kept [d] = [d] := by
    have := kept_snoc [] d
    rw [h2, h3] at this
    simpa [kept] using this
  have hen : ends 44 d = true := by unfold ends; rw [he]; rfl
  unfold splitS
  rw [if_neg (by omega), if_neg (by rw [hen]; simp), hp, hk, if_neg (by simp)]
end Go.Proofs.YteifheoomodplaaDoor

/-
  Plain functions on fields (a name and a value, each a list of bytes), and what is known of a list of fields in memory; no program is named here.
-/
namespace Go.Proofs.YteifheoomodplaaDoor
open Go.RowKit

abbrev Fld := List UInt8 × List UInt8
def flds (ps : List Fld) : List Value := ps.flatMap fun x => [Value.string ⟨x.1.toArray⟩, Value.string ⟨x.2.toArray⟩]
theorem flds_snoc (ps : List Fld) (x : Fld) : flds ps ++ [Value.string ⟨x.1.toArray⟩, Value.string ⟨x.2.toArray⟩] = flds (ps ++ [x]) := by simp [flds]
theorem flds_app (ps qs : List Fld) : flds (ps ++ qs) = flds ps ++ flds qs := by simp [flds]
theorem flds_length (ps : List Fld) : (flds ps).length = ps.length * 2 := by
  induction ps with
  | nil => rfl
  | cons x ps ih =>
    have e : flds (x :: ps) = [Value.string ⟨x.1.toArray⟩, Value.string ⟨x.2.toArray⟩] ++ flds ps := by simp [flds]
    rw [e, List.length_append, ih, List.length_cons]; simp; omega
theorem flds_get (ps : List Fld) : ∀ (k : Nat) (h : k < ps.length), (flds ps)[k * 2]? = some (.string ⟨(ps[k]).1.toArray⟩) ∧ (flds ps)[k * 2 + 1]? = some (.string ⟨(ps[k]).2.toArray⟩) := by
  induction ps with
  | nil => intro k h; simp at h
  | cons x ps ih =>
    intro k h
    have e : flds (x :: ps) = Value.string ⟨x.1.toArray⟩ :: Value.string ⟨x.2.toArray⟩ :: flds ps := by simp [flds]
    rw [e]
    cases k with
    | zero => exact ⟨rfl, rfl⟩
    | succ k =>
      have := ih k (by simpa using h)
      rw [show (k + 1) * 2 = k * 2 + 1 + 1 from by omega, show k * 2 + 1 + 1 + 1 = (k * 2 + 1) + 1 + 1 from by omega, List.getElem?_cons_succ, List.getElem?_cons_succ, List.getElem?_cons_succ, List.getElem?_cons_succ]
      exact this

/-- A slice of fields that can be read. -/
def Fl (w : World) (v : Value) (ls : List Fld) : Prop :=
  ∃ ad cap, v = .slice ad ls.length cap ∧ ls.length ≤ cap ∧ cap ≤ maxLen ∧ (0 < ls.length → ∃ g off, ad = some ⟨g, off, none⟩ ∧ g < w.heap.size ∧
    ∀ (k : Nat) (h : k < ls.length), w.cell? ⟨g, off + k * 2, none⟩ = some (.string ⟨(ls[k]).1.toArray⟩) ∧ w.cell? ⟨g, off + k * 2 + 1, none⟩ = some (.string ⟨(ls[k]).2.toArray⟩))
/-- No name and no value is longer than so many bytes. -/
def Most (m : Nat) (ls : List Fld) : Prop := ∀ x ∈ ls, x.1.length ≤ m ∧ x.2.length ≤ m

/-- How many values and letters a list of fields holds. -/
def bulkF (ls : List Fld) : Nat := (ls.map fun y => y.1.length + y.2.length + 3).sum

theorem Fl.below {w w' : World} {v : Value} {ls : List Fld} (h : Fl w v ls) (hb : Below w.heap.size w w') : Fl w' v ls := by
  obtain ⟨ad, cap, hv, h1, h2, h3⟩ := h
  refine ⟨ad, cap, hv, h1, h2, fun h0 => ?_⟩
  obtain ⟨g, off, ha, hg, hc⟩ := h3 h0
  refine ⟨g, off, ha, Nat.lt_of_lt_of_le hg hb.size, fun k hk => ?_⟩
  obtain ⟨c1, c2⟩ := hc k hk
  exact ⟨(hb.cell (p := ⟨g, off + k * 2, none⟩) hg).trans c1, (hb.cell (p := ⟨g, off + k * 2 + 1, none⟩) hg).trans c2⟩
theorem Fl.nil (w : World) : Fl w (.slice none 0 0) [] := ⟨none, 0, rfl, Nat.le_refl _, by unfold maxLen; omega, fun h => absurd h (by simp)⟩

theorem own_below3 {w w1 : World} {B : Nat} {e : TypeId} {size : Nat} {v : Value} {n : Nat} {xs : List Value} (h : w.ownsRow B e size v n xs) (hb : Below w.heap.size w w1) : w1.ownsRow B e size v n xs := by
  refine ⟨h.1, ?_⟩
  rcases h.2 with h0 | ⟨g, cap, cur, hv, hB, hg, h3⟩
  · exact .inl h0
  · exact .inr ⟨g, cap, cur, hv, hB, (hb.block g (Array.getElem?_eq_some_iff.1 hg).1).trans hg, h3⟩
theorem own_form2 {w : World} {B : Nat} {e : TypeId} {size : Nat} {v : Value} {n : Nat} {xs : List Value} (h : w.ownsRow B e size v n xs) : ∃ ad cap, v = .slice ad n cap ∧ cap ≤ maxLen ∧ n ≤ cap ∧ (0 < n → ∃ g, ad = some ⟨g, 0, none⟩ ∧ B ≤ g ∧ g < w.heap.size ∧ ∀ j, j < n * size → w.cell? ⟨g, j, none⟩ = xs[j]?) := by
  rcases h.2 with ⟨rfl, rfl⟩ | ⟨g, cap, cur, hv, hb, hg, hnc, hcm, _, _⟩
  · exact ⟨none, 0, rfl, by unfold maxLen; omega, Nat.le_refl _, fun h => absurd h (by omega)⟩
  · refine ⟨some ⟨g, 0, none⟩, cap, hv, hcm, hnc, fun _ => ⟨g, rfl, hb, (Array.getElem?_eq_some_iff.1 hg).1, fun j hj => ?_⟩⟩
    subst hv
    exact h.cellAt j hj
theorem own_le {w : World} {B B' : Nat} {e : TypeId} {size : Nat} {v : Value} {n : Nat} {xs : List Value} (h : w.ownsRow B e size v n xs) (hb : B' ≤ B) : w.ownsRow B' e size v n xs := by
  refine ⟨h.1, ?_⟩
  rcases h.2 with h0 | ⟨g, cap, cur, hv, hB, h3⟩
  · exact .inl h0
  · exact .inr ⟨g, cap, cur, hv, Nat.le_trans hb hB, h3⟩
/-- A row of fields that the call made itself can be read. -/
theorem Fl.own {w : World} {B : Nat} {e : TypeId} {v : Value} {ls : List Fld} (h : w.ownsRow B e 2 v ls.length (flds ls)) : Fl w v ls := by
  obtain ⟨ad, cap, hv, hcm, hnc, hc⟩ := own_form2 h
  refine ⟨ad, cap, hv, hnc, hcm, fun h0 => ?_⟩
  obtain ⟨g, ha, _, hg, hce⟩ := hc h0
  refine ⟨g, 0, ha, hg, fun k hk => ?_⟩
  obtain ⟨p1, p2⟩ := flds_get ls k hk
  rw [Nat.zero_add, hce _ (by omega), hce _ (by omega)]
  exact ⟨p1, p2⟩

theorem drewN_below (B : Nat) (w : World) (n : Nat) : Below B w (w.drewN n) := by
  induction n with
  | zero => exact Below.refl _ _
  | succ n ih => exact ih.drew
theorem drewN_cell (w : World) (n : Nat) (a : Addr) : (w.drewN n).cell? a = w.cell? a := by
  induction n with
  | zero => rfl
  | succ n ih => exact ih
theorem drewN_frozen (w : World) (n : Nat) (a : Addr) : (w.drewN n).frozen? a = w.frozen? a := by
  induction n with
  | zero => rfl
  | succ n ih => exact ih
theorem drewN_size (w : World) (n : Nat) : (w.drewN n).heap.size = w.heap.size := by
  induction n with
  | zero => rfl
  | succ n ih => exact ih
theorem new_free (w : World) (cs : Array Value) (t : TypeId) (j : Nat) : (w.alloc (.cells cs t)).frozen? ⟨w.heap.size, j, none⟩ = false :=
  Lib.frozen_of_heap (heap_alloc_new w (.cells cs t)) j
theorem cell_in {w : World} {a : Addr} {v : Value} (h : w.cell? a = some v) : a.block < w.heap.size := by
  rcases Nat.lt_or_ge a.block w.heap.size with h1 | h1
  · exact h1
  · exfalso
    unfold World.cell? at h
    rw [Array.getElem?_eq_none h1] at h
    simp at h
theorem cell_keep {w w' : World} {a : Addr} {v : Value} (h : Below w.heap.size w w') (hc : w.cell? a = some v) : w'.cell? a = some v := (h.cell (cell_in hc)).trans hc

def chk1 (x : Fld) : Int := if token x.1 = false then 3 else if 30 < x.1.length ∨ 1000 < x.2.length then 2 else if allPlain x.2 = true ∧ trimL x.2 = x.2 then 0 else 3
def chkL : List Fld → Int
  | [] => 0
  | x :: r => if chk1 x = 0 then chkL r else chk1 x
def chk (ls : List Fld) : Int := if 30 < ls.length then 2 else chkL ls
theorem chk1_tok (x : Fld) (h : token x.1 = false) : chk1 x = 3 := by unfold chk1; rw [if_pos h]
theorem chk1_large (x : Fld) (h : token x.1 = true) (hl : 30 < x.1.length ∨ 1000 < x.2.length) : chk1 x = 2 := by unfold chk1; rw [if_neg (by rw [h]; simp), if_pos hl]
theorem chk1_bad (x : Fld) (h : token x.1 = true) (hl : ¬ (30 < x.1.length ∨ 1000 < x.2.length)) (hp : ¬ (allPlain x.2 = true ∧ trimL x.2 = x.2)) : chk1 x = 3 := by unfold chk1; rw [if_neg (by rw [h]; simp), if_neg hl, if_neg hp]
theorem chk1_ok (x : Fld) (h : token x.1 = true) (hl : ¬ (30 < x.1.length ∨ 1000 < x.2.length)) (hp : allPlain x.2 = true ∧ trimL x.2 = x.2) : chk1 x = 0 := by unfold chk1; rw [if_neg (by rw [h]; simp), if_neg hl, if_pos hp]
theorem chk1_is (x : Fld) (h : chk1 x = 0) : token x.1 = true ∧ x.1.length ≤ 30 ∧ x.2.length ≤ 1000 ∧ allPlain x.2 = true ∧ trimL x.2 = x.2 := by
  unfold chk1 at h
  split at h
  · cases h
  · rename_i ht
    split at h
    · cases h
    · rename_i hl
      split at h
      · rename_i hp
        exact ⟨by simpa using ht, by omega, by omega, hp.1, hp.2⟩
      · cases h
theorem chk1_some (x : Fld) : chk1 x = 0 ∨ chk1 x = 2 ∨ chk1 x = 3 := by
  unfold chk1
  split
  · exact .inr (.inr rfl)
  · split
    · exact .inr (.inl rfl)
    · split
      · exact .inl rfl
      · exact .inr (.inr rfl)
theorem chkL_app (a b : List Fld) (h : chkL a = 0) : chkL (a ++ b) = chkL b := by
  induction a with
  | nil => rfl
  | cons x a ih =>
    unfold chkL at h
    split at h
    · rename_i hx
      rw [List.cons_append]
      show (if chk1 x = 0 then chkL (a ++ b) else chk1 x) = _
      rw [if_pos hx]; exact ih h
    · rename_i hx; exact absurd h hx
theorem chkL_one (x : Fld) : chkL [x] = chk1 x := by
  show (if chk1 x = 0 then chkL [] else chk1 x) = chk1 x
  split
  · rename_i h; rw [h]; rfl
  · rfl
theorem chkL_take (ls : List Fld) (k : Nat) (h : k < ls.length) (h0 : chkL (ls.take k) = 0) (h1 : chk1 ls[k] = 0) : chkL (ls.take (k + 1)) = 0 := by
  rw [List.take_succ_eq_append_getElem h, chkL_app _ _ h0, chkL_one, h1]
theorem chkL_dead (ls : List Fld) (k : Nat) (h : k < ls.length) (h0 : chkL (ls.take k) = 0) (h1 : chk1 ls[k] ≠ 0) : chkL ls = chk1 ls[k] := by
  have e : ls = ls.take k ++ ls[k] :: ls.drop (k + 1) := by rw [← List.drop_eq_getElem_cons h, List.take_append_drop]
  have e2 : chkL (ls.take k ++ ls[k] :: ls.drop (k + 1)) = chk1 ls[k] := by
    rw [chkL_app _ _ h0]
    show (if chk1 ls[k] = 0 then chkL (ls.drop (k + 1)) else chk1 ls[k]) = _
    rw [if_neg h1]
  rw [← e] at e2
  exact e2
theorem chkL_all (ls : List Fld) (h : chkL ls = 0) : ∀ x ∈ ls, chk1 x = 0 := by
  induction ls with
  | nil => intro x hx; cases hx
  | cons a ls ih =>
    unfold chkL at h
    split at h
    · rename_i ha
      intro x hx
      rcases List.mem_cons.1 hx with rfl | hx
      · exact ha
      · exact ih h x hx
    · rename_i ha; exact absurd h ha
theorem chkL_of_all (ls : List Fld) (h : ∀ x ∈ ls, chk1 x = 0) : chkL ls = 0 := by
  induction ls with
  | nil => rfl
  | cons a ls ih =>
    show (if chk1 a = 0 then chkL ls else chk1 a) = 0
    rw [if_pos (h a (List.mem_cons_self ..))]
    exact ih fun x hx => h x (List.mem_cons_of_mem _ hx)
theorem chk_many (ls : List Fld) (h : 30 < ls.length) : chk ls = 2 := by unfold chk; rw [if_pos h]
theorem chk_few (ls : List Fld) (h : ¬ 30 < ls.length) : chk ls = chkL ls := by unfold chk; rw [if_neg h]
theorem chk_zero (ls : List Fld) (h : chk ls = 0) : ls.length ≤ 30 ∧ chkL ls = 0 := by
  unfold chk at h
  split at h
  · cases h
  · exact ⟨by omega, h⟩
end Go.Proofs.YteifheoomodplaaDoor

/-
  Plain functions on fields: those of a name, their values as one list, one set in the place of the first, all but those of a name; no program is named here.
-/
namespace Go.Proofs.YteifheoomodplaaDoor
open Go.RowKit

/-- Is a field of that name? -/
def nm (s : List UInt8) (x : Fld) : Bool := lower x.1 == lower s
def vals (ls : List Fld) (s : List UInt8) : List (List UInt8) := (ls.filter (nm s)).map (·.2)
def jn (P : List (List UInt8)) : List UInt8 := Lib.join P [44, 32]
def rest1 (s : List UInt8) (ls : List Fld) : List Fld := ls.filter fun x => !nm s x
def setS (s v : List UInt8) : List Fld → List Fld
  | [] => [(s, v)]
  | x :: r => if nm s x then (s, v) :: rest1 s r else x :: setS s v r

theorem tail_app (sep : List UInt8) (a b : List (List UInt8)) : Lib.joinTail sep (a ++ b) = Lib.joinTail sep a ++ Lib.joinTail sep b := by simp [Lib.joinTail]
theorem jn_app (a : List UInt8) (r b : List (List UInt8)) : jn (a :: r ++ b) = jn (a :: r) ++ Lib.joinTail [44, 32] b := by
  unfold jn
  rw [List.cons_append, Lib.join_cons, Lib.join_cons, tail_app, List.append_assoc]
theorem tail_one (sep x : List UInt8) : Lib.joinTail sep [x] = sep ++ x := by simp [Lib.joinTail]
theorem jn_snoc (P : List (List UInt8)) (x : List UInt8) : jn (P ++ [x]) = if P = [] then x else jn P ++ [44, 32] ++ x := by
  cases P with
  | nil => simp [jn, Lib.join_one]
  | cons a r =>
    rw [jn_app, tail_one]
    simp
theorem jn_both (P Q : List (List UInt8)) (hp : P ≠ []) (hq : Q ≠ []) : jn (P ++ Q) = jn P ++ [44, 32] ++ jn Q := by
  cases P with
  | nil => exact absurd rfl hp
  | cons a r =>
    cases Q with
    | nil => exact absurd rfl hq
    | cons b q =>
      rw [jn_app]
      unfold jn
      rw [Lib.join_cons b q]
      simp [Lib.joinTail]
theorem vals_app (a b : List Fld) (s : List UInt8) : vals (a ++ b) s = vals a s ++ vals b s := by simp [vals]
theorem vals_take (ls : List Fld) (s : List UInt8) (k : Nat) (h : k < ls.length) : vals (ls.take (k + 1)) s = vals (ls.take k) s ++ (if nm s ls[k] then [ls[k].2] else []) := by
  rw [List.take_succ_eq_append_getElem h, vals_app]
  congr 1
  unfold vals
  rw [List.filter_cons]
  split <;> rfl
theorem bulkF_app (a b : List Fld) : bulkF (a ++ b) = bulkF a + bulkF b := by simp [bulkF]
theorem bulkF_cons (x : Fld) (r : List Fld) : bulkF (x :: r) = x.1.length + x.2.length + 3 + bulkF r := by simp [bulkF]
theorem lens_vals (ls : List Fld) (s : List UInt8) : Lib.lens (vals ls s) + 2 * (vals ls s).length ≤ bulkF ls := by
  induction ls with
  | nil => simp [vals, Lib.lens]
  | cons x r ih =>
    have e : vals (x :: r) s = (if nm s x then [x.2] else []) ++ vals r s := by
      unfold vals
      rw [List.filter_cons]
      split <;> rfl
    rw [e, bulkF_cons]
    split
    · simp only [List.cons_append, List.nil_append, List.length_cons, Lib.lens, List.map_cons, List.sum_cons] at ih ⊢
      omega
    · simp only [List.nil_append]
      omega
theorem jn_len (P : List (List UInt8)) : (jn P).length ≤ Lib.lens P + 2 * P.length := by
  cases P with
  | nil => simp [jn, Lib.join_nil, Lib.lens]
  | cons a r =>
    unfold jn
    rw [Lib.join_length]
    simp only [List.length_cons, List.length_nil]
    omega
theorem jn_bulk (ls : List Fld) (s : List UInt8) : (jn (vals ls s)).length ≤ bulkF ls := Nat.le_trans (jn_len _) (lens_vals ls s)
theorem bulk_most (ls : List Fld) : ∀ x ∈ ls, x.1.length ≤ bulkF ls ∧ x.2.length ≤ bulkF ls := by
  induction ls with
  | nil => intro x hx; cases hx
  | cons a r ih =>
    intro x hx
    rw [bulkF_cons]
    rcases List.mem_cons.1 hx with rfl | hx
    · omega
    · have := ih x hx; omega
theorem bulk_len (ls : List Fld) : 3 * ls.length ≤ bulkF ls := by
  induction ls with
  | nil => simp [bulkF]
  | cons a r ih => rw [bulkF_cons, List.length_cons]; omega

theorem rest1_app (s : List UInt8) (a b : List Fld) : rest1 s (a ++ b) = rest1 s a ++ rest1 s b := by simp [rest1]
theorem rest1_none (s : List UInt8) (a : List Fld) (h : ∀ x ∈ a, nm s x = false) : rest1 s a = a := by
  unfold rest1
  rw [List.filter_eq_self]
  intro x hx
  rw [h x hx]; rfl
theorem setS_skip (s v : List UInt8) (a b : List Fld) (h : ∀ x ∈ a, nm s x = false) : setS s v (a ++ b) = a ++ setS s v b := by
  induction a with
  | nil => rfl
  | cons x a ih =>
    rw [List.cons_append, setS, if_neg (by rw [h x (List.mem_cons_self ..)]; simp), ih fun y hy => h y (List.mem_cons_of_mem _ hy)]
    rfl
theorem setS_hit (s v : List UInt8) (x : Fld) (r : List Fld) (h : nm s x = true) : setS s v (x :: r) = (s, v) :: rest1 s r := by rw [setS, if_pos h]
/-- What Set of package field puts together: what is ahead of the place, the new one, and what is behind. -/
theorem setS_parts (s v : List UInt8) (ls : List Fld) (k : Nat) (hk : k ≤ ls.length) (h : ∀ x ∈ ls.take k, nm s x = false) (hh : k < ls.length → ∃ x r, ls.drop k = x :: r ∧ nm s x = true) :
    setS s v ls = rest1 s (ls.take k) ++ [(s, v)] ++ rest1 s (ls.drop k) := by
  have e : setS s v ls = setS s v (ls.take k ++ ls.drop k) := by rw [List.take_append_drop]
  rw [e, setS_skip s v _ _ h, rest1_none s _ h]
  by_cases hlt : k < ls.length
  · obtain ⟨x, r, hd, hx⟩ := hh hlt
    have er : rest1 s (x :: r) = rest1 s r := by unfold rest1; rw [List.filter_cons, hx]; rfl
    rw [hd, setS_hit s v x r hx, er]
    simp
  · have : ls.drop k = [] := List.drop_eq_nil_of_le (by omega)
    rw [this]
    simp [setS, rest1]
theorem setS_len (s v : List UInt8) (ls : List Fld) : (setS s v ls).length ≤ ls.length + 1 := by
  induction ls with
  | nil => simp [setS]
  | cons x r ih =>
    unfold setS
    split
    · have := List.length_filter_le (fun x => !nm s x) r
      simp only [List.length_cons, rest1]; omega
    · simp only [List.length_cons]; omega
theorem setS_mem (s v : List UInt8) (ls : List Fld) : ∀ x ∈ setS s v ls, x = (s, v) ∨ x ∈ ls := by
  induction ls with
  | nil => intro x hx; simp [setS] at hx; exact .inl hx
  | cons y r ih =>
    intro x hx
    unfold setS at hx
    split at hx
    · rcases List.mem_cons.1 hx with hx | hx
      · exact .inl hx
      · exact .inr (List.mem_cons_of_mem _ (List.mem_filter.1 hx).1)
    · rcases List.mem_cons.1 hx with hx | hx
      · exact .inr (by rw [hx]; exact List.mem_cons_self ..)
      · rcases ih x hx with h | h
        · exact .inl h
        · exact .inr (List.mem_cons_of_mem _ h)
end Go.Proofs.YteifheoomodplaaDoor

/-
  Plain lemmas on fields that are set, dropped and read; no program is named here.
-/
namespace Go.Proofs.YteifheoomodplaaDoor
open Go.RowKit

theorem low_low (c : UInt8) : low (low c) = low c := by
  have := byAll (fun c => low (low c) == low c) (by decide +kernel) c
  simpa using this
theorem lower_lower (l : List UInt8) : lower (lower l) = lower l := by
  unfold lower
  rw [List.map_map]
  apply List.map_congr_left
  intro c _
  exact low_low c
theorem nm_low (s s' : List UInt8) (h : lower s' = lower s) (x : Fld) : nm s' x = nm s x := by unfold nm; rw [h]
theorem vals_low (ls : List Fld) (s s' : List UInt8) (h : lower s' = lower s) : vals ls s' = vals ls s := by
  unfold vals
  have : nm s' = nm s := funext (nm_low s s' h)
  rw [this]
theorem vals_rest (ls : List Fld) (s : List UInt8) : vals (rest1 s ls) s = [] := by
  unfold vals rest1
  rw [List.filter_filter]
  have : (ls.filter fun a => nm s a && !nm s a) = [] := by
    rw [List.filter_eq_nil_iff]
    intro x _
    cases nm s x <;> simp
  rw [this]; rfl
theorem rest_comm (ls : List Fld) (a b : List UInt8) : rest1 b (rest1 a ls) = rest1 a (rest1 b ls) := by
  unfold rest1
  rw [List.filter_filter, List.filter_filter]
  congr 1
  funext x
  exact Bool.and_comm _ _
theorem rest_twice (ls : List Fld) (a : List UInt8) : rest1 a (rest1 a ls) = rest1 a ls := by
  unfold rest1
  rw [List.filter_filter]
  congr 1
  funext x
  exact Bool.and_self _
theorem rest_len (ls : List Fld) (a : List UInt8) : (rest1 a ls).length ≤ ls.length := List.length_filter_le _ _
theorem nm_self (s v : List UInt8) : nm s (s, v) = true := by simp [nm]
theorem vals_cons (x : Fld) (r : List Fld) (s : List UInt8) : vals (x :: r) s = if nm s x then x.2 :: vals r s else vals r s := by
  unfold vals
  rw [List.filter_cons]
  split <;> rfl
theorem vals_rest' (ls : List Fld) (s o : List UInt8) (h : lower o ≠ lower s) : vals (rest1 s ls) o = vals ls o := by
  unfold vals rest1
  rw [List.filter_filter]
  congr 2
  funext x
  unfold nm
  cases h1 : (lower x.1 == lower o)
  · rfl
  · have e1 : lower x.1 = lower o := by simpa using h1
    have : (lower x.1 == lower s) = false := by rw [e1]; simpa using h
    rw [this]; rfl
theorem vals_set (s v : List UInt8) (ls : List Fld) : vals (setS s v ls) s = [v] := by
  induction ls with
  | nil =>
    show vals [(s, v)] s = [v]
    rw [vals_cons, nm_self]; rfl
  | cons x r ih =>
    unfold setS
    split
    · rw [vals_cons, nm_self, vals_rest]; rfl
    · rename_i h
      rw [vals_cons, if_neg h, ih]
theorem vals_set_other (s v o : List UInt8) (ls : List Fld) (h : lower o ≠ lower s) : vals (setS s v ls) o = vals ls o := by
  have hn : nm o (s, v) = false := by
    unfold nm
    show (lower s == lower o) = false
    rw [beq_eq_false_iff_ne]
    exact fun e => h e.symm
  induction ls with
  | nil =>
    show vals [(s, v)] o = []
    rw [vals_cons, hn]; rfl
  | cons x r ih =>
    unfold setS
    split
    · rename_i hx
      have e1 : lower x.1 = lower s := by simpa [nm] using hx
      have hxo : nm o x = false := by
        unfold nm
        rw [e1, beq_eq_false_iff_ne]
        exact fun e => h e.symm
      rw [vals_cons, hn, vals_cons, hxo, vals_rest' r s o h]; simp
    · rw [vals_cons, vals_cons, ih]
theorem set_twice (s a b : List UInt8) (ls : List Fld) : setS s b (setS s a ls) = setS s b ls := by
  induction ls with
  | nil =>
    exact setS_hit s b (s, a) [] (nm_self s a)
  | cons x r ih =>
    cases hx : nm s x
    · rw [setS, if_neg (by rw [hx]; simp), setS, if_neg (by rw [hx]; simp), ih, setS, if_neg (by rw [hx]; simp)]
    · rw [setS_hit s a x r hx, setS_hit s b x r hx, setS_hit s b (s, a) _ (nm_self s a), rest_twice]
theorem jn_one (x : List UInt8) : jn [x] = x := by unfold jn; exact Lib.join_one _ _
end Go.Proofs.YteifheoomodplaaDoor
