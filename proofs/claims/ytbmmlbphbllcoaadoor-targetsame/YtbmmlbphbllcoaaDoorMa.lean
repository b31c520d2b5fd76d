/-
  Plain functions on lists of bytes that say what package token and the document's answers compute, with small lemmas on them; no program is named here.
-/
import Derived.WalkKit
import Derived.WalkSpells
import Derived.WalkLawsBesides
import Derived.Lib.IndexAny
import Derived.Lib.UnsafeStr
import Derived.Lib.IndexMore
import Derived.Lib.IndexBytes
import Derived.Lib.SplitLaws
import Derived.Test.YtbmmlbphbllcoaaDoorShelf
import Derived.Test.YtbmmlbphbllcoaaDoorRows
import Derived.Lib.ConvBytes
import Derived.Lib.Hide
import Derived.BigCall
import Derived.BigGuard
import Derived.Lib.Strings
import Derived.Lib.SlTrimSet
namespace Go.Proofs.YtbmmlbphbllcoaaDoor
open Go.RowKit

def isTok (c : UInt8) : Bool :=
  (97 ≤ c && c ≤ 122) || (65 ≤ c && c ≤ 90) || (48 ≤ c && c ≤ 57) || [33, 35, 36, 37, 38, 39, 42, 43, 45, 46, 94, 95, 96, 124, 126].contains c
def token (l : List UInt8) : Bool := !l.isEmpty && l.all isTok
def allIn (f s : List UInt8) : Bool := s.all fun c => f.contains c
def low (c : UInt8) : UInt8 := if 65 ≤ c && c ≤ 90 then c + 32 else c
def lower (l : List UInt8) : List UInt8 := l.map low

theorem byAll (P : UInt8 → Bool) (h : ∀ n : Fin 256, P (UInt8.ofNat n.val) = true) (c : UInt8) : P c = true := by
  have := h ⟨c.toNat, c.toNat_lt⟩
  simpa using this

theorem take_snoc (s : ByteArray) (k : Nat) (h : k < s.size) : s.data.toList.take (k + 1) = s.data.toList.take k ++ [s[k]] := by
  rw [List.take_succ_eq_append_getElem (by simpa using h)]; rfl

theorem size_list (s : ByteArray) : s.data.toList.length = s.size := by rw [Array.length_toList]; rfl

theorem take_all (s : ByteArray) : s.data.toList.take s.size = s.data.toList := by
  rw [List.take_of_length_le]; rw [size_list]; exact Nat.le_refl _

theorem extract_one (s : ByteArray) (k : Nat) (h : k < s.size) : s.extract k (k + 1) = ⟨#[s[k]]⟩ := by
  apply ByteArray.ext
  rw [ByteArray.data_extract]
  apply Array.ext'
  have h' : k < s.data.size := h
  simp [Array.toList_extract, List.extract_eq_take_drop]
  rw [List.drop_eq_getElem_cons (by simpa using h')]
  simp
  rfl

theorem ret_bool {a b : Bool} (h : a = b) : Ending.returned (.bool a) = .returned (.bool b) := by rw [h]
theorem ret_str {a b : ByteArray} (h : a = b) : Ending.returned (.string a) = .returned (.string b) := by rw [h]

theorem mem_at (s : ByteArray) (k : Nat) (h : k < s.size) : s[k] ∈ s.data.toList := by
  have h' : k < s.data.size := h
  exact Array.mem_toList_iff.2 (Array.getElem_mem h')

theorem all_false (s : ByteArray) (p : UInt8 → Bool) (k : Nat) (h : k < s.size) (hp : p s[k] = false) : s.data.toList.all p = false :=
  List.all_eq_false.2 ⟨s[k], mem_at s k h, by simp [hp]⟩

theorem isEmpty_size (s : ByteArray) : s.data.toList.isEmpty = decide (s.size = 0) := by
  rw [← size_list]; cases s.data.toList <;> simp

end Go.Proofs.YtbmmlbphbllcoaaDoor

/-
  Targets in plain lists: what a text tells byte by byte (each with the word whether it was escaped), its steps, and the one form; no program is named here.
-/
namespace Go.Proofs.YtbmmlbphbllcoaaDoor
open Go.RowKit

def freeB (c : UInt8) : Bool := (48 ≤ c && c ≤ 57) || (65 ≤ c && c ≤ 90) || (97 ≤ c && c ≤ 122) || c == 45 || c == 46 || c == 95 || c == 126
def hexv (c : UInt8) : Option Nat := if 48 ≤ c ∧ c ≤ 57 then some (c.toNat - 48) else if 97 ≤ c ∧ c ≤ 102 then some (c.toNat - 87) else if 65 ≤ c ∧ c ≤ 70 then some (c.toNat - 55) else none
def hexU (d : Nat) : UInt8 := if d < 10 then UInt8.ofNat (48 + d) else UInt8.ofNat (55 + d)
abbrev Tk := UInt8 × Bool
def unT : List UInt8 → Option (List Tk)
  | [] => some []
  | [c] => if c = 37 then none else some [(c, false)]
  | [c, d] => if c = 37 then none else if d = 37 then none else some [(c, false), (d, false)]
  | c :: a :: b :: r => if c = 37 then (match hexv a, hexv b with
        | some x, some y => (unT r).map ((UInt8.ofNat (16 * x + y), true) :: ·)
        | _, _ => none) else (unT (a :: b :: r)).map ((c, false) :: ·)
def escB (c : UInt8) : List UInt8 := [37, hexU (c.toNat / 16), hexU (c.toNat % 16)]
def pr1 (t : Tk) : List UInt8 := if t.2 then escB t.1 else [t.1]
def prT (ts : List Tk) : List UInt8 := ts.flatMap pr1
def can (t : Tk) : Tk := (t.1, t.2 && !freeB t.1)
theorem prT_nil : prT [] = [] := rfl
theorem prT_cons (t : Tk) (ts : List Tk) : prT (t :: ts) = pr1 t ++ prT ts := by simp [prT]
theorem prT_app (a b : List Tk) : prT (a ++ b) = prT a ++ prT b := by simp [prT]
theorem unT_nil : unT [] = some [] := rfl
theorem unT_plain (c : UInt8) (r : List UInt8) (h : c ≠ 37) : unT (c :: r) = (unT r).map ((c, false) :: ·) := by
  match r with
  | [] => simp [unT, h]
  | [d] => by_cases hd : d = 37 <;> simp [unT, h, hd]
  | a :: b :: r => rw [unT, if_neg h]
theorem unT_hex (a b : UInt8) (x y : Nat) (r : List UInt8) (ha : hexv a = some x) (hb : hexv b = some y) : unT (37 :: a :: b :: r) = (unT r).map ((UInt8.ofNat (16 * x + y), true) :: ·) := by
  rw [unT]; simp [ha, hb]
theorem unT_bad1 (a b : UInt8) (r : List UInt8) (h : hexv a = none ∨ hexv b = none) : unT (37 :: a :: b :: r) = none := by
  rw [unT, if_pos rfl]
  rcases h with h | h
  · rw [h]
  · rw [h]; cases hexv a <;> rfl
theorem unT_bad2 (r : List UInt8) (h : r.length < 2) : unT (37 :: r) = none := by
  match r, h with
  | [], _ => rfl
  | [a], _ => rfl
/-- By cases of how a text begins. -/
theorem unT_cases (s : List UInt8) : s = [] ∨ (∃ c r, s = c :: r ∧ c ≠ 37 ∧ unT s = (unT r).map ((c, false) :: ·)) ∨ (∃ a b x y r, s = 37 :: a :: b :: r ∧ hexv a = some x ∧ hexv b = some y ∧ unT s = (unT r).map ((UInt8.ofNat (16 * x + y), true) :: ·)) ∨ (unT s = none ∧ ∃ r, s = 37 :: r ∧ (r.length < 2 ∨ ∃ a b r', r = a :: b :: r' ∧ (hexv a = none ∨ hexv b = none))) := by
  match s with
  | [] => exact .inl rfl
  | c :: r =>
    right
    by_cases hc : c = 37
    · subst hc
      right
      match r with
      | [] => exact .inr ⟨unT_bad2 [] (by simp), [], rfl, .inl (by simp)⟩
      | [a] => exact .inr ⟨unT_bad2 [a] (by simp), [a], rfl, .inl (by simp)⟩
      | a :: b :: r =>
        cases ha : hexv a with
        | none => exact .inr ⟨unT_bad1 a b r (.inl ha), _, rfl, .inr ⟨a, b, r, rfl, .inl ha⟩⟩
        | some x =>
          cases hb : hexv b with
          | none => exact .inr ⟨unT_bad1 a b r (.inr hb), _, rfl, .inr ⟨a, b, r, rfl, .inr hb⟩⟩
          | some y => exact .inl ⟨a, b, x, y, r, rfl, ha, hb, unT_hex a b x y r ha hb⟩
    · exact .inl ⟨c, r, rfl, hc, unT_plain c r hc⟩
theorem hexv_lt (c : UInt8) (x : Nat) (h : hexv c = some x) : x < 16 := by
  unfold hexv at h
  have h1 := c.toNat_lt
  split at h
  · rename_i h2; simp only [UInt8.le_iff_toNat_le] at h2; simp at h; have := h2.2; simp at this; omega
  · split at h
    · rename_i h2; simp only [UInt8.le_iff_toNat_le] at h2; simp at h; have := h2.2; simp at this; omega
    · split at h
      · rename_i h2; simp only [UInt8.le_iff_toNat_le] at h2; simp at h; have := h2.2; simp at this; omega
      · cases h
theorem hexv_U (d : Nat) (h : d < 16) : hexv (hexU d) = some d := by
  have : ∀ d : Fin 16, hexv (hexU d.1) = some d.1 := by decide
  exact this ⟨d, h⟩
theorem esc_un (c : UInt8) (r : List UInt8) : unT (escB c ++ r) = (unT r).map ((c, true) :: ·) := by
  have h := c.toNat_lt
  show unT (37 :: hexU (c.toNat / 16) :: hexU (c.toNat % 16) :: r) = _
  rw [unT_hex _ _ (c.toNat / 16) (c.toNat % 16) r (hexv_U _ (by omega)) (hexv_U _ (by omega))]
  have : UInt8.ofNat (16 * (c.toNat / 16) + c.toNat % 16) = c := by
    rw [show 16 * (c.toNat / 16) + c.toNat % 16 = c.toNat by omega]; simp
  rw [this]
/-- Tokens as they may stand in a text: a sign of its own that isn't escaped. -/
def TkOk (ts : List Tk) : Prop := ∀ t ∈ ts, t.2 = false → t.1 ≠ 37
theorem un_pr (ts : List Tk) (r : List UInt8) (h : TkOk ts) : unT (prT ts ++ r) = (unT r).map (ts ++ ·) := by
  induction ts with
  | nil => rw [prT_nil, List.nil_append]; cases unT r <;> rfl
  | cons t ts ih =>
    have ih := ih fun y hy => h y (List.mem_cons_of_mem _ hy)
    rw [prT_cons, List.append_assoc]
    obtain ⟨c, b⟩ := t
    cases b
    · have hc : c ≠ 37 := h (c, false) (List.mem_cons_self ..) rfl
      show unT ([c] ++ _) = _
      rw [List.singleton_append, unT_plain c _ hc, ih]
      cases unT r <;> rfl
    · show unT (escB c ++ _) = _
      rw [esc_un, ih]
      cases unT r <;> rfl
theorem un_ind {P : List UInt8 → List Tk → Prop} (h0 : P [] []) (h1 : ∀ c r ts, c ≠ 37 → unT r = some ts → P r ts → P (c :: r) ((c, false) :: ts))
    (h2 : ∀ a b x y r ts, hexv a = some x → hexv b = some y → unT r = some ts → P r ts → P (37 :: a :: b :: r) ((UInt8.ofNat (16 * x + y), true) :: ts)) : ∀ (n : Nat) (s : List UInt8) (ts : List Tk), s.length ≤ n → unT s = some ts → P s ts := by
  intro n
  induction n with
  | zero =>
    intro s ts hs h
    obtain rfl := List.eq_nil_of_length_eq_zero (Nat.le_zero.1 hs)
    rw [unT_nil] at h
    obtain rfl := Option.some.inj h
    exact h0
  | succ n ih =>
    intro s ts hs h
    rcases unT_cases s with rfl | ⟨c, r, rfl, hc, he⟩ | ⟨a, b, x, y, r, rfl, ha, hb, he⟩ | ⟨he, _⟩
    · rw [unT_nil] at h
      obtain rfl := Option.some.inj h
      exact h0
    · rw [h] at he
      cases hr : unT r with
      | none => rw [hr] at he; cases he
      | some us =>
        rw [hr] at he
        obtain rfl := Option.some.inj he
        exact h1 c r us hc hr (ih r us (by simp at hs; omega) hr)
    · rw [h] at he
      cases hr : unT r with
      | none => rw [hr] at he; cases he
      | some us =>
        rw [hr] at he
        obtain rfl := Option.some.inj he
        exact h2 a b x y r us ha hb hr (ih r us (by simp at hs; omega) hr)
    · rw [h] at he; cases he
theorem un_ok (s : List UInt8) (ts : List Tk) (h : unT s = some ts) : TkOk ts := by
  refine un_ind (P := fun _ ts => TkOk ts) (fun t ht => by cases ht) ?_ ?_ s.length s ts (Nat.le_refl _) h
  · intro c r ts hc _ ih t ht hf
    rcases List.mem_cons.1 ht with rfl | ht
    · exact hc
    · exact ih t ht hf
  · intro a b x y r ts _ _ _ ih t ht hf
    rcases List.mem_cons.1 ht with rfl | ht
    · cases hf
    · exact ih t ht hf
theorem escB_len (c : UInt8) : (escB c).length = 3 := rfl
theorem un_len (s : List UInt8) (ts : List Tk) (h : unT s = some ts) : (prT ts).length = s.length ∧ ts.length ≤ s.length := by
  refine un_ind (P := fun s ts => (prT ts).length = s.length ∧ ts.length ≤ s.length) ⟨rfl, Nat.le_refl _⟩ ?_ ?_ s.length s ts (Nat.le_refl _) h
  · intro c r ts _ _ ih
    rw [prT_cons, List.length_append]
    show 1 + _ = _ ∧ _
    simp only [List.length_cons]; omega
  · intro a b x y r ts _ _ _ ih
    rw [prT_cons, List.length_append]
    show 3 + _ = _ ∧ _
    simp only [List.length_cons]; omega
/-- What stands behind a text that is whole is read on its own. -/
theorem un_app (s r : List UInt8) (ts : List Tk) (h : unT s = some ts) : unT (s ++ r) = (unT r).map (ts ++ ·) := by
  refine un_ind (P := fun s ts => unT (s ++ r) = (unT r).map (ts ++ ·)) (by rw [List.nil_append]; cases unT r <;> rfl) ?_ ?_ s.length s ts (Nat.le_refl _) h
  · intro c s ts hc _ ih
    rw [List.cons_append, unT_plain c _ hc, ih]
    cases unT r <;> rfl
  · intro a b x y s ts ha hb _ ih
    show unT (37 :: a :: b :: (s ++ r)) = _
    rw [unT_hex a b x y _ ha hb, ih]
    cases unT r <;> rfl
/-- A text whose next sign is no digit may be parted ahead of it. -/
theorem un_part (d : UInt8) (hd : hexv d = none) (n : Nat) : ∀ (s r : List UInt8) (us : List Tk), s.length ≤ n → unT (s ++ d :: r) = some us → ∃ ts vs, unT s = some ts ∧ unT (d :: r) = some vs ∧ us = ts ++ vs := by
  induction n with
  | zero =>
    intro s r us hs h
    obtain rfl := List.eq_nil_of_length_eq_zero (Nat.le_zero.1 hs)
    exact ⟨[], us, rfl, h, rfl⟩
  | succ n ih =>
    intro s r us hs h
    rcases unT_cases s with rfl | ⟨c, t, rfl, hc, he⟩ | ⟨a, b, x, y, t, rfl, ha, hb, he⟩ | ⟨he, q, rfl, hq⟩
    · exact ⟨[], us, rfl, h, rfl⟩
    · rw [List.cons_append, unT_plain c _ hc] at h
      cases hr : unT (t ++ d :: r) with
      | none => rw [hr] at h; cases h
      | some ws =>
        rw [hr] at h
        obtain rfl := Option.some.inj h
        obtain ⟨ts, vs, h1, h2, rfl⟩ := ih t r ws (by simp at hs; omega) hr
        exact ⟨(c, false) :: ts, vs, by rw [he, h1]; rfl, h2, rfl⟩
    · have h' : unT (37 :: a :: b :: (t ++ d :: r)) = some us := h
      rw [unT_hex a b x y _ ha hb] at h'
      cases hr : unT (t ++ d :: r) with
      | none => rw [hr] at h'; cases h'
      | some ws =>
        rw [hr] at h'
        obtain rfl := Option.some.inj h'
        obtain ⟨ts, vs, h1, h2, rfl⟩ := ih t r ws (by simp at hs; omega) hr
        exact ⟨_ :: ts, vs, by rw [he, h1]; rfl, h2, rfl⟩
    · exfalso
      rcases hq with hq | ⟨a, b, r', rfl, hab⟩
      · match q, hq with
        | [], _ =>
          match r with
          | [] => rw [show [37] ++ [d] = [37, d] from rfl, unT_bad2 [d] (by simp)] at h; cases h
          | e :: r => rw [show [37] ++ d :: e :: r = 37 :: d :: e :: r from rfl, unT_bad1 d e r (.inl hd)] at h; cases h
        | [a], _ => rw [show [37, a] ++ d :: r = 37 :: a :: d :: r from rfl, unT_bad1 a d r (.inr hd)] at h; cases h
      · have h' : unT (37 :: a :: b :: (r' ++ d :: r)) = some us := h
        rw [unT_bad1 a b _ hab] at h'; cases h'
theorem can_can (t : Tk) : can (can t) = can t := by
  obtain ⟨c, b⟩ := t
  simp [can]
theorem free_not (c : UInt8) (h : freeB c = true) : c ≠ 37 := by rintro rfl; exact absurd h (by decide)
theorem can_ok (ts : List Tk) (h : TkOk ts) : TkOk (ts.map can) := by
  intro t ht hf
  obtain ⟨u, hu, rfl⟩ := List.mem_map.1 ht
  obtain ⟨c, b⟩ := u
  cases b
  · exact h (c, false) hu rfl
  · simp only [can, Bool.true_and, Bool.not_eq_eq_eq_not, Bool.not_false] at hf
    exact free_not c hf
theorem pr_can (ts : List Tk) : (prT (ts.map can)).length ≤ (prT ts).length := by
  induction ts with
  | nil => simp
  | cons t ts ih =>
    rw [List.map_cons, prT_cons, prT_cons, List.length_append, List.length_append]
    have : (pr1 (can t)).length ≤ (pr1 t).length := by
      obtain ⟨c, b⟩ := t
      cases b
      · exact Nat.le_refl _
      · simp only [can, Bool.true_and, pr1]
        cases freeB c <;> simp [escB]
    omega
/-- Escape and Unescape. -/
def escS (s : List UInt8) : List UInt8 := prT (s.map fun c => (c, !freeB c))
def escR (s : List UInt8) : List UInt8 × Int := if 200 < (escS s).length then ([], 2) else (escS s, 0)
def unR (s : List UInt8) : List UInt8 × Int := if 200 < s.length then ([], 2) else match unT s with | none => ([], 3) | some ts => (ts.map (·.1), 0)
theorem escS_un (s : List UInt8) : unT (escS s) = some (s.map fun c => (c, !freeB c)) := by
  have := un_pr (s.map fun c => (c, !freeB c)) [] (by
    intro t ht hf
    obtain ⟨c, _, rfl⟩ := List.mem_map.1 ht
    exact free_not c (by simpa using hf))
  rw [List.append_nil] at this
  rw [escS, this, unT_nil]; simp
theorem esc_back (s : List UInt8) (h : (escR s).2 = 0) : unR (escR s).1 = (s, 0) := by
  unfold escR at h ⊢
  by_cases h2 : 200 < (escS s).length
  · rw [if_pos h2] at h; cases h
  · rw [if_neg h2]
    simp only [unR]
    rw [if_neg h2, escS_un]
    simp only [List.map_map, Prod.mk.injEq, and_true]
    exact List.map_id s
end Go.Proofs.YtbmmlbphbllcoaaDoor

/-
  Targets in plain lists: steps, and the one form; no program is named here.
-/
namespace Go.Proofs.YtbmmlbphbllcoaaDoor
open Go.RowKit

abbrev Step := List Tk
def sl : Tk := (47, false)
def qm : Tk := (63, false)
def dot1 : Step := [(46, false)]
def dot2 : Step := [(46, false), (46, false)]
/-- What stands ahead of the first question mark, and what from there on. -/
def pathT (ts : List Tk) : List Tk := ts.takeWhile (· != qm)
def restT (ts : List Tk) : List Tk := ts.dropWhile (· != qm)
theorem path_rest (ts : List Tk) : pathT ts ++ restT ts = ts := List.takeWhile_append_dropWhile
theorem path_no (ts : List Tk) : ∀ t ∈ pathT ts, t ≠ qm := fun t ht => by
  have := List.all_takeWhile (p := (· != qm)) (l := ts)
  rw [List.all_eq_true] at this
  simpa using this t ht
theorem path_app (a b : List Tk) (h : ∀ t ∈ a, t ≠ qm) : pathT (a ++ b) = a ++ pathT b := by
  unfold pathT
  rw [List.takeWhile_append_of_pos]
  intro t ht
  simpa using h t ht
theorem rest_app (a b : List Tk) (h : ∀ t ∈ a, t ≠ qm) : restT (a ++ b) = restT b := by
  unfold restT
  rw [List.dropWhile_append_of_pos]
  intro t ht
  simpa using h t ht
theorem rest_head (ts : List Tk) : restT ts = [] ∨ ∃ r, restT ts = qm :: r := by
  unfold restT
  induction ts with
  | nil => exact .inl rfl
  | cons t ts ih =>
    by_cases h : t = qm
    · right; subst h; exact ⟨ts, by simp⟩
    · rw [List.dropWhile_cons_of_pos (by simpa using h)]; exact ih
theorem path_of_rest (q : List Tk) (h : q = [] ∨ ∃ r, q = qm :: r) : pathT q = [] ∧ restT q = q := by
  rcases h with rfl | ⟨r, rfl⟩
  · exact ⟨rfl, rfl⟩
  · constructor
    · unfold pathT; rw [List.takeWhile_cons_of_neg (by simp)]
    · unfold restT; rw [List.dropWhile_cons_of_neg (by simp)]
/-- What stands between strokes. -/
def segs : List Tk → List Step
  | [] => [[]]
  | t :: r => if t = sl then [] :: segs r else match segs r with
    | [] => [[t]]
    | x :: xs => (t :: x) :: xs
def joinS (xs : List Step) : List Tk := xs.flatMap fun x => sl :: x
theorem joinS_cons (x : Step) (xs : List Step) : joinS (x :: xs) = sl :: (x ++ joinS xs) := by simp [joinS]
theorem joinS_app (xs ys : List Step) : joinS (xs ++ ys) = joinS xs ++ joinS ys := by simp [joinS]
theorem segs_ne (ts : List Tk) : ∃ x xs, segs ts = x :: xs := by
  match ts with
  | [] => exact ⟨_, _, rfl⟩
  | t :: r =>
    rw [segs]
    split
    · exact ⟨_, _, rfl⟩
    · obtain ⟨x, xs, h⟩ := segs_ne r
      rw [h]; exact ⟨_, _, rfl⟩
theorem segs_sl (r : List Tk) : segs (sl :: r) = [] :: segs r := by rw [segs, if_pos rfl]
theorem segs_other (t : Tk) (r : List Tk) (h : t ≠ sl) (x : Step) (xs : List Step) (hr : segs r = x :: xs) : segs (t :: r) = (t :: x) :: xs := by rw [segs, if_neg h, hr]
/-- Steps in which no stroke stands are told apart by strokes. -/
theorem segs_word (w : Step) (r : List Tk) (h : ∀ t ∈ w, t ≠ sl) : ∃ x xs, segs r = x :: xs ∧ segs (w ++ r) = (w ++ x) :: xs := by
  obtain ⟨x, xs, hr⟩ := segs_ne r
  refine ⟨x, xs, hr, ?_⟩
  induction w with
  | nil => exact hr
  | cons t w ih =>
    rw [List.cons_append]
    exact segs_other t _ (h t (List.mem_cons_self ..)) _ _ (ih fun y hy => h y (List.mem_cons_of_mem _ hy))
def StepsOk (xs : List Step) : Prop := ∀ x ∈ xs, ∀ t ∈ x, t ≠ sl
theorem segs_join (xs : List Step) (h : StepsOk xs) : segs (joinS xs) = [] :: xs := by
  induction xs with
  | nil => rfl
  | cons x xs ih =>
    rw [joinS_cons, segs_sl]
    obtain ⟨y, ys, h1, h2⟩ := segs_word x (joinS xs) (h x (List.mem_cons_self ..))
    rw [ih fun z hz => h z (List.mem_cons_of_mem _ hz)] at h1
    obtain ⟨rfl, rfl⟩ := List.cons.inj h1
    rw [h2, List.append_nil]
theorem segs_ok (ts : List Tk) : StepsOk (segs ts) := by
  induction ts with
  | nil => intro x hx; simp [segs] at hx; subst hx; intro t ht; cases ht
  | cons t r ih =>
    intro x hx
    rw [segs] at hx
    split at hx
    · rcases List.mem_cons.1 hx with rfl | hx
      · intro u hu; cases hu
      · exact ih x hx
    · rename_i hne
      obtain ⟨y, ys, h⟩ := segs_ne r
      rw [h] at hx ih
      rcases List.mem_cons.1 hx with rfl | hx
      · intro u hu
        rcases List.mem_cons.1 hu with rfl | hu
        · exact hne
        · exact ih y (List.mem_cons_self ..) u hu
      · exact ih x (List.mem_cons_of_mem _ hx)
theorem segs_mem (ts : List Tk) : ∀ x ∈ segs ts, ∀ t ∈ x, t ∈ ts := by
  induction ts with
  | nil => intro x hx; simp [segs] at hx; subst hx; intro t ht; cases ht
  | cons t r ih =>
    intro x hx
    rw [segs] at hx
    split at hx
    · rcases List.mem_cons.1 hx with rfl | hx
      · intro u hu; cases hu
      · intro u hu; exact List.mem_cons_of_mem _ (ih x hx u hu)
    · obtain ⟨y, ys, h⟩ := segs_ne r
      rw [h] at hx ih
      rcases List.mem_cons.1 hx with rfl | hx
      · intro u hu
        rcases List.mem_cons.1 hu with rfl | hu
        · exact List.mem_cons_self ..
        · exact List.mem_cons_of_mem _ (ih y (List.mem_cons_self ..) u hu)
      · intro u hu; exact List.mem_cons_of_mem _ (ih x (List.mem_cons_of_mem _ hx) u hu)
theorem segs_app (a : List Tk) (b : List Tk) : segs (a ++ sl :: b) = segs a ++ segs b := by
  induction a with
  | nil => rw [List.nil_append, segs_sl]; rfl
  | cons t a ih =>
    rw [List.cons_append, segs, segs]
    by_cases h : t = sl
    · rw [if_pos h, if_pos h, ih]; rfl
    · rw [if_neg h, if_neg h, ih]
      obtain ⟨x, xs, hx⟩ := segs_ne a
      rw [hx]; rfl
/-- The steps but those that are dots; st: those that stand already. -/
def remS (st : List Step) : List Step → List Step
  | [] => st
  | [x] => if x = dot1 then st ++ [[]] else if x = dot2 then st.dropLast ++ [[]] else st ++ [x]
  | x :: y :: r => if x = dot1 then remS st (y :: r) else if x = dot2 then remS st.dropLast (y :: r) else remS (st ++ [x]) (y :: r)
theorem remS_last (st : List Step) (x : Step) : remS st [x] = if x = dot1 then st ++ [[]] else if x = dot2 then st.dropLast ++ [[]] else st ++ [x] := by rw [remS]
theorem remS_more (st : List Step) (x : Step) (r : List Step) (h : r ≠ []) : remS st (x :: r) = if x = dot1 then remS st r else if x = dot2 then remS st.dropLast r else remS (st ++ [x]) r := by
  match r, h with
  | y :: r, _ => rw [remS]
def NoDots (xs : List Step) : Prop := ∀ x ∈ xs, x ≠ dot1 ∧ x ≠ dot2
theorem remS_id (xs : List Step) : ∀ st, NoDots xs → remS st xs = st ++ xs := by
  induction xs with
  | nil => intro st _; rw [remS, List.append_nil]
  | cons x xs ih =>
    intro st h
    obtain ⟨h1, h2⟩ := h x (List.mem_cons_self ..)
    by_cases hx : xs = []
    · subst hx; rw [remS_last, if_neg h1, if_neg h2]
    · rw [remS_more _ _ _ hx, if_neg h1, if_neg h2, ih _ fun y hy => h y (List.mem_cons_of_mem _ hy), List.append_assoc]; rfl
theorem nodots_nil : ([] : Step) ≠ dot1 ∧ ([] : Step) ≠ dot2 := ⟨by simp [dot1], by simp [dot2]⟩
/-- What holds of the empty step, and of each step, holds of those that are left. -/
theorem remS_all {P : Step → Prop} (hP : P []) (xs : List Step) : ∀ st, (∀ x ∈ st, P x) → (∀ x ∈ xs, x ≠ dot1 → x ≠ dot2 → P x) → ∀ x ∈ remS st xs, P x := by
  induction xs with
  | nil => intro st h _; rw [remS]; exact h
  | cons y xs ih =>
    intro st h hx
    have hdl : ∀ x ∈ st.dropLast, P x := fun x hx => h x (List.dropLast_subset _ hx)
    have hap : ∀ (ss : List Step) z, (∀ x ∈ ss, P x) → P z → ∀ x ∈ ss ++ [z], P x := by
      intro ss z h1 h2 x hx
      rcases List.mem_append.1 hx with hx | hx
      · exact h1 x hx
      · obtain rfl := List.mem_singleton.1 hx; exact h2
    have hx' : ∀ x ∈ xs, x ≠ dot1 → x ≠ dot2 → P x := fun x h => hx x (List.mem_cons_of_mem _ h)
    by_cases hxs : xs = []
    · subst hxs
      rw [remS_last]
      split
      · exact hap _ _ h hP
      · split
        · exact hap _ _ hdl hP
        · exact hap _ _ h (hx y (List.mem_cons_self ..) ‹_› ‹_›)
    · rw [remS_more _ _ _ hxs]
      split
      · exact ih _ h hx'
      · split
        · exact ih _ hdl hx'
        · exact ih _ (hap _ _ h (hx y (List.mem_cons_self ..) ‹_› ‹_›)) hx'
theorem remS_ne (xs : List Step) : ∀ st, xs ≠ [] → remS st xs ≠ [] := by
  induction xs with
  | nil => intro st h; exact absurd rfl h
  | cons y xs ih =>
    intro st _
    by_cases hxs : xs = []
    · subst hxs
      rw [remS_last]
      split
      · simp
      · split <;> simp
    · rw [remS_more _ _ _ hxs]
      split
      · exact ih _ hxs
      · split
        · exact ih _ hxs
        · exact ih _ hxs
/-- A measure of steps that dots don't raise. -/
theorem remS_sum (f : Step → Nat) (hf : ∀ x, f [] ≤ f x) (xs : List Step) : ∀ st, ((remS st xs).map f).sum ≤ (st.map f).sum + (xs.map f).sum := by
  have hdl : ∀ st : List Step, (st.dropLast.map f).sum ≤ (st.map f).sum := by
    intro st
    rcases List.eq_nil_or_concat st with rfl | ⟨st, z, rfl⟩
    · simp
    · simp
  induction xs with
  | nil => intro st; rw [remS]; simp
  | cons y xs ih =>
    intro st
    rw [List.map_cons, List.sum_cons]
    have h0 := hf y
    have h1 := hdl st
    by_cases hxs : xs = []
    · subst hxs
      rw [remS_last]
      split
      · simp; omega
      · split
        · simp only [List.map_append, List.sum_append, List.map_cons, List.map_nil, List.sum_cons, List.sum_nil]; omega
        · simp
    · rw [remS_more _ _ _ hxs]
      split
      · have := ih st; omega
      · split
        · have := ih st.dropLast; omega
        · have := ih (st ++ [y])
          simp only [List.map_append, List.sum_append, List.map_cons, List.map_nil, List.sum_cons, List.sum_nil] at this
          omega
/-- Steps that have steps behind them. -/
def runS (st : List Step) : List Step → List Step
  | [] => st
  | x :: r => if x = dot1 then runS st r else if x = dot2 then runS st.dropLast r else runS (st ++ [x]) r
theorem remS_run (xs ys : List Step) (h : ys ≠ []) : ∀ st, remS st (xs ++ ys) = remS (runS st xs) ys := by
  induction xs with
  | nil => intro st; rfl
  | cons x xs ih =>
    intro st
    rw [List.cons_append, remS_more _ _ _ (by simp [h]), runS]
    split
    · exact ih _
    · split
      · exact ih _
      · exact ih _
theorem runS_app (xs ys : List Step) : ∀ st, runS st (xs ++ ys) = runS (runS st xs) ys := by
  induction xs with
  | nil => intro st; rfl
  | cons x xs ih =>
    intro st
    rw [List.cons_append, runS, runS]
    split
    · exact ih _
    · split
      · exact ih _
      · exact ih _
/-- The one form of tokens that begin with a stroke. -/
def remT (ts : List Tk) : List Tk := joinS (remS [] (segs (pathT ts)).tail) ++ restT ts
def vis (c : UInt8) : Bool := decide (33 ≤ c) && decide (c ≤ 126) && !(c == 35)
def nrmR (s : List UInt8) : List UInt8 × Int :=
  if 200 < s.length then ([], 2) else if s.head? = some 47 ∧ s.all vis = true then match unT s with
    | none => ([], 3)
    | some ts => (prT (remT (ts.map can)), 0)
  else ([], 3)
end Go.Proofs.YtbmmlbphbllcoaaDoor

/-
  The one form of a target: it stays; what is in it; what is of no matter for it; no program is named here.
-/
namespace Go.Proofs.YtbmmlbphbllcoaaDoor
open Go.RowKit

theorem nrm_cases (s : List UInt8) : (∃ c, c ≠ 0 ∧ nrmR s = ([], c)) ∨ ∃ r ts, s = 47 :: r ∧ s.length ≤ 200 ∧ (∀ c ∈ s, vis c = true) ∧ unT s = some (sl :: ts) ∧ nrmR s = (prT (remT ((sl :: ts).map can)), 0) := by
  unfold nrmR
  by_cases h1 : 200 < s.length
  · left; rw [if_pos h1]; exact ⟨2, by decide, rfl⟩
  · rw [if_neg h1]
    by_cases h2 : s.head? = some 47 ∧ s.all vis = true
    · rw [if_pos h2]
      cases hu : unT s with
      | none => left; exact ⟨3, by decide, rfl⟩
      | some us =>
        right
        obtain ⟨h3, h4⟩ := h2
        match s, h3 with
        | c :: r, h3 =>
          obtain rfl := Option.some.inj h3
          rw [unT_plain 47 r (by decide)] at hu
          cases hr : unT r with
          | none => rw [hr] at hu; cases hu
          | some ts =>
            rw [hr] at hu
            obtain rfl := Option.some.inj hu
            exact ⟨r, ts, rfl, by omega, List.all_eq_true.1 h4, rfl, rfl⟩
    · rw [if_neg h2]; left; exact ⟨3, by decide, rfl⟩
theorem nrm_ok (s : List UInt8) (ts : List Tk) (h : unT s = some ts) (h1 : s.length ≤ 200) (h2 : s.head? = some 47) (h3 : ∀ c ∈ s, vis c = true) : nrmR s = (prT (remT (ts.map can)), 0) := by
  unfold nrmR
  rw [if_neg (by omega), if_pos ⟨h2, List.all_eq_true.2 h3⟩, h]
/-- All that stands in tokens that came out of a text that may be seen may be seen. -/
def TkVis (ts : List Tk) : Prop := ∀ t ∈ ts, t.2 = false → vis t.1 = true
theorem un_vis (s : List UInt8) (ts : List Tk) (h : unT s = some ts) (hv : ∀ c ∈ s, vis c = true) : TkVis ts := by
  have : (∀ c ∈ s, vis c = true) → TkVis ts := by
    refine un_ind (P := fun s ts => (∀ c ∈ s, vis c = true) → TkVis ts) (fun _ t ht => by cases ht) ?_ ?_ s.length s ts (Nat.le_refl _) h
    · intro c r ts _ _ ih hv t ht hf
      rcases List.mem_cons.1 ht with rfl | ht
      · exact hv _ (List.mem_cons_self ..)
      · exact ih (fun c hc => hv c (List.mem_cons_of_mem _ hc)) t ht hf
    · intro a b x y r ts _ _ _ ih hv t ht hf
      rcases List.mem_cons.1 ht with rfl | ht
      · cases hf
      · exact ih (fun c hc => hv c (List.mem_cons_of_mem _ (List.mem_cons_of_mem _ (List.mem_cons_of_mem _ hc)))) t ht hf
  exact this hv
theorem free_vis (c : UInt8) (h : freeB c = true) : vis c = true := by
  have : ∀ n : Fin 256, freeB (UInt8.ofNat n.1) = true → vis (UInt8.ofNat n.1) = true := by decide +kernel
  have h2 := this ⟨c.toNat, c.toNat_lt⟩
  simp only [UInt8.ofNat_toNat] at h2
  exact h2 h
theorem can_vis (ts : List Tk) (h : TkVis ts) : TkVis (ts.map can) := by
  intro t ht hf
  obtain ⟨u, hu, rfl⟩ := List.mem_map.1 ht
  obtain ⟨c, b⟩ := u
  cases b
  · exact h (c, false) hu rfl
  · simp only [can, Bool.true_and, Bool.not_eq_eq_eq_not, Bool.not_false] at hf
    exact free_vis c hf
theorem hexU_vis (d : Nat) (h : d < 16) : vis (hexU d) = true := by
  have : ∀ d : Fin 16, vis (hexU d.1) = true := by decide
  exact this ⟨d, h⟩
theorem pr_vis (ts : List Tk) (h : TkVis ts) : ∀ c ∈ prT ts, vis c = true := by
  intro c hc
  obtain ⟨t, ht, hct⟩ := List.mem_flatMap.1 hc
  obtain ⟨d, b⟩ := t
  cases b
  · simp only [pr1, Bool.false_eq_true, if_false, List.mem_singleton] at hct
    subst hct
    exact h _ ht rfl
  · simp only [pr1, if_true, escB, List.mem_cons, List.not_mem_nil, or_false] at hct
    have := d.toNat_lt
    rcases hct with rfl | rfl | rfl
    · rfl
    · exact hexU_vis _ (by omega)
    · exact hexU_vis _ (by omega)
/-- What is left of tokens is of these, but for strokes. -/
theorem remT_mem (ts : List Tk) : ∀ t ∈ remT ts, t = sl ∨ t ∈ ts := by
  intro t ht
  unfold remT at ht
  rcases List.mem_append.1 ht with ht | ht
  · obtain ⟨x, hx, hxt⟩ := List.mem_flatMap.1 ht
    rcases List.mem_cons.1 hxt with rfl | hxt
    · exact .inl rfl
    · right
      have := remS_all (P := fun x => ∀ t ∈ x, t ∈ pathT ts) (fun t ht => by cases ht) (segs (pathT ts)).tail [] (fun x hx => by cases hx) (fun x hx _ _ => segs_mem _ x (List.mem_of_mem_tail hx)) x hx t hxt
      exact List.takeWhile_subset _ this
  · exact .inr (List.dropWhile_subset _ ht)
theorem joinS_pr (xs : List Step) : (prT (joinS xs)).length = (xs.map fun x => 1 + (prT x).length).sum := by
  induction xs with
  | nil => rfl
  | cons x xs ih =>
    rw [joinS_cons, prT_cons, prT_app, List.length_append, List.length_append, ih, List.map_cons, List.sum_cons]
    show 1 + _ = _
    omega
theorem joinS_len (xs : List Step) : (joinS xs).length = (xs.map fun x => 1 + x.length).sum := by
  induction xs with
  | nil => rfl
  | cons x xs ih => rw [joinS_cons, List.length_cons, List.length_append, ih, List.map_cons, List.sum_cons]; omega
/-- Tokens that begin with a stroke are their steps. -/
theorem segs_of (ts : List Tk) : (segs ts).head?.getD [] ++ joinS (segs ts).tail = ts := by
  induction ts with
  | nil => rfl
  | cons t r ih =>
    obtain ⟨x, xs, hx⟩ := segs_ne r
    rw [hx] at ih
    by_cases h : t = sl
    · subst h
      rw [segs_sl, hx]
      show [] ++ joinS (x :: xs) = _
      rw [joinS_cons]
      rw [show x ++ joinS xs = r from ih]; rfl
    · rw [segs_other t r h x xs hx]
      show (t :: x) ++ joinS xs = _
      rw [List.cons_append, show x ++ joinS xs = r from ih]
theorem segs_sl_join (ts : List Tk) : joinS (segs (sl :: ts)).tail = sl :: ts := by
  have := segs_of (sl :: ts)
  rw [segs_sl] at this ⊢
  exact this
theorem path_sl (ts : List Tk) : pathT (sl :: ts) = sl :: pathT ts := by
  unfold pathT
  rw [List.takeWhile_cons_of_pos (by decide)]
theorem rest_sl (ts : List Tk) : restT (sl :: ts) = restT ts := by
  unfold restT
  rw [List.dropWhile_cons_of_pos (by decide)]
theorem tail_ne (ts : List Tk) : (segs (pathT (sl :: ts))).tail ≠ [] := by
  rw [path_sl, segs_sl]
  obtain ⟨x, xs, h⟩ := segs_ne (pathT ts)
  rw [h]; simp
theorem remT_len (ts : List Tk) : (prT (remT (sl :: ts))).length ≤ (prT (sl :: ts)).length ∧ (remT (sl :: ts)).length ≤ (sl :: ts).length := by
  have hp : joinS (segs (pathT (sl :: ts))).tail = pathT (sl :: ts) := by rw [path_sl, segs_sl_join]
  have h1 := remS_sum (fun x => 1 + (prT x).length) (fun x => by simp [prT]) (segs (pathT (sl :: ts))).tail []
  have h2 := remS_sum (fun x => 1 + x.length) (fun x => by simp) (segs (pathT (sl :: ts))).tail []
  rw [← joinS_pr, ← joinS_pr (segs (pathT (sl :: ts))).tail, hp] at h1
  rw [← joinS_len, ← joinS_len (segs (pathT (sl :: ts))).tail, hp] at h2
  have e1 := congrArg (fun l => (prT l).length) (path_rest (sl :: ts))
  have e2 := congrArg List.length (path_rest (sl :: ts))
  simp only [prT_app, List.length_append] at e1 e2
  unfold remT
  rw [prT_app, List.length_append, List.length_append]
  simp only [List.map_nil, List.sum_nil] at h1 h2
  omega
/-- The steps that are left. -/
def leftS (ts : List Tk) : List Step := remS [] (segs (pathT ts)).tail
theorem left_ok (ts : List Tk) : StepsOk (leftS ts) ∧ NoDots (leftS ts) ∧ ∀ x ∈ leftS ts, ∀ t ∈ x, t ≠ qm := by
  refine ⟨?_, ?_, ?_⟩
  · exact remS_all (P := fun x => ∀ t ∈ x, t ≠ sl) (fun t ht => by cases ht) _ [] (fun x hx => by cases hx) (fun x hx _ _ => segs_ok _ x (List.mem_of_mem_tail hx))
  · exact remS_all (P := fun x => x ≠ dot1 ∧ x ≠ dot2) nodots_nil _ [] (fun x hx => by cases hx) (fun x _ h1 h2 => ⟨h1, h2⟩)
  · exact remS_all (P := fun x => ∀ t ∈ x, t ≠ qm) (fun t ht => by cases ht) _ [] (fun x hx => by cases hx) (fun x hx _ _ t ht => path_no ts t (segs_mem _ x (List.mem_of_mem_tail hx) t ht))
theorem remT_eq (ts : List Tk) : remT ts = joinS (leftS ts) ++ restT ts := rfl
theorem joinS_no (xs : List Step) (h : ∀ x ∈ xs, ∀ t ∈ x, t ≠ qm) : ∀ t ∈ joinS xs, t ≠ qm := by
  intro t ht
  obtain ⟨x, hx, hxt⟩ := List.mem_flatMap.1 ht
  rcases List.mem_cons.1 hxt with rfl | hxt
  · decide
  · exact h x hx t hxt
theorem remT_path (ts : List Tk) : pathT (remT ts) = joinS (leftS ts) ∧ restT (remT ts) = restT ts := by
  obtain ⟨_, _, h3⟩ := left_ok ts
  have h4 := path_of_rest (restT ts) (rest_head ts)
  rw [remT_eq, path_app _ _ (joinS_no _ h3), rest_app _ _ (joinS_no _ h3), h4.1, h4.2, List.append_nil]
  exact ⟨rfl, rfl⟩
theorem remT_twice (ts : List Tk) : remT (remT ts) = remT ts := by
  obtain ⟨h1, h2, _⟩ := left_ok ts
  obtain ⟨e1, e2⟩ := remT_path ts
  have : leftS (remT ts) = leftS ts := by
    unfold leftS
    rw [e1, segs_join _ h1]
    show remS [] (leftS ts) = _
    rw [remS_id _ _ h2]; rfl
  rw [remT_eq (remT ts), this, e2, ← remT_eq]
theorem remT_can (ts : List Tk) (h : ∀ t ∈ ts, can t = t) : (remT ts).map can = remT ts := by
  have : ∀ t ∈ remT ts, can t = t := by
    intro t ht
    rcases remT_mem ts t ht with rfl | ht
    · rfl
    · exact h t ht
  conv => rhs; rw [← List.map_id (remT ts)]
  exact List.map_congr_left fun t ht => this t ht
theorem remT_sl (ts : List Tk) : ∃ us, remT (sl :: ts) = sl :: us := by
  have h := remS_ne (segs (pathT (sl :: ts))).tail [] (tail_ne ts)
  rw [remT_eq]
  unfold leftS
  match hx : remS [] (segs (pathT (sl :: ts))).tail, h with
  | x :: xs, _ => exact ⟨x ++ joinS xs ++ restT (sl :: ts), by rw [joinS_cons]; simp⟩
theorem un_remT (ts : List Tk) (h : TkOk ts) : unT (prT (remT ts)) = some (remT ts) := by
  have := un_pr (remT ts) [] (by
    intro t ht hf
    rcases remT_mem ts t ht with rfl | ht
    · decide
    · exact h t ht hf)
  rw [List.append_nil] at this
  rw [this, unT_nil]; simp
theorem nrm_once (s t : List UInt8) (h : nrmR s = (t, 0)) : nrmR t = (t, 0) ∧ t.head? = some 47 ∧ t.length ≤ s.length := by
  rcases nrm_cases s with ⟨c, hc, he⟩ | ⟨r, ts, hs, hl, hv, hu, he⟩
  · rw [h] at he; exact absurd (Prod.mk.inj he).2.symm hc
  · rw [h] at he
    obtain ⟨rfl, _⟩ := Prod.mk.inj he
    have hok := can_ok _ (un_ok s _ hu)
    have hvi := can_vis _ (un_vis s _ hu hv)
    have hcan : ∀ t ∈ (sl :: ts).map can, can t = t := by
      intro t ht
      obtain ⟨u, _, rfl⟩ := List.mem_map.1 ht
      exact can_can u
    have e1 : (sl :: ts).map can = sl :: ts.map can := rfl
    have hlen := (remT_len (ts.map can)).1
    rw [← e1] at hlen
    have hlen2 := pr_can (sl :: ts)
    have hlen3 := (un_len s _ hu).1
    obtain ⟨us, hus⟩ := remT_sl (ts.map can)
    rw [← e1] at hus
    have hhead : (prT (remT ((sl :: ts).map can))).head? = some 47 := by rw [hus, prT_cons]; rfl
    refine ⟨?_, hhead, by omega⟩
    rw [nrm_ok _ _ (un_remT _ hok) (by omega) hhead, remT_can _ hcan, remT_twice]
    refine pr_vis _ ?_
    intro t ht hf
    rcases remT_mem _ t ht with rfl | ht
    · rfl
    · exact hvi t ht hf
theorem nrm_bad (s t : List UInt8) (c : Int) (h : nrmR s = (t, c)) (hc : c ≠ 0) : t = [] := by
  rcases nrm_cases s with ⟨c', _, he⟩ | ⟨r, ts, _, _, _, _, he⟩
  · rw [h] at he; exact (Prod.mk.inj he).1
  · rw [h] at he; exact absurd (Prod.mk.inj he).2 hc
end Go.Proofs.YtbmmlbphbllcoaaDoor

/-
  The one form of a target: what is of no matter for it; its bytes; no program is named here.
-/
namespace Go.Proofs.YtbmmlbphbllcoaaDoor
open Go.RowKit

theorem un_mem (s : List UInt8) (ts : List Tk) (h : unT s = some ts) : ∀ t ∈ ts, t.2 = false → t.1 ∈ s := by
  refine un_ind (P := fun s ts => ∀ t ∈ ts, t.2 = false → t.1 ∈ s) (fun t ht => by cases ht) ?_ ?_ s.length s ts (Nat.le_refl _) h
  · intro c r ts _ _ ih t ht hf
    rcases List.mem_cons.1 ht with rfl | ht
    · exact List.mem_cons_self ..
    · exact List.mem_cons_of_mem _ (ih t ht hf)
  · intro a b x y r ts _ _ _ ih t ht hf
    rcases List.mem_cons.1 ht with rfl | ht
    · cases hf
    · exact List.mem_cons_of_mem _ (List.mem_cons_of_mem _ (List.mem_cons_of_mem _ (ih t ht hf)))
theorem can_qm (t : Tk) (h : can t = qm) : t = qm := by
  obtain ⟨c, b⟩ := t
  simp only [can, qm, Prod.mk.injEq] at h ⊢
  obtain ⟨rfl, h⟩ := h
  refine ⟨rfl, ?_⟩
  cases b
  · rfl
  · exact absurd h (by decide)
theorem map_no_qm (ts : List Tk) (h : ∀ t ∈ ts, t ≠ qm) : ∀ t ∈ ts.map can, t ≠ qm := by
  intro t ht he
  obtain ⟨u, hu, rfl⟩ := List.mem_map.1 ht
  exact h u hu (can_qm u he)
/-- Steps in the middle that leave all as it was. -/
theorem remT_mid (A B M : List Tk) (hA : ∀ t ∈ A, t ≠ qm) (hM : ∀ t ∈ M, t ≠ qm) (ms : List Step) (hms : ∀ r, segs (M ++ sl :: r) = [] :: (ms ++ segs r)) (hrun : ∀ st, runS st ms = st) :
    remT (sl :: A ++ M ++ sl :: B) = remT (sl :: A ++ sl :: B) ∨ M.head? ≠ some sl := by
  by_cases hm : M.head? = some sl
  · left
    match M, hm with
    | m :: M, hm =>
      obtain rfl := Option.some.inj hm
      have hM' : ∀ t ∈ M, t ≠ qm := fun t ht => hM t (List.mem_cons_of_mem _ ht)
      have h1 : ∀ t ∈ sl :: A, t ≠ qm := by
        intro t ht
        rcases List.mem_cons.1 ht with rfl | ht
        · decide
        · exact hA t ht
      have h2 : ∀ t ∈ sl :: A ++ sl :: M, t ≠ qm := by
        intro t ht
        rcases List.mem_append.1 ht with ht | ht
        · exact h1 t ht
        · rcases List.mem_cons.1 ht with rfl | ht
          · decide
          · exact hM' t ht
      have e1 : remT (sl :: A ++ sl :: B) = joinS (remS (runS [] (segs A)) (segs (pathT B))) ++ restT (sl :: B) := by
        unfold remT
        rw [path_app _ _ h1, rest_app _ _ h1, path_sl, List.cons_append, segs_sl, List.tail_cons, segs_app]
        obtain ⟨x, xs, hx⟩ := segs_ne (pathT B)
        rw [remS_run _ _ (by rw [hx]; simp)]
      have e2 : remT (sl :: A ++ sl :: M ++ sl :: B) = joinS (remS (runS (runS [] (segs A)) ms) (segs (pathT B))) ++ restT (sl :: B) := by
        unfold remT
        rw [path_app _ _ h2, rest_app _ _ h2, path_sl]
        have e3 : segs (sl :: A ++ sl :: M ++ sl :: pathT B) = [] :: (segs A ++ (ms ++ segs (pathT B))) := by
          rw [List.append_assoc, List.cons_append, segs_sl, List.cons_append, segs_app]
          have := hms (pathT B)
          rw [List.cons_append, segs_sl] at this
          rw [(List.cons.inj this).2]
        rw [e3, List.tail_cons, ← List.append_assoc]
        obtain ⟨x, xs, hx⟩ := segs_ne (pathT B)
        rw [remS_run _ _ (by rw [hx]; simp), runS_app]
      rw [e1, e2, hrun]
  · exact .inr hm
theorem nrm_parts (a0 b0 : List UInt8) (h : (nrmR (47 :: a0 ++ 47 :: b0)).2 = 0) (hq : ∀ c ∈ 47 :: a0, c ≠ 63) : ∃ A B, unT (47 :: a0) = some (sl :: A) ∧ unT (47 :: b0) = some (sl :: B) ∧ (∀ t ∈ A, t ≠ qm) ∧ (∀ c ∈ 47 :: a0, vis c = true) ∧ (∀ c ∈ 47 :: b0, vis c = true) ∧
    nrmR (47 :: a0 ++ 47 :: b0) = (prT (remT ((sl :: A ++ sl :: B).map can)), 0) := by
  rcases nrm_cases (47 :: a0 ++ 47 :: b0) with ⟨c, hc, he⟩ | ⟨r, ts, hs, hl, hv, hu, he⟩
  · rw [he] at h; exact absurd h hc
  · obtain ⟨us, vs, h1, h2, h3⟩ := un_part 47 (by decide) _ (47 :: a0) b0 _ (Nat.le_refl _) hu
    have h1' := h1
    have h2' := h2
    rw [unT_plain 47 _ (by decide)] at h1 h2
    cases hA : unT a0 with
    | none => rw [hA] at h1; cases h1
    | some A =>
      cases hB : unT b0 with
      | none => rw [hB] at h2; cases h2
      | some B =>
        rw [hA] at h1; rw [hB] at h2
        obtain rfl := Option.some.inj h1
        obtain rfl := Option.some.inj h2
        refine ⟨A, B, h1', h2', ?_, fun c hc => hv c (List.mem_append_left _ hc), fun c hc => hv c (List.mem_append_right _ hc), ?_⟩
        · intro t ht he
          subst he
          exact hq 63 (List.mem_cons_of_mem _ (un_mem a0 A hA qm ht rfl)) rfl
        · rw [he, h3]; rfl
theorem nrm_mid (a0 b0 m : List UInt8) (M : List Tk) (hm : m = 47 :: m.tail) (hv : ∀ c ∈ m, vis c = true) (hu : unT m = some M) (hM : ∀ t ∈ M, can t ≠ qm) (ms : List Step) (hms : ∀ r, segs (M.map can ++ sl :: r) = [] :: (ms ++ segs r)) (hrun : ∀ st, runS st ms = st)
    (h : (nrmR (47 :: a0 ++ 47 :: b0)).2 = 0) (hq : ∀ c ∈ 47 :: a0, c ≠ 63) (hl : (47 :: a0 ++ 47 :: b0).length + m.length ≤ 200) : nrmR (47 :: a0 ++ m ++ 47 :: b0) = nrmR (47 :: a0 ++ 47 :: b0) := by
  obtain ⟨A, B, h1, h2, h3, h4, h5, h6⟩ := nrm_parts a0 b0 h hq
  have hun : unT (47 :: a0 ++ m ++ 47 :: b0) = some (sl :: A ++ M ++ sl :: B) := by
    rw [List.append_assoc, un_app _ _ _ h1, un_app _ _ _ hu, h2]; simp
  have e : remT ((sl :: A ++ M ++ sl :: B).map can) = remT ((sl :: A ++ sl :: B).map can) := by
    have e1 : (sl :: A ++ M ++ sl :: B).map can = sl :: A.map can ++ M.map can ++ sl :: B.map can := by simp [can, sl]
    have e2 : (sl :: A ++ sl :: B).map can = sl :: A.map can ++ sl :: B.map can := by simp [can, sl]
    rw [e1, e2]
    rcases remT_mid (A.map can) (B.map can) (M.map can) (map_no_qm A h3) (by intro t ht; obtain ⟨u, hu, rfl⟩ := List.mem_map.1 ht; exact hM u hu) ms hms hrun with h | h
    · exact h
    · exfalso
      apply h
      rw [hm, unT_plain 47 _ (by decide)] at hu
      cases hr : unT m.tail with
      | none => rw [hr] at hu; cases hu
      | some us => rw [hr] at hu; obtain rfl := Option.some.inj hu; rfl
  rw [nrm_ok _ _ hun ?_ rfl ?_, e, h6]
  · simp only [List.length_append] at hl ⊢; omega
  · intro c hc
    rcases List.mem_append.1 hc with hc | hc
    · rcases List.mem_append.1 hc with hc | hc
      · exact h4 c hc
      · exact hv c hc
    · exact h5 c hc
/-- A step that goes back. -/
theorem nrm_back (a0 b0 : List UInt8) (h : (nrmR (47 :: a0 ++ 47 :: b0)).2 = 0) (hq : ∀ c ∈ 47 :: a0, c ≠ 63) (hl : (47 :: a0 ++ 47 :: b0).length ≤ 180) : nrmR (47 :: a0 ++ [47, 120, 47, 46, 46] ++ 47 :: b0) = nrmR (47 :: a0 ++ 47 :: b0) :=
  nrm_mid a0 b0 [47, 120, 47, 46, 46] [sl, (120, false), sl, (46, false), (46, false)] rfl (by decide) (by decide) (by decide) [[(120, false)], dot2] (fun r => by
    show segs (sl :: (120, false) :: sl :: (46, false) :: (46, false) :: sl :: r) = _
    obtain ⟨x, xs, hx⟩ := segs_ne r
    rw [segs_sl, segs_other (120, false) _ (by decide) [] (dot2 :: x :: xs) ?_, hx]
    · rfl
    · rw [segs_sl, segs_other (46, false) _ (by decide) [(46, false)] (x :: xs) ?_]
      · rfl
      · rw [segs_other (46, false) _ (by decide) [] (x :: xs) ?_]
        rw [segs_sl, hx]) (fun st => by simp [runS, dot1, dot2]) h hq (by simp only [List.length_append, List.length_cons] at hl ⊢; simp only [List.length_nil]; omega)
/-- A step that stays. -/
theorem nrm_stay (a0 b0 : List UInt8) (h : (nrmR (47 :: a0 ++ 47 :: b0)).2 = 0) (hq : ∀ c ∈ 47 :: a0, c ≠ 63) (hl : (47 :: a0 ++ 47 :: b0).length ≤ 180) : nrmR (47 :: a0 ++ [47, 46] ++ 47 :: b0) = nrmR (47 :: a0 ++ 47 :: b0) :=
  nrm_mid a0 b0 [47, 46] [sl, (46, false)] rfl (by decide) (by decide) (by decide) [dot1] (fun r => by
    show segs (sl :: (46, false) :: sl :: r) = _
    obtain ⟨x, xs, hx⟩ := segs_ne r
    rw [segs_sl, segs_other (46, false) _ (by decide) [] (x :: xs) ?_, hx]
    · rfl
    · rw [segs_sl, hx]) (fun st => by simp [runS, dot1]) h hq (by simp only [List.length_append, List.length_cons] at hl ⊢; simp only [List.length_nil]; omega)
/-- A free sign, escaped or not. -/
theorem nrm_sign (s r1 r2 : List UInt8) (c : UInt8) (hc : freeB c = true) (h1 : unT r1 = some [(c, false)]) (h2 : unT r2 = some [(c, true)]) (v1 : ∀ c ∈ r1, vis c = true) (v2 : ∀ c ∈ r2, vis c = true) (h : (nrmR s).2 = 0) (l1 : s.length + r1.length ≤ 200) (l2 : s.length + r2.length ≤ 200) :
    nrmR (s ++ r2) = nrmR (s ++ r1) ∧ (nrmR (s ++ r1)).2 = 0 := by
  rcases nrm_cases s with ⟨e, he, hx⟩ | ⟨r, ts, hs, hl, hv, hu, _⟩
  · rw [hx] at h; exact absurd h he
  · have hh : ∀ q : List UInt8, (s ++ q).head? = some 47 := fun q => by rw [hs]; rfl
    have hv' : ∀ q : List UInt8, (∀ c ∈ q, vis c = true) → ∀ c ∈ s ++ q, vis c = true := by
      intro q hq c hc
      rcases List.mem_append.1 hc with hc | hc
      · exact hv c hc
      · exact hq c hc
    have u1 := un_app s r1 _ hu
    have u2 := un_app s r2 _ hu
    rw [h1] at u1; rw [h2] at u2
    simp only [Option.map_some] at u1 u2
    rw [nrm_ok _ _ u1 (by rw [List.length_append]; exact l1) (hh _) (hv' _ v1), nrm_ok _ _ u2 (by rw [List.length_append]; exact l2) (hh _) (hv' _ v2)]
    have : can (c, true) = can (c, false) := by simp [can, hc]
    exact ⟨by rw [List.map_append, List.map_append, List.map_cons, List.map_cons, this]; rfl, rfl⟩
/-- No byte of an escaped sign is another sign than a digit or a per cent. -/
theorem escB_no (c d : UInt8) (h1 : d ≠ 37) (h2 : hexv d = none) : d ∉ escB c := by
  intro h
  have := c.toNat_lt
  simp only [escB, List.mem_cons, List.not_mem_nil, or_false] at h
  rcases h with h | h | h
  · exact h1 h
  · rw [h, hexv_U _ (by omega)] at h2; cases h2
  · rw [h, hexv_U _ (by omega)] at h2; cases h2
theorem pr_no (ts : List Tk) (d : UInt8) (h1 : d ≠ 37) (h2 : hexv d = none) (h : ∀ t ∈ ts, t ≠ (d, false)) : ∀ c ∈ prT ts, c ≠ d := by
  intro c hc he
  subst he
  obtain ⟨t, ht, hct⟩ := List.mem_flatMap.1 hc
  obtain ⟨e, b⟩ := t
  cases b
  · simp only [pr1, Bool.false_eq_true, if_false, List.mem_singleton] at hct
    subst hct
    exact h _ ht rfl
  · exact escB_no e c h1 h2 hct
/-- The bytes of what is normal: its path, its steps, its question. -/
theorem nrm_bytes (s t : List UInt8) (h : nrmR s = (t, 0)) : ∃ (xs : List Step) (q : List Tk), t = prT (joinS xs) ++ prT q ∧ (∀ x ∈ xs, ∀ c ∈ prT x, c ≠ 47) ∧ (∀ x ∈ xs, prT x ≠ [46] ∧ prT x ≠ [46, 46]) ∧ (∀ c ∈ prT (joinS xs), c ≠ 63) ∧
    ((q = [] ∧ ∀ c ∈ s, c ≠ 63) ∨ ∃ s1 s2 q2, s = s1 ++ 63 :: s2 ∧ (∀ c ∈ s1, c ≠ 63) ∧ q = qm :: q2.map can ∧ unT s2 = some q2 ∧ s2.length ≤ 200) ∧ (unR s).2 = 0 ∧ (unR t).2 = 0 ∧ (unR t).1.length ≤ (unR s).1.length := by
  have hlt := (nrm_once s t h).2.2
  rcases nrm_cases s with ⟨c, hc, he⟩ | ⟨r, ts, hs, hl, hv, hu, he⟩
  · rw [h] at he; exact absurd (Prod.mk.inj he).2.symm hc
  · rw [h] at he
    have hte := (Prod.mk.inj he).1
    have hok := can_ok _ (un_ok s _ hu)
    obtain ⟨o1, o2, o3⟩ := left_ok ((sl :: ts).map can)
    have hmem : ∀ x ∈ leftS ((sl :: ts).map can), ∀ t ∈ x, t ∈ (sl :: ts).map can := by
      unfold leftS
      exact remS_all (P := fun x => ∀ t ∈ x, t ∈ (sl :: ts).map can) (fun t ht => by cases ht) _ [] (fun x hx => by cases hx) (fun x hx _ _ t ht => List.takeWhile_subset _ (segs_mem _ x (List.mem_of_mem_tail hx) t ht))
    refine ⟨leftS ((sl :: ts).map can), restT ((sl :: ts).map can), ?_, ?_, ?_, ?_, ?_, ?_, ?_, ?_⟩
    · rw [hte, remT_eq, prT_app]
    · exact fun x hx => pr_no x 47 (by decide) (by decide) (o1 x hx)
    · intro x hx
      have hux : unT (prT x) = some x := by
        have := un_pr x [] (fun t ht hf => hok t (hmem x hx t ht) hf)
        rw [List.append_nil] at this
        rw [this, unT_nil]; simp
      obtain ⟨n1, n2⟩ := o2 x hx
      exact ⟨fun e => by rw [e] at hux; exact n1 (Option.some.inj hux).symm, fun e => by rw [e] at hux; exact n2 (Option.some.inj hux).symm⟩
    · exact pr_no _ 63 (by decide) (by decide) (joinS_no _ o3)
    · by_cases hq : (63 : UInt8) ∈ s
      · right
        obtain ⟨s1, s2, rfl, hs1⟩ := List.eq_append_cons_of_mem hq
        obtain ⟨us, vs, h1, h2, h3⟩ := un_part 63 (by decide) _ s1 s2 _ (Nat.le_refl _) hu
        rw [unT_plain 63 _ (by decide)] at h2
        cases hr : unT s2 with
        | none => rw [hr] at h2; cases h2
        | some q2 =>
          rw [hr] at h2
          obtain rfl := Option.some.inj h2
          refine ⟨s1, s2, q2, rfl, fun c hc e => hs1 (e ▸ hc), ?_, hr, by simp only [List.length_append, List.length_cons] at hl; omega⟩
          rw [h3, List.map_append, rest_app _ _ (map_no_qm us (fun t ht e => by subst e; exact hs1 (un_mem s1 us h1 qm ht rfl)))]
          exact (path_of_rest (qm :: q2.map can) (.inr ⟨_, rfl⟩)).2
      · left
        refine ⟨?_, fun c hc e => hq (e ▸ hc)⟩
        have hno : ∀ t ∈ (sl :: ts).map can, t ≠ qm := map_no_qm _ (fun t ht e => by subst e; exact hq (un_mem s _ hu qm ht rfl))
        have := rest_app ((sl :: ts).map can) [] hno
        rw [List.append_nil] at this
        rw [this]; rfl
    · unfold unR; rw [if_neg (by omega), hu]
    · unfold unR; rw [if_neg (by omega), hte, un_remT _ hok]
    · have h1 : (unR t).1 = (remT ((sl :: ts).map can)).map (·.1) := by unfold unR; rw [if_neg (by omega), hte, un_remT _ hok]
      have h2 : (unR s).1 = (sl :: ts).map (·.1) := by unfold unR; rw [if_neg (by omega), hu]
      rw [h1, h2, List.length_map, List.length_map]
      have h3 := (remT_len (ts.map can)).2
      have : ((sl :: ts).map can).length = (sl :: ts).length := List.length_map _
      exact Nat.le_trans h3 (by simp)
/-- A question, read on its own, ahead and behind. -/
theorem quest_same (s2 : List UInt8) (q2 : List Tk) (h : unT s2 = some q2) (hl : s2.length ≤ 200) : unR (prT (q2.map can)) = unR s2 := by
  have hlen := (un_len s2 q2 h).1
  have hl2 := pr_can q2
  unfold unR
  rw [if_neg (by omega), if_neg (by omega), h]
  have := un_pr (q2.map can) [] (can_ok _ (un_ok s2 _ h))
  rw [List.append_nil] at this
  rw [this, unT_nil]
  simp [can]
end Go.Proofs.YtbmmlbphbllcoaaDoor

/-
  Plain functions on lists of bytes: what may stand between two quotes, and what is read of it; no program is named here.
-/
namespace Go.Proofs.YtbmmlbphbllcoaaDoor
open Go.RowKit

def plainB (c : UInt8) : Bool := (32 ≤ c && c ≤ 126) || c == 9

def ustep : Option (List UInt8 × Bool) → UInt8 → Option (List UInt8 × Bool)
  | none, _ => none
  | some (acc, true), c => if plainB c = true then some (acc ++ [c], false) else none
  | some (acc, false), c => if plainB c = true then (if c = 34 then none else if c = 92 then some (acc, true) else some (acc ++ [c], false)) else none

def unesc (l : List UInt8) : Option (List UInt8 × Bool) := l.foldl ustep (some ([], false))
def unescT (l : List UInt8) : List UInt8 := match unesc l with | some (acc, _) => acc | none => []
def unescOk (l : List UInt8) : Bool := match unesc l with | some (_, c) => !c | none => false

theorem unesc_snoc (l : List UInt8) (c : UInt8) : unesc (l ++ [c]) = ustep (unesc l) c := by simp [unesc]

theorem ustep_none (l : List UInt8) : l.foldl ustep none = none := by
  induction l with
  | nil => rfl
  | cons a l ih => rw [List.foldl_cons]; exact ih

theorem split_at (s : ByteArray) (k : Nat) (h : k < s.size) : s.data.toList = s.data.toList.take k ++ s[k] :: s.data.toList.drop (k + 1) := by
  have h' : k < s.data.toList.length := by rw [size_list]; exact h
  have e : s.data.toList.drop k = s[k] :: s.data.toList.drop (k + 1) := by
    rw [List.drop_eq_getElem_cons h']; rfl
  rw [← e, List.take_append_drop]

theorem unesc_dead (s : ByteArray) (k : Nat) (h : k < s.size) (x : Option (List UInt8 × Bool)) (hx : unesc (s.data.toList.take k) = x) (hd : ustep x s[k] = none) : unesc s.data.toList = none := by
  rw [split_at s k h]
  unfold unesc at hx ⊢
  rw [List.foldl_append, hx, List.foldl_cons, hd, ustep_none]

theorem ustep_bad (x : Option (List UInt8 × Bool)) (c : UInt8) (h : plainB c = false) : ustep x c = none := by
  rcases x with _ | ⟨acc, b⟩
  · rfl
  · cases b <;> simp [ustep, h]
theorem ustep_took (acc : List UInt8) (c : UInt8) (h : plainB c = true) : ustep (some (acc, true)) c = some (acc ++ [c], false) := by simp [ustep, h]
theorem ustep_quote (acc : List UInt8) (c : UInt8) (hc : c = 34) : ustep (some (acc, false)) c = none := by
  subst hc; rfl
theorem ustep_back (acc : List UInt8) (c : UInt8) (hc : c = 92) : ustep (some (acc, false)) c = some (acc, true) := by
  subst hc; rfl
theorem ustep_else (acc : List UInt8) (c : UInt8) (h : plainB c = true) (h1 : c ≠ 34) (h2 : c ≠ 92) : ustep (some (acc, false)) c = some (acc ++ [c], false) := by simp [ustep, h, h1, h2]

theorem unesc_len (l : List UInt8) : ∀ acc b, unesc l = some (acc, b) → acc.length ≤ l.length := by
  have gen : ∀ (l : List UInt8) (a0 : List UInt8) (b0 : Bool) acc b, l.foldl ustep (some (a0, b0)) = some (acc, b) → acc.length ≤ a0.length + l.length := by
    intro l
    induction l with
    | nil => intro a0 b0 acc b h; simp at h; obtain ⟨rfl, _⟩ := h; simp
    | cons c l ih =>
      intro a0 b0 acc b h
      rw [List.foldl_cons] at h
      cases hu : ustep (some (a0, b0)) c with
      | none => rw [hu, ustep_none] at h; cases h
      | some y =>
        obtain ⟨a1, b1⟩ := y
        rw [hu] at h
        have h1 := ih a1 b1 acc b h
        have h2 : a1.length ≤ a0.length + 1 := by
          cases b0 <;> simp only [ustep] at hu <;> (repeat' split at hu) <;> simp at hu <;> obtain ⟨rfl, _⟩ := hu <;> simp
        simp only [List.length_cons]
        omega
  intro acc b h
  have := gen l [] false acc b h
  simpa using this

theorem ne_of_int (c d : UInt8) (h : (c.toNat : Int) ≠ (d.toNat : Int)) : c ≠ d := fun e => h (by rw [e])
theorem eq_of_int (c d : UInt8) (h : (c.toNat : Int) = (d.toNat : Int)) : c = d := UInt8.toNat.inj (by omega)

theorem plainB_iff (c : UInt8) : plainB c = decide ((32 ≤ (c.toNat : Int) ∧ (c.toNat : Int) ≤ 126) ∨ (c.toNat : Int) = 9) := by
  have h9 : (c == 9) = decide ((c.toNat : Int) = 9) := by
    rw [Bool.eq_iff_iff]; simp
    constructor
    · rintro rfl; rfl
    · intro h; exact eq_of_int c 9 (by simpa using h)
  unfold plainB
  rw [h9, Bool.eq_iff_iff]
  simp [UInt8.le_iff_toNat_le]
  omega
def allPlain (l : List UInt8) : Bool := l.all plainB

theorem allPlain_dead (s : ByteArray) (k : Nat) (h : k < s.size) (hp : plainB s[k] = false) : allPlain s.data.toList = false := all_false s plainB k h hp
theorem allPlain_snoc (l : List UInt8) (c : UInt8) (h : allPlain l = true) (hc : plainB c = true) : allPlain (l ++ [c]) = true := by
  unfold allPlain at *; rw [List.all_append, h]; simp [hc]

def esc1 (c : UInt8) : List UInt8 := if c = 34 ∨ c = 92 then [92, c] else [c]
def esc (l : List UInt8) : List UInt8 := l.flatMap esc1
def qt (l : List UInt8) : List UInt8 × Int := if 1000 < l.length then ([], 2) else if allPlain l = true then (34 :: (esc l ++ [34]), 0) else ([], 3)

theorem esc_snoc (l : List UInt8) (c : UInt8) : esc (l ++ [c]) = esc l ++ esc1 c := by simp [esc]
theorem esc_len (l : List UInt8) : l.length ≤ (esc l).length ∧ (esc l).length ≤ 2 * l.length := by
  induction l with
  | nil => simp [esc]
  | cons c l ih =>
    have e : esc (c :: l) = esc1 c ++ esc l := by simp [esc]
    have h : 1 ≤ (esc1 c).length ∧ (esc1 c).length ≤ 2 := by unfold esc1; split <;> simp
    rw [e, List.length_append, List.length_cons]
    omega
end Go.Proofs.YtbmmlbphbllcoaaDoor

/-
  Plain lemmas on where a text lies in another one for the first time; no program is named here.
-/
namespace Go.Proofs.YtbmmlbphbllcoaaDoor
open Go.RowKit

theorem index_two' (l sub : List UInt8) : Lib.index l sub = -1 ∨ ∃ k : Nat, Lib.index l sub = k ∧ k + sub.length ≤ l.length := by
  have h := Lib.index_ge l sub
  by_cases h1 : Lib.index l sub = -1
  · exact .inl h1
  · refine .inr ⟨(Lib.index l sub).toNat, by omega, ?_⟩
    have := Lib.index_room l sub (by omega)
    omega
theorem cut_no (l sub : List UInt8) (h : Lib.index l sub = -1) : Lib.cut l sub = (l, [], false) := by
  unfold Lib.cut; rw [h]; rfl
theorem cut_yes (l sub : List UInt8) (k : Nat) (h : Lib.index l sub = k) : Lib.cut l sub = (l.take k, l.drop (k + sub.length), true) := by
  unfold Lib.cut; rw [h, if_pos (by omega)]; simp

theorem cut_split (l sub : List UInt8) (k : Nat) (h : Lib.index l sub = k) : l = l.take k ++ (sub ++ l.drop (k + sub.length)) := by
  rcases Lib.index_spec l sub with ⟨h1, _⟩ | ⟨i, h1, h2, h3, _⟩
  · omega
  · obtain rfl : i = k := by omega
    unfold Lib.occAt at h3
    obtain ⟨t, ht⟩ := List.isPrefixOf_iff_prefix.1 h3
    have e : l.drop (i + sub.length) = t := by rw [← List.drop_drop, ← ht, List.drop_left']; rfl
    rw [e, ht, List.take_append_drop]
theorem index_at_crlf (l t : List UInt8) (h : ∀ b ∈ l, b ≠ 13) : Lib.index (l ++ 13 :: 10 :: t) [13, 10] = (l.length : Int) := by
  induction l with
  | nil => simp [Lib.index]
  | cons b l ih =>
    have ih := ih fun c hc => h c (List.mem_cons_of_mem _ hc)
    have hb : b ≠ 13 := h b (List.mem_cons_self ..)
    have hp : ([13, 10] : List UInt8).isPrefixOf (b :: (l ++ 13 :: 10 :: t)) = false := by
      simp [List.isPrefixOf]
      intro e; exact absurd e.symm hb
    rw [List.cons_append]
    unfold Lib.index
    rw [hp, ih]
    have : ((l.length : Int) == -1) = false := by rw [beq_eq_false_iff_ne]; omega
    rw [this]; simp
theorem index_no_crlf (l : List UInt8) (h : ∀ b ∈ l, b ≠ 13) : Lib.index l [13, 10] = -1 := by
  induction l with
  | nil => rfl
  | cons b l ih =>
    have ih := ih fun c hc => h c (List.mem_cons_of_mem _ hc)
    have hb : b ≠ 13 := h b (List.mem_cons_self ..)
    have hp : ([13, 10] : List UInt8).isPrefixOf (b :: l) = false := by
      cases l <;> simp [List.isPrefixOf]
      intro e; exact absurd e.symm hb
    unfold Lib.index
    rw [hp, ih]; rfl
theorem index_no_crlf1 (l : List UInt8) (h : ∀ b ∈ l, b ≠ 13) : Lib.index (l ++ [13]) [13, 10] = -1 := by
  induction l with
  | nil => rfl
  | cons b l ih =>
    have ih := ih fun c hc => h c (List.mem_cons_of_mem _ hc)
    have hb : b ≠ 13 := h b (List.mem_cons_self ..)
    have hp : ([13, 10] : List UInt8).isPrefixOf (b :: (l ++ [13])) = false := by
      cases l <;> simp [List.isPrefixOf]
      all_goals (intro e; exact absurd e.symm hb)
    rw [List.cons_append]
    unfold Lib.index
    rw [hp, ih]; rfl
theorem index_byte_at (d : UInt8) (l t : List UInt8) (h : ∀ b ∈ l, b ≠ d) : Lib.index (l ++ d :: t) [d] = (l.length : Int) := by
  induction l with
  | nil => simp [Lib.index]
  | cons b l ih =>
    have ih := ih fun c hc => h c (List.mem_cons_of_mem _ hc)
    have hb : b ≠ d := h b (List.mem_cons_self ..)
    have hp : ([d] : List UInt8).isPrefixOf (b :: (l ++ d :: t)) = false := by
      simp [List.isPrefixOf]
      intro e; exact absurd e.symm hb
    rw [List.cons_append]
    unfold Lib.index
    rw [hp, ih]
    have : ((l.length : Int) == -1) = false := by rw [beq_eq_false_iff_ne]; omega
    rw [this]; simp

theorem index_colon (l t : List UInt8) (h : ∀ b ∈ l, b ≠ 58) : Lib.index (l ++ 58 :: t) [58] = (l.length : Int) := index_byte_at 58 l t h
theorem tok_not (c d : UInt8) (hd : isTok d = false) (h : isTok c = true) : c ≠ d := by
  rintro rfl; rw [hd] at h; cases h
theorem plain_not13 (c : UInt8) (h : plainB c = true) : c ≠ 13 := by
  rintro rfl; exact absurd h (by decide)
theorem token_all (l : List UInt8) (h : token l = true) : ∀ c ∈ l, isTok c = true := by
  unfold token at h
  rw [Bool.and_eq_true] at h
  exact List.all_eq_true.1 h.2

end Go.Proofs.YtbmmlbphbllcoaaDoor

/-
  Words with a sign between them, parted at that sign; no program is named here.
-/
namespace Go.Proofs.YtbmmlbphbllcoaaDoor
open Go.RowKit

theorem index_none_byte (d : UInt8) (l : List UInt8) (h : ∀ b ∈ l, b ≠ d) : Lib.index l [d] = -1 := by
  rw [Lib.index_one]
  induction l with
  | nil => rfl
  | cons b l ih =>
    have hb : (b == d) = false := by simpa using h b (List.mem_cons_self ..)
    rw [Lib.indexByte, hb, ih fun x hx => h x (List.mem_cons_of_mem _ hx)]; rfl
def wordsB (d : UInt8) (ws : List (List UInt8)) : List UInt8 := ws.flatMap fun x => d :: x
theorem wordsB_cons (d : UInt8) (x : List UInt8) (ws : List (List UInt8)) : wordsB d (x :: ws) = d :: (x ++ wordsB d ws) := by simp [wordsB]
theorem split_words (d : UInt8) (ws : List (List UInt8)) : ∀ w0 : List UInt8, (∀ b ∈ w0, b ≠ d) → (∀ x ∈ ws, ∀ b ∈ x, b ≠ d) → Lib.count (w0 ++ wordsB d ws) [d] = ws.length ∧ Lib.splitK [d] 0 ws.length (w0 ++ wordsB d ws) = w0 :: ws := by
  induction ws with
  | nil =>
    intro w0 h0 _
    have hi := index_none_byte d w0 h0
    simp only [wordsB, List.flatMap_nil, List.append_nil, List.length_nil]
    exact ⟨Lib.count_miss hi, rfl⟩
  | cons x ws ih =>
    intro w0 h0 h
    have hi := index_byte_at d w0 (x ++ wordsB d ws) h0
    obtain ⟨h1, h2⟩ := ih x (h x (List.mem_cons_self ..)) fun y hy => h y (List.mem_cons_of_mem _ hy)
    rw [wordsB_cons]
    have hd : (w0 ++ d :: (x ++ wordsB d ws)).drop (w0.length + [d].length) = x ++ wordsB d ws := by
      rw [show w0 ++ d :: (x ++ wordsB d ws) = (w0 ++ [d]) ++ (x ++ wordsB d ws) by simp]
      exact List.drop_left' (by simp)
    refine ⟨?_, ?_⟩
    · rw [Lib.count_hit (by simp) hi, hd, h1, List.length_cons]; omega
    · rw [List.length_cons, Lib.splitK, hi]
      have hne : ((w0.length : Int) == -1) = false := by rw [beq_eq_false_iff_ne]; omega
      rw [hne, Int.toNat_natCast, hd, h2, Nat.add_zero, List.take_left' rfl]; rfl
/-- The row of parts of a text. -/
theorem splitB_words (d : UInt8) (s : ByteArray) (w0 : List UInt8) (ws : List (List UInt8)) (hs : s.data.toList = w0 ++ wordsB d ws) (h0 : ∀ b ∈ w0, b ≠ d) (h : ∀ x ∈ ws, ∀ b ∈ x, b ≠ d) :
    Lib.countB s ⟨#[d]⟩ = ws.length ∧ Lib.splitB ⟨#[d]⟩ 0 (Lib.countB s ⟨#[d]⟩) s = (w0 :: ws).map fun l => ⟨l.toArray⟩ := by
  obtain ⟨h1, h2⟩ := split_words d ws w0 h0 h
  have hc : Lib.countB s ⟨#[d]⟩ = ws.length := by
    show Lib.count s.data.toList [d] = _
    rw [hs, h1]
  refine ⟨hc, ?_⟩
  rw [hc]
  have := Lib.splitB_data ⟨#[d]⟩ 0 ws.length s
  rw [show (⟨#[d]⟩ : ByteArray).data.toList = [d] from rfl, hs, h2] at this
  rw [← this, List.map_map]
  conv => lhs; rw [← List.map_id (Lib.splitB ⟨#[d]⟩ 0 ws.length s)]
  exact List.map_congr_left fun x _ => rfl
end Go.Proofs.YtbmmlbphbllcoaaDoor

/-
  The steps of a path that are left, step by step; which texts a target may be; no program is named here.
-/
namespace Go.Proofs.YtbmmlbphbllcoaaDoor
open Go.RowKit

theorem runS_snoc (xs : List Step) (x : Step) : runS [] (xs ++ [x]) = if x = dot1 then runS [] xs else if x = dot2 then (runS [] xs).dropLast else runS [] xs ++ [x] := by
  rw [runS_app]; rfl
theorem remS_runS (xs : List Step) (x : Step) : remS [] (xs ++ [x]) = if x = dot1 ∨ x = dot2 then runS [] (xs ++ [x]) ++ [[]] else runS [] (xs ++ [x]) := by
  rw [remS_run xs [x] (by simp), remS_last, runS_snoc]
  by_cases h1 : x = dot1
  · simp [h1]
  · by_cases h2 : x = dot2
    · rw [if_neg h1, if_pos h2, if_pos (.inr h2), if_neg h1, if_pos h2]
    · rw [if_neg h1, if_neg h2, if_neg (by simp [h1, h2]), if_neg h1, if_neg h2]
theorem runS_len (xs : List Step) : ∀ st, (runS st xs).length ≤ st.length + xs.length := by
  induction xs with
  | nil => intro st; simp [runS]
  | cons x xs ih =>
    intro st
    rw [runS]
    split
    · have := ih st; simp at this ⊢; omega
    · split
      · have := ih st.dropLast; simp at this ⊢; omega
      · have := ih (st ++ [x]); simp at this ⊢; omega
theorem map_dropLast' (xs : List Step) : (xs.dropLast).map prT = (xs.map prT).take (xs.length - 1) := by
  rw [List.dropLast_eq_take, List.map_take]
theorem hexv_vis (c : UInt8) (x : Nat) (h : hexv c = some x) : vis c = true := by
  have := byAll (fun c => decide ((hexv c).isSome = true → vis c = true)) (by decide +kernel) c
  exact of_decide_eq_true this (by rw [h]; rfl)
theorem un_all_vis (s : List UInt8) (ts : List Tk) (h : unT s = some ts) (hv : ∀ t ∈ ts, (t.2 || vis t.1) = true) : s.all vis = true := by
  refine un_ind (P := fun s ts => (∀ t ∈ ts, (t.2 || vis t.1) = true) → s.all vis = true) (fun _ => rfl) ?_ ?_ s.length s ts (Nat.le_refl _) h hv
  · intro c r ts _ _ ih hv
    rw [List.all_cons, ih fun t ht => hv t (List.mem_cons_of_mem _ ht)]
    have := hv (c, false) (List.mem_cons_self ..)
    simpa using this
  · intro a b x y r ts ha hb _ ih hv
    rw [List.all_cons, List.all_cons, List.all_cons, ih fun t ht => hv t (List.mem_cons_of_mem _ ht), hexv_vis a x ha, hexv_vis b y hb]
    rfl
theorem nrm_yes (s : List UInt8) (ts : List Tk) (h1 : s.length ≤ 200) (h2 : s.head? = some 47) (h : unT s = some ts) (hv : ∀ t ∈ ts, (t.2 || vis t.1) = true) : nrmR s = (prT (remT (ts.map can)), 0) :=
  nrm_ok s ts h h1 h2 fun c hc => List.all_eq_true.1 (un_all_vis s ts h hv) c hc
theorem nrm_no (s : List UInt8) (h1 : s.length ≤ 200) (h : unT s = none ∨ ∃ c ∈ s, vis c = false) : nrmR s = ([], 3) := by
  unfold nrmR
  rw [if_neg (by omega)]
  rcases h with h | ⟨c, hc, h⟩
  · rw [h]; split <;> rfl
  · rw [if_neg]
    intro hh
    have := List.all_eq_true.1 hh.2 c hc
    rw [h] at this; cases this
theorem nrm_head (s : List UInt8) (h1 : s.length ≤ 200) (h : ¬ s.head? = some 47) : nrmR s = ([], 3) := by
  unfold nrmR
  rw [if_neg (by omega), if_neg (fun hh => h hh.1)]
theorem cutd_yes (d : UInt8) (a r : List UInt8) (h : ∀ b ∈ a, b ≠ d) : Lib.cut (a ++ d :: r) [d] = (a, r, true) := by
  unfold Lib.cut
  rw [index_byte_at d a r h, if_pos (by omega)]
  simp
theorem cutd_no (d : UInt8) (a : List UInt8) (h : ∀ b ∈ a, b ≠ d) : Lib.cut a [d] = (a, [], false) := by
  unfold Lib.cut
  rw [index_none_byte d a h, if_neg (by omega)]
theorem nrm_big (s : List UInt8) (h1 : 200 < s.length) : nrmR s = ([], 2) := by unfold nrmR; rw [if_pos h1]
end Go.Proofs.YtbmmlbphbllcoaaDoor

/-
  What the library's reading of two digits in base 16 does byte by byte, in plain numbers; no program is named here.
-/
namespace Go.Proofs.YtbmmlbphbllcoaaDoor
open Go.RowKit

theorem or32_int (c : UInt8) : bits .or .u8 (c.toNat : Int) 32 = ((c ||| 32).toNat : Int) := by
  have := byAll (fun c => decide (bits .or .u8 (c.toNat : Int) 32 = ((c ||| 32).toNat : Int))) (by decide +kernel) c
  exact of_decide_eq_true this
theorem hex_or (c : UInt8) (x : Nat) (h : hexv c = some x) : (48 ≤ c.toNat ∧ c.toNat ≤ 57 ∧ c.toNat = x + 48) ∨ ((c.toNat < 48 ∨ 57 < c.toNat) ∧ 97 ≤ (c ||| 32).toNat ∧ (c ||| 32).toNat ≤ 102 ∧ (c ||| 32).toNat = x + 87) := by
  have := byAll (fun c => decide (∀ x : Fin 16, hexv c = some x.1 → (48 ≤ c.toNat ∧ c.toNat ≤ 57 ∧ c.toNat = x.1 + 48) ∨ ((c.toNat < 48 ∨ 57 < c.toNat) ∧ 97 ≤ (c ||| 32).toNat ∧ (c ||| 32).toNat ≤ 102 ∧ (c ||| 32).toNat = x.1 + 87))) (by decide +kernel) c
  exact of_decide_eq_true this ⟨x, hexv_lt c x h⟩ h
theorem nohex_or (c : UInt8) (h : hexv c = none) : (c.toNat < 48 ∨ 57 < c.toNat) ∧ ((c ||| 32).toNat < 97 ∨ (103 ≤ (c ||| 32).toNat ∧ (c ||| 32).toNat ≤ 122) ∨ 122 < (c ||| 32).toNat) := by
  have := byAll (fun c => decide (hexv c = none → (c.toNat < 48 ∨ 57 < c.toNat) ∧ ((c ||| 32).toNat < 97 ∨ (103 ≤ (c ||| 32).toNat ∧ (c ||| 32).toNat ≤ 122) ∨ 122 < (c ||| 32).toNat))) (by decide +kernel) c
  exact of_decide_eq_true this h
/-- The number that hexadecimal digits tell behind acc. -/
def dec16 (acc : Nat) : List UInt8 → Option Nat
  | [] => some acc
  | c :: r => match hexv c with
    | some x => dec16 (16 * acc + x) r
    | none => none
theorem dec16_two (a b : UInt8) : dec16 0 [a, b] = (match hexv a, hexv b with | some x, some y => some (16 * x + y) | _, _ => none) := by
  unfold dec16
  cases ha : hexv a with
  | none => rfl
  | some x =>
    show dec16 (16 * 0 + x) [b] = _
    unfold dec16
    cases hb : hexv b with
    | none => rfl
    | some y => show some _ = some _; congr 1; omega
end Go.Proofs.YtbmmlbphbllcoaaDoor

/-
  What strconv.ParseUint computes of two bytes, in base 16 and 8 bits.
-/
namespace Go.Proofs.YtbmmlbphbllcoaaDoor
open Go.RowKit

theorem ret_u8 {a b : Int} (h : a = b) : Ending.returned (.int .u8 a) = .returned (.int .u8 b) := by rw [h]
set_option maxHeartbeats 400000 in
set_option maxRecDepth 100000 in
theorem lower32_any (c : UInt8) (w : World) :
    Calls Tryd.prog 87 #[.int .u8 (c.toNat : Int)] w fun e w' => e = .returned (.int .u8 ((c ||| 32).toNat : Int)) ∧ w' = w := by
  go_enter Tryd.func87, Tryd.ntmps87
  go_wp2
  go_ret
  exact ⟨ret_u8 (or32_int c), rfl⟩
def pu (w : World) (t : ByteArray) : World := Lib.bytesWorld w 5 t
def puAns : Option Nat → Value
  | some n => .tuple #[.int .u64 (n : Int), .nilIface]
  | none => .tuple #[.int .u64 0, .iface 105 (.int .i64 2)]
set_option maxHeartbeats 32000000 in
set_option maxRecDepth 100000 in
theorem pu16_in (t : ByteArray) (h2 : t.size = 2) (w : World) :
    Calls Tryd.prog 79 #[.string t, .int .i64 16, .int .i64 8] w fun e w' => e = .returned (puAns (dec16 0 t.data.toList)) ∧ w' = Lib.bytesWorld w 5 t := by
  have hts : t.size = 2 := h2
  have hemp : t.toList.isEmpty = false := by
    rw [← decide_eq_emptyBytes]
    exact decide_eq_false (fun h => by rw [h] at h2; cases h2)
  have hcv := Lib.run_convert_string_bytes (P := Tryd.prog) w 9 35 5 t (u := .string) Tryd.underlying9 Tryd.underlying35 Tryd.underlying5
  have hB : ∀ j, j < t.size → (Lib.bytesWorld w 5 t).cell? ⟨w.heap.size, j, none⟩ = some (.int .u8 (t.data.toList.getD j 0).toNat) := fun j hj => Lib.bytesWorld_cell w 5 t j hj
  obtain ⟨W1, hW1⟩ : ∃ W1, W1 = Lib.bytesWorld w 5 t := ⟨_, rfl⟩
  rw [← hW1] at hcv hB ⊢
  clear hW1
  obtain ⟨bs, hL⟩ : ∃ bs, bs = t.data.toList := ⟨_, rfl⟩
  have hLn : bs.length = t.size := by rw [hL, Lib.size_eq]
  rw [← hL] at hB ⊢
  clear hL
  have hmv : IntKind.u64.wrap (IntKind.u64.wrap 256 - 1) = 255 := by
    rw [IntKind.wrap_u64, IntKind.wrap_u64]
    decide
  clear h2
  go_enter Tryd.func79, Tryd.ntmps79
  go_wp2
  go_loop [12, 13, 101] (fun vu vn vi => ∃ (k acc : Nat) (a : Int), vu = .bool false ∧ vn = .int .u64 a ∧ vi = .int .i64 k ∧ k ≤ t.size ∧ Hid (a = (acc : Int) ∧ ((k = 0 ∧ acc = 0) ∨ (k = 1 ∧ acc < 16) ∨ (k = 2 ∧ acc < 256)) ∧ dec16 0 bs = dec16 acc (bs.drop k)))
    (fun _ _ vi => t.size - (intOf vi).toNat)
  case atStart => exact ⟨0, 0, 0, rfl, rfl, rfl, by omega, rfl, .inl ⟨rfl, rfl⟩, rfl⟩
  case round =>
    obtain ⟨k, acc, a, rfl, rfl, rfl, hk, hh⟩ := hrel
    obtain ⟨ha, hacc, hdec⟩ := hh.out
    clear hh
    have a0 : 0 ≤ a := by omega
    by_cases hkn : k < t.size
    · have a1 : a ≤ 15 := by omega
      have hac : acc < 16 ^ k := by rcases hacc with ⟨rfl, _⟩ | ⟨rfl, _⟩ | ⟨rfl, _⟩ <;> omega
      have hc := hB k hkn
      have hdrop : bs.drop k = bs[k]'(by omega) :: bs.drop (k + 1) := List.drop_eq_getElem_cons (by omega)
      have hget : bs.getD k 0 = bs[k]'(by omega) := by simp [List.getD, List.getElem?_eq_getElem (show k < bs.length by omega)]
      rw [hdrop] at hdec
      rw [hget] at hc
      generalize bs[k]'(by omega) = c at hc hdec
      obtain ⟨v, hv⟩ : ∃ v : Int, v = ((c ||| 32).toNat : Int) := ⟨_, rfl⟩
      obtain ⟨m, hm⟩ : ∃ m : Int, m = (c.toNat : Int) := ⟨_, rfl⟩
      have hv256 : v < 256 := by have := (c ||| 32).toNat_lt; omega
      have hm256 : m < 256 := by have := c.toNat_lt; omega
      have hm0 : 0 ≤ m := by omega
      have hv0 : 0 ≤ v := by omega
      have HL : ∀ w, Calls Tryd.prog 87 #[.int .u8 m] w fun e w' => e = .returned (.int .u8 v) ∧ w' = w := by
        rw [hm, hv]; exact lower32_any c
      rw [← hm] at hc
      clear hB hdrop hget
      cases hx : hexv c with
      | none =>
        have hF : dec16 acc (c :: bs.drop (k + 1)) = none := by unfold dec16; rw [hx]
        have HD : Hid (dec16 0 bs = none) := hdec.trans hF
        obtain ⟨h1, h2⟩ := nohex_or c hx
        have g1 : m < 48 ∨ 57 < m := by omega
        have g2 : v < 97 ∨ (103 ≤ v ∧ v ≤ 122) ∨ 122 < v := by omega
        clear hdec hF hx hv h1 h2 hacc hac ha hm
        rcases (show (m == 95) = true ∨ (m == 95) = false from by cases (m == 95) <;> simp) with hq | hq
        all_goals (
          have HQ : Hid ((m == 95) = (m == 95)) := rfl
          rcases g1 with g1 | g1 <;> rcases g2 with g2 | ⟨g2, g3⟩ | g2
          all_goals (first
            | (exfalso; simp at hq; omega)
            | (go_wp2_with fail
               repeat (refine (HL _).mono ?_; rintro e w' ⟨rfl, rfl⟩; go_wp2_with fail)
               go_ret2
               exact ⟨by rw [HD.out]; rfl, rfl⟩)))
      | some x =>
        have hx16 := hexv_lt c x hx
        have hF : dec16 acc (c :: bs.drop (k + 1)) = dec16 (16 * acc + x) (bs.drop (k + 1)) := by conv => lhs; unfold dec16; rw [hx]
        obtain ⟨d, hd⟩ : ∃ d : Int, d = (x : Int) := ⟨_, rfl⟩
        have HN : Hid (a * 16 + d = ((16 * acc + x : Nat) : Int) ∧ ((k + 1 = 0 ∧ 16 * acc + x = 0) ∨ (k + 1 = 1 ∧ 16 * acc + x < 16) ∨ (k + 1 = 2 ∧ 16 * acc + x < 256)) ∧ dec16 0 bs = dec16 (16 * acc + x) (bs.drop (k + 1))) := Lib.hid ⟨by omega, by omega, hdec.trans hF⟩
        have g0 := hex_or c x hx
        have g1 : (48 ≤ m ∧ m ≤ 57 ∧ d = m - 48) ∨ ((m < 48 ∨ 57 < m) ∧ 97 ≤ v ∧ v ≤ 102 ∧ d = v - 97 + 10) := by omega
        clear hdec hF hx hacc hac ha hx16 hv hm g0 hd
        rcases g1 with ⟨i1, i2, i3⟩ | ⟨i1, i2, i3, i4⟩
        · subst i3
          go_wp2_with fail
          refine ⟨⟨k + 1, 16 * acc + x, _, rfl, rfl, (by first | rfl | (congr 1; omega)), by omega, HN⟩, by simp [intOf]; omega⟩
        · subst i4
          rcases (show (m == 95) = true ∨ (m == 95) = false from by cases (m == 95) <;> simp) with hq | hq
          all_goals (
            rcases i1 with i1 | i1
            all_goals (first
              | (exfalso; simp at hq; omega)
              | (go_wp2_with fail
                 repeat (refine (HL _).mono ?_; rintro e w' ⟨rfl, rfl⟩; go_wp2_with fail)
                 refine ⟨⟨k + 1, 16 * acc + x, _, rfl, rfl, (by first | rfl | (congr 1; omega)), by omega, HN⟩, by simp [intOf]; omega⟩)))
    · have hkk : k = t.size := by omega
      subst hkk
      have hF : dec16 acc (bs.drop t.size) = some acc := by rw [List.drop_eq_nil_of_le (by omega)]; rfl
      rw [hF] at hdec
      have HD : Hid (dec16 0 bs = some acc) := hdec
      subst ha
      clear hacc hF hdec
      go_wp2
      go_ret2
      exact ⟨by rw [HD.out]; rfl, rfl⟩
end Go.Proofs.YtbmmlbphbllcoaaDoor

/-
  Plain functions on lists of bytes: how a text is cut at a sign that is not within quotes; no program is named here.
-/
namespace Go.Proofs.YtbmmlbphbllcoaaDoor
open Go.RowKit

def strs (ps : List (List UInt8)) : List Value := ps.map fun p => Value.string ⟨p.toArray⟩
theorem strs_snoc (ps : List (List UInt8)) (p : List UInt8) : strs ps ++ [Value.string ⟨p.toArray⟩] = strs (ps ++ [p]) := by simp [strs]
theorem strs_length (ps : List (List UInt8)) : (strs ps).length = ps.length := by simp [strs]
theorem strs_get (ps : List (List UInt8)) (k : Nat) (h : k < ps.length) : (strs ps)[k]? = some (.string ⟨ps[k].toArray⟩) := by
  simp [strs, h]

/-- What has been cut, what is being read, whether it is within quotes, whether a stroke counts. -/
structure Cut where
  ps : List (List UInt8)
  cur : List UInt8
  q : Bool
  cn : Bool

def cstep (sep : UInt8) (x : Cut) (c : UInt8) : Cut :=
  if c = sep ∧ x.q = false then ⟨x.ps ++ [x.cur], [], x.q, x.cn⟩
  else ⟨x.ps, x.cur ++ [c], if x.cn = true then x.q else if c = 34 then !x.q else x.q, if x.cn = true then false else if c = 34 then false else if c = 92 then x.q else false⟩
def cutS (sep : UInt8) (l : List UInt8) : Cut := l.foldl (cstep sep) ⟨[], [], false, false⟩
def pieces (sep : UInt8) (l : List UInt8) : List (List UInt8) := (cutS sep l).ps ++ [(cutS sep l).cur]
def ends (sep : UInt8) (l : List UInt8) : Bool := !(cutS sep l).q

theorem cutS_snoc (sep : UInt8) (l : List UInt8) (c : UInt8) : cutS sep (l ++ [c]) = cstep sep (cutS sep l) c := by simp [cutS]

theorem cutS_len (sep : UInt8) (l : List UInt8) : (cutS sep l).ps.length ≤ l.length := by
  have gen : ∀ (l : List UInt8) (x : Cut), (l.foldl (cstep sep) x).ps.length ≤ x.ps.length + l.length := by
    intro l
    induction l with
    | nil => intro x; simp
    | cons c l ih =>
      intro x
      rw [List.foldl_cons]
      have h := ih (cstep sep x c)
      have h2 : (cstep sep x c).ps.length ≤ x.ps.length + 1 := by unfold cstep; split <;> simp
      rw [List.length_cons]
      omega
  have := gen l ⟨[], [], false, false⟩
  simpa [cutS] using this

theorem cstep_back (sep : UInt8) (ps : List (List UInt8)) (cur : List UInt8) (c : UInt8) (hc : c = 92) : cstep sep ⟨ps, cur, true, false⟩ c = ⟨ps, cur ++ [c], true, true⟩ := by
  subst hc; simp [cstep]
theorem cstep_took (sep : UInt8) (ps : List (List UInt8)) (cur : List UInt8) (c : UInt8) : cstep sep ⟨ps, cur, true, true⟩ c = ⟨ps, cur ++ [c], true, false⟩ := by
  simp [cstep]
theorem cstep_quote (sep : UInt8) (hs : sep ≠ 34) (ps : List (List UInt8)) (cur : List UInt8) (q : Bool) (c : UInt8) (hc : c = 34) : cstep sep ⟨ps, cur, q, false⟩ c = ⟨ps, cur ++ [c], !q, false⟩ := by
  subst hc
  have : ¬ ((34 : UInt8) = sep ∧ q = false) := fun h => hs h.1.symm
  simp [cstep, this]
theorem cstep_sep (sep : UInt8) (ps : List (List UInt8)) (cur : List UInt8) (c : UInt8) (hc : c = sep) : cstep sep ⟨ps, cur, false, false⟩ c = ⟨ps ++ [cur], [], false, false⟩ := by
  simp [cstep, hc]
theorem cstep_else (sep : UInt8) (ps : List (List UInt8)) (cur : List UInt8) (q : Bool) (c : UInt8) (h1 : ¬ (c = sep ∧ q = false)) (h2 : c ≠ 34) (h3 : ¬ (c = 92 ∧ q = true)) : cstep sep ⟨ps, cur, q, false⟩ c = ⟨ps, cur ++ [c], q, false⟩ := by
  unfold cstep
  rw [if_neg h1]
  cases q
  · simp [h2]
  · have : c ≠ 92 := fun e => h3 ⟨e, rfl⟩
    simp [h2, this]

theorem pieces_len (sep : UInt8) (l : List UInt8) : ∀ p ∈ pieces sep l, p.length ≤ l.length := by
  have gen : ∀ (l : List UInt8) (x : Cut) (N : Nat), (∀ p ∈ x.ps, p.length ≤ N) → x.cur.length ≤ N → (∀ p ∈ (l.foldl (cstep sep) x).ps, p.length ≤ N + l.length) ∧ (l.foldl (cstep sep) x).cur.length ≤ N + l.length := by
    intro l
    induction l with
    | nil => intro x N h1 h2; exact ⟨h1, h2⟩
    | cons c l ih =>
      intro x N h1 h2
      rw [List.foldl_cons, List.length_cons]
      have h3 : (∀ p ∈ (cstep sep x c).ps, p.length ≤ N + 1) ∧ (cstep sep x c).cur.length ≤ N + 1 := by
        unfold cstep
        split
        · refine ⟨fun p hp => ?_, by simp⟩
          simp only [List.mem_append, List.mem_singleton] at hp
          rcases hp with hp | rfl
          · have := h1 p hp; omega
          · omega
        · refine ⟨fun p hp => ?_, by simp; omega⟩
          have := h1 p hp; omega
      have := ih _ (N + 1) h3.1 h3.2
      rw [show N + (l.length + 1) = N + 1 + l.length from by omega]
      exact this
  have h := gen l ⟨[], [], false, false⟩ 0 (fun p hp => by cases hp) (Nat.le_refl _)
  intro p hp
  unfold pieces at hp
  simp only [List.mem_append, List.mem_singleton] at hp
  rw [Nat.zero_add] at h
  rcases hp with hp | rfl
  · exact h.1 p hp
  · exact h.2

theorem seg_snoc (s : ByteArray) (a k : Nat) (ha : a ≤ k) (h : k < s.size) : (s.data.toList.drop a).take (k + 1 - a) = (s.data.toList.drop a).take (k - a) ++ [s[k]] := by
  have h' : k - a < (s.data.toList.drop a).length := by rw [List.length_drop, size_list]; omega
  rw [show k + 1 - a = (k - a) + 1 from by omega, List.take_succ_eq_append_getElem h']
  congr 2
  rw [List.getElem_drop]
  have : a + (k - a) = k := by omega
  simp only [this]
  rfl
theorem extract_seg (s : ByteArray) (a k : Nat) : s.extract a k = ⟨((s.data.toList.drop a).take (k - a)).toArray⟩ := by
  apply ByteArray.ext
  apply Array.ext'
  rw [Lib.extract_data]
end Go.Proofs.YtbmmlbphbllcoaaDoor

/-
  Plain lemmas on a text without the blanks at its ends; no program is named here.
-/
namespace Go.Proofs.YtbmmlbphbllcoaaDoor
open Go.RowKit

def trimL (l : List UInt8) : List UInt8 := Lib.trimS l [32, 9]
def blank (b : UInt8) : Bool := [32, 9].contains b

theorem trimL_eq (l : List UInt8) : trimL l = ((l.reverse.dropWhile blank).reverse).dropWhile blank := rfl

theorem trimL_last (l : List UInt8) (b : UInt8) (h : blank b = true) : trimL (l ++ [b]) = trimL l := by
  rw [trimL_eq, trimL_eq, List.reverse_append, List.reverse_singleton, List.singleton_append, List.dropWhile_cons, if_pos h]

theorem trimL_first (l : List UInt8) (b : UInt8) (h : blank b = true) : trimL (b :: l) = trimL l := by
  rw [trimL_eq, trimL_eq, List.reverse_cons, List.dropWhile_append]
  split
  · rename_i he
    have e : l.reverse.dropWhile blank = [] := by simpa using he
    rw [e]
    simp [h]
  · rw [List.reverse_append, List.reverse_singleton, List.singleton_append, List.dropWhile_cons, if_pos h]

theorem trimL_stays (l : List UInt8) (h1 : ∀ b, l.head? = some b → blank b = false) (h2 : ∀ b, l.getLast? = some b → blank b = false) : trimL l = l := by
  have hd : ∀ m : List UInt8, (∀ b, m.head? = some b → blank b = false) → m.dropWhile blank = m := by
    intro m hm
    cases m with
    | nil => rfl
    | cons a m => rw [List.dropWhile_cons, hm a rfl]; rfl
  rw [trimL_eq, hd l.reverse (fun b hb => h2 b (by rw [← List.head?_reverse]; exact hb)), List.reverse_reverse, hd l h1]

theorem trimL_len (l : List UInt8) : (trimL l).length ≤ l.length := by
  rw [trimL_eq]
  have h1 := (List.dropWhile_sublist blank (l := (l.reverse.dropWhile blank).reverse)).length_le
  have h2 := (List.dropWhile_sublist blank (l := l.reverse)).length_le
  simp only [List.length_reverse] at h1 h2
  omega

theorem dropWhile_head (l : List UInt8) : ∀ b, (l.dropWhile blank).head? = some b → blank b = false := by
  intro b hb
  induction l with
  | nil => simp at hb
  | cons a l ih =>
    rw [List.dropWhile_cons] at hb
    split at hb
    · exact ih hb
    · rename_i ha
      simp only [List.head?_cons, Option.some.injEq] at hb
      subst hb
      simpa using ha

theorem trimL_head (l : List UInt8) : ∀ b, (trimL l).head? = some b → blank b = false := by
  rw [trimL_eq]; exact dropWhile_head _
theorem trimL_tail (l : List UInt8) : ∀ b, (trimL l).getLast? = some b → blank b = false := by
  intro b hb
  rw [trimL_eq] at hb
  have hne : ((l.reverse.dropWhile blank).reverse).dropWhile blank ≠ [] := by
    intro e; rw [e] at hb; simp at hb
  have hsuf : ((l.reverse.dropWhile blank).reverse).dropWhile blank <:+ (l.reverse.dropWhile blank).reverse := List.dropWhile_suffix blank
  obtain ⟨t, ht⟩ := hsuf
  have e1 : ((l.reverse.dropWhile blank).reverse).getLast? = some b := by
    rw [← ht, List.getLast?_append, hb]; rfl
  rw [List.getLast?_reverse] at e1
  exact dropWhile_head _ b e1
theorem trimL_twice (l : List UInt8) : trimL (trimL l) = trimL l := trimL_stays _ (trimL_head l) (trimL_tail l)

theorem pre_yes (l : List UInt8) (b : UInt8) (h : Lib.hasPrefix l [b] = true) : l = b :: l.drop 1 := by
  unfold Lib.hasPrefix at h
  cases l with
  | nil => simp at h
  | cons a l => simp at h; simp [h]
theorem pre_no (l : List UInt8) (b : UInt8) (h : Lib.hasPrefix l [b] = false) : l.head? ≠ some b := by
  unfold Lib.hasPrefix at h
  intro e
  cases l with
  | nil => simp at e
  | cons a l => simp at e; subst e; simp at h
theorem suf_yes (l : List UInt8) (b : UInt8) (h : Lib.hasSuffix l [b] = true) : l = l.take (l.length - 1) ++ [b] := by
  unfold Lib.hasSuffix at h
  obtain ⟨t, ht⟩ := List.isSuffixOf_iff_suffix.1 h
  subst ht
  simp
theorem suf_no (l : List UInt8) (b : UInt8) (h : Lib.hasSuffix l [b] = false) : l.getLast? ≠ some b := by
  unfold Lib.hasSuffix at h
  intro e
  have : [b] <:+ l := by
    obtain ⟨ys, hy⟩ := List.getLast?_eq_some_iff.1 e
    exact ⟨ys, hy.symm⟩
  rw [List.isSuffixOf_iff_suffix.2 this] at h
  cases h
theorem trimL_none (l : List UInt8) (h1 : Lib.hasPrefix l [32] = false) (h2 : Lib.hasSuffix l [32] = false) (h3 : Lib.hasPrefix l [9] = false) (h4 : Lib.hasSuffix l [9] = false) : trimL l = l := by
  apply trimL_stays
  · intro b hb
    cases hbl : blank b
    · rfl
    · exfalso
      unfold blank at hbl
      simp at hbl
      rcases hbl with rfl | rfl
      · exact pre_no _ _ h1 hb
      · exact pre_no _ _ h3 hb
  · intro b hb
    cases hbl : blank b
    · rfl
    · exfalso
      unfold blank at hbl
      simp at hbl
      rcases hbl with rfl | rfl
      · exact suf_no _ _ h2 hb
      · exact suf_no _ _ h4 hb
theorem trimL_pre (l : List UInt8) (b : UInt8) (hb : blank b = true) (h : Lib.hasPrefix l [b] = true) : trimL (l.drop 1) = trimL l ∧ 1 ≤ l.length := by
  have e := pre_yes l b h
  generalize l.drop 1 = m at e
  subst e
  exact ⟨(trimL_first _ b hb).symm, by simp⟩
theorem trimL_suf (l : List UInt8) (b : UInt8) (hb : blank b = true) (h : Lib.hasSuffix l [b] = true) : trimL (l.take (l.length - 1)) = trimL l ∧ 1 ≤ l.length := by
  have e := suf_yes l b h
  generalize l.take (l.length - 1) = m at e
  subst e
  exact ⟨(trimL_last _ b hb).symm, by simp⟩
end Go.Proofs.YtbmmlbphbllcoaaDoor
