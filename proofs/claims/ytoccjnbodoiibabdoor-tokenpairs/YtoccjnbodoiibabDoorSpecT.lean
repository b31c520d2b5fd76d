/-
  Plain lemmas on a text without the blanks at its ends; no program is named here.
-/
import Derived.Test.YtoccjnbodoiibabDoorSpecS
import Derived.Lib.SlTrimSet
namespace Go.Proofs.YtoccjnbodoiibabDoor
open Go.RowKit

def trimL (l : List UInt8) : List UInt8 := Lib.trimS l [32, 9]
def blank (b : UInt8) : Bool := [32, 9].contains b

theorem trimL_eq (l : List UInt8) : trimL l = ((l.reverse.dropWhile blank).reverse).dropWhile blank := rfl

theorem trimL_last (l : List UInt8) (b : UInt8) (h : blank b = true) : trimL (l ++ [b]) = trimL l := by
  rw [trimL_eq, trimL_eq, List.reverse_append, List.reverse_singleton, List.singleton_append, List.dropWhile_cons, if_pos h]

theorem trimL_first (l : List UInt8) (b : UInt8) (h : blank b = true) : trimL (b :: l) = trimL l := by
  rw [trimL_eq, trimL_eq, List.reverse_cons, List.dropWhile_append]
  split
  · rename_i he
    have e : l.reverse.dropWhile blank = [] := by simpa using he
    rw [e]
    simp [h]
  · rw [List.reverse_append, List.reverse_singleton, List.singleton_append, List.dropWhile_cons, if_pos h]

theorem trimL_stays (l : List UInt8) (h1 : ∀ b, l.head? = some b → blank b = false) (h2 : ∀ b, l.getLast? = some b → blank b = false) : trimL l = l := by
  have hd : ∀ m : List UInt8, (∀ b, m.head? = some b → blank b = false) → m.dropWhile blank = m := by
    intro m hm
    cases m with
    | nil => rfl
    | cons a m => rw [List.dropWhile_cons, hm a rfl]; rfl
  rw [trimL_eq, hd l.reverse (fun b hb => h2 b (by rw [← List.head?_reverse]; exact hb)), List.reverse_reverse, hd l h1]

theorem trimL_len (l : List UInt8) : (trimL l).length ≤ l.length := by
  rw [trimL_eq]
  have h1 := (List.dropWhile_sublist blank (l := (l.reverse.dropWhile blank).reverse)).length_le
  have h2 := (List.dropWhile_sublist blank (l := l.reverse)).length_le
  simp only [List.length_reverse] at h1 h2
  omega

theorem dropWhile_head (l : List UInt8) : ∀ b, (l.dropWhile blank).head? = some b → blank b = false := by
  intro b hb
  induction l with
  | nil => simp at hb
  | cons a l ih =>
    rw [List.dropWhile_cons] at hb
    split at hb
    · exact ih hb
    · rename_i ha
      simp only [List.head?_cons, Option.some.injEq] at hb
      subst hb
      simpa using ha

theorem trimL_head (l : List UInt8) : ∀ b, (trimL l).head? = some b → blank b = false := by
  rw [trimL_eq]; exact dropWhile_head _
theorem trimL_tail (l : List UInt8) : ∀ b, (trimL l).getLast? = some b → blank b = false := by
  intro b hb
  rw [trimL_eq] at hb
  have hne : ((l.reverse.dropWhile blank).reverse).dropWhile blank ≠ [] := by
    intro e; rw [e] at hb; simp at hb
  have hsuf : ((l.reverse.dropWhile blank).reverse).dropWhile blank <:+ (l.reverse.dropWhile blank).reverse := List.dropWhile_suffix blank
  obtain ⟨t, ht⟩ := hsuf
  have e1 : ((l.reverse.dropWhile blank).reverse).getLast? = some b := by
    rw [← ht, List.getLast?_append, hb]; rfl
  rw [List.getLast?_reverse] at e1
  exact dropWhile_head _ b e1
theorem trimL_twice (l : List UInt8) : trimL (trimL l) = trimL l := trimL_stays _ (trimL_head l) (trimL_tail l)

theorem pre_yes (l : List UInt8) (b : UInt8) (h : Lib.hasPrefix l [b] = true) : l = b :: l.drop 1 := by
  unfold Lib.hasPrefix at h
  cases l with
  | nil => simp at h
  | cons a l => simp at h; simp [h]
theorem pre_no (l : List UInt8) (b : UInt8) (h : Lib.hasPrefix l [b] = false) : l.head? ≠ some b := by
  unfold Lib.hasPrefix at h
  intro e
  cases l with
  | nil => simp at e
  | cons a l => simp at e; subst e; simp at h
theorem suf_yes (l : List UInt8) (b : UInt8) (h : Lib.hasSuffix l [b] = true) : l = l.take (l.length - 1) ++ [b] := by
  unfold Lib.hasSuffix at h
  obtain ⟨t, ht⟩ := List.isSuffixOf_iff_suffix.1 h
  subst ht
  simp
theorem suf_no (l : List UInt8) (b : UInt8) (h : Lib.hasSuffix l [b] = false) : l.getLast? ≠ some b := by
  unfold Lib.hasSuffix at h
  intro e
  have : [b] <:+ l := by
    obtain ⟨ys, hy⟩ := List.getLast?_eq_some_iff.1 e
    exact ⟨ys, hy.symm⟩
  rw [List.isSuffixOf_iff_suffix.2 this] at h
  cases h
theorem trimL_none (l : List UInt8) (h1 : Lib.hasPrefix l [32] = false) (h2 : Lib.hasSuffix l [32] = false) (h3 : Lib.hasPrefix l [9] = false) (h4 : Lib.hasSuffix l [9] = false) : trimL l = l := by
  apply trimL_stays
  · intro b hb
    cases hbl : blank b
    · rfl
    · exfalso
      unfold blank at hbl
      simp at hbl
      rcases hbl with rfl | rfl
      · exact pre_no _ _ h1 hb
      · exact pre_no _ _ h3 hb
  · intro b hb
    cases hbl : blank b
    · rfl
    · exfalso
      unfold blank at hbl
      simp at hbl
      rcases hbl with rfl | rfl
      · exact suf_no _ _ h2 hb
      · exact suf_no _ _ h4 hb
theorem trimL_pre (l : List UInt8) (b : UInt8) (hb : blank b = true) (h : Lib.hasPrefix l [b] = true) : trimL (l.drop 1) = trimL l ∧ 1 ≤ l.length := by
  have e := pre_yes l b h
  generalize l.drop 1 = m at e
  subst e
  exact ⟨(trimL_first _ b hb).symm, by simp⟩
theorem trimL_suf (l : List UInt8) (b : UInt8) (hb : blank b = true) (h : Lib.hasSuffix l [b] = true) : trimL (l.take (l.length - 1)) = trimL l ∧ 1 ≤ l.length := by
  have e := suf_yes l b h
  generalize l.take (l.length - 1) = m at e
  subst e
  exact ⟨(trimL_last _ b hb).symm, by simp⟩
end Go.Proofs.YtoccjnbodoiibabDoor
