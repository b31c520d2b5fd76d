/-
  Plain lemmas: what ReplaceAll makes of one byte, and that two such steps give the text with a stroke ahead of each quote and each stroke; no program is named here.
-/
import Derived.Test.YthedmfbfolhaoaaDoorSpecQ
import Derived.Lib.Replace
import Derived.Lib.ReplaceLaws
namespace Go.Proofs.YthedmfbfolhaoaaDoor
open Go.RowKit

def rep1 (c : UInt8) (new : List UInt8) (x : UInt8) : List UInt8 := if x = c then new else [x]

theorem rep_none (c : UInt8) (new l : List UInt8) (h : ∀ k : Nat, l[k]? ≠ some c) : l.flatMap (rep1 c new) = l := by
  induction l with
  | nil => rfl
  | cons a l ih =>
    have ha : a ≠ c := fun e => h 0 (by simp [e])
    have hl := ih (fun k hk => h (k + 1) (by simpa using hk))
    rw [List.flatMap_cons, hl]
    simp [rep1, ha]

theorem rep_split (c : UInt8) (new l : List UInt8) (i : Nat) (h : l[i]? = some c) (hn : ∀ k : Nat, k < i → l[k]? ≠ some c) :
    l.flatMap (rep1 c new) = l.take i ++ new ++ (l.drop (i + 1)).flatMap (rep1 c new) := by
  have hi : i < l.length := by
    rcases Nat.lt_or_ge i l.length with h1 | h1
    · exact h1
    · rw [List.getElem?_eq_none h1] at h; cases h
  have e : l = l.take i ++ c :: l.drop (i + 1) := by
    have hc : l[i] = c := by rw [List.getElem?_eq_getElem hi] at h; exact Option.some.inj h
    rw [← hc, ← List.drop_eq_getElem_cons hi, List.take_append_drop]
  have ht : (l.take i).flatMap (rep1 c new) = l.take i := by
    apply rep_none
    intro k hk
    rw [List.getElem?_take] at hk
    split at hk
    · exact hn k (by assumption) hk
    · cases hk
  have e2 : l.flatMap (rep1 c new) = (l.take i ++ c :: l.drop (i + 1)).flatMap (rep1 c new) := by rw [← e]
  rw [e2, List.flatMap_append, List.flatMap_cons, ht]
  simp [rep1]

theorem replaceK_one (c : UInt8) (new : List UInt8) : ∀ (k : Nat) (l : List UInt8), Lib.count l [c] = k → Lib.replaceK [c] new k l = l.flatMap (rep1 c new)
  | 0, l, h => by
    have hi : Lib.index l [c] = -1 := by
      have hge := Lib.index_ge l [c]
      rcases Lib.index_spec l [c] with ⟨hm, _⟩ | ⟨i, hi, _⟩
      · exact hm
      · rw [Lib.count_hit (by simp) hi] at h; omega
    rw [Lib.index_one] at hi
    rw [rep_none c new l (Lib.indexByte_none hi)]
    rfl
  | k + 1, l, h => by
    obtain ⟨i, hi⟩ := Lib.index_of_count (s := l) (old := [c]) (by omega)
    have hc := Lib.count_hit (sub := [c]) (by simp) hi
    rw [Lib.replaceK_hit [c] new k l i hi, List.length_singleton]
    rw [List.length_singleton] at hc
    rw [replaceK_one c new k _ (by omega)]
    rw [Lib.index_one] at hi
    obtain ⟨h1, h2⟩ := Lib.indexByte_some hi
    rw [← rep_split c new l i h1 h2]

theorem replaceAll_one (c : UInt8) (new l : List UInt8) (hne : [c] ≠ new) : Lib.replaceAll l [c] new = l.flatMap (rep1 c new) := by
  unfold Lib.replaceAll Lib.replace
  have : ([c] == new) = false := beq_eq_false_iff_ne.2 hne
  rw [this]
  simp only [Bool.false_eq_true, if_false]
  unfold Lib.replaceNum
  rw [if_pos (Or.inl (by decide))]
  exact replaceK_one c new _ l rfl

theorem rep_len (c : UInt8) (new l : List UInt8) (h : new.length ≤ 2) : (l.flatMap (rep1 c new)).length ≤ 2 * l.length := by
  induction l with
  | nil => simp
  | cons a l ih =>
    have h1 : (rep1 c new a).length ≤ 2 := by
      unfold rep1; split
      · exact h
      · simp
    rw [List.flatMap_cons, List.length_append, List.length_cons]
    omega

theorem rep_rep (l : List UInt8) : (l.flatMap (rep1 92 [92, 92])).flatMap (rep1 34 [92, 34]) = esc l := by
  induction l with
  | nil => rfl
  | cons a l ih =>
    have e : esc (a :: l) = esc1 a ++ esc l := by simp [esc]
    rw [List.flatMap_cons, List.flatMap_append, ih, e]
    congr 1
    unfold esc1
    by_cases h92 : a = 92
    · subst h92; rfl
    · by_cases h34 : a = 34
      · subst h34; rfl
      · simp [rep1, h92, h34]
end Go.Proofs.YthedmfbfolhaoaaDoor
