/-
  The end of a chunk's line, in plain lists; no program is named here.
-/
import Derived.Test.YtofafonppajfkaaDoorSpecCk
import Derived.Test.YtofafonppajfkaaDoorSpecF
namespace Go.Proofs.YtofafonppajfkaaDoor
open Go.RowKit

def Fin2 (l : List UInt8) (k n : Nat) : Prop := k ≤ l.length ∧ (∀ r, l.drop k = 13 :: 10 :: r → HeadR l n (k + 2)) ∧ ((l.drop k = [] ∨ l.drop k = [13]) → ShortR l) ∧ ((∀ r, l.drop k ≠ 13 :: 10 :: r) → l.drop k ≠ [] → l.drop k ≠ [13] → BadR l)
theorem fin_num {l : List UInt8} {k n : Nat} {c : UInt8} (h : NumS l k n) (hk : 0 < k) (hc : l[k]? = some c) (h4 : 4 ≤ k ∨ hv c = none) (h59 : c ≠ 59) : Fin2 l k n := by
  obtain ⟨hd, hl⟩ := drop_at hc
  refine ⟨h.2.1, fun r hr => nm_end h hk hr, fun hr => ?_, fun h1 h2 h3 => ?_⟩
  · rcases hr with hr | hr
    · rw [hd] at hr; cases hr
    · exact nm_cr h hk hr
  · by_cases h13 : c = 13
    · subst h13
      generalize hz : l.drop (k + 1) = z at hd
      cases z with
      | nil => exact absurd hd h3
      | cons b z =>
        refine nm_cr_bad h hk hd ?_
        rintro rfl
        exact h1 z hd
    · exact nm_bad h hd h4 h59 h13
theorem fin_ext {l : List UInt8} {m n k : Nat} (h : ExtS l m n k) (he : 50 ≤ m ∨ k = l.length ∨ ∃ c, l[k]? = some c ∧ plainB c = false) : Fin2 l k n := by
  refine ⟨h.2.1, fun r hr => ext_end h hr, fun hr => ext_short h hr, fun h1 h2 h3 => ?_⟩
  generalize hz : l.drop k = z at *
  cases z with
  | nil => exact absurd rfl h2
  | cons c z =>
    by_cases h13 : c = 13
    · subst h13
      cases z with
      | nil => exact absurd rfl h3
      | cons b z =>
        refine ext_cr_bad h hz ?_
        rintro rfl
        exact h1 z rfl
    · refine ext_bad h hz ?_ h13
      rcases he with he | he | ⟨d, he, hp⟩
      · exact .inl he
      · rw [he, List.drop_length] at hz; cases hz
      · right
        obtain ⟨hd, _⟩ := drop_at he
        rw [hz] at hd
        injection hd with hd _
        rw [hd]; exact hp
theorem fin_cases {l : List UInt8} {k n : Nat} (h : Fin2 l k n) : (Lib.hasPrefix (l.drop k) [13, 10] = true ∧ HeadR l n (k + 2)) ∨ (Lib.hasPrefix (l.drop k) [13, 10] = false ∧ Lib.hasPrefix [13, 10] (l.drop k) = true ∧ ShortR l) ∨ (Lib.hasPrefix (l.drop k) [13, 10] = false ∧ Lib.hasPrefix [13, 10] (l.drop k) = false ∧ BadR l) := by
  obtain ⟨_, h1, h2, h3⟩ := h
  generalize l.drop k = z at *
  match z with
  | [] => exact .inr (.inl ⟨rfl, rfl, h2 (.inl rfl)⟩)
  | [c] =>
    by_cases hc : c = 13
    · subst hc; exact .inr (.inl ⟨by decide, by decide, h2 (.inr rfl)⟩)
    · refine .inr (.inr ⟨?_, ?_, h3 (by simp) (by simp) (by simpa using hc)⟩)
      · simp [Lib.hasPrefix, List.isPrefixOf]
      · simp [Lib.hasPrefix, List.isPrefixOf, hc]
  | c :: b :: r =>
    by_cases hc : c = 13 ∧ b = 10
    · obtain ⟨rfl, rfl⟩ := hc
      exact .inl ⟨by simp [Lib.hasPrefix, List.isPrefixOf], h1 r rfl⟩
    · refine .inr (.inr ⟨?_, ?_, h3 (fun q hq => hc ?_) (by simp) (by simp)⟩)
      · simp only [Lib.hasPrefix, List.isPrefixOf, Bool.and_eq_false_iff, Bool.and_true]
        by_cases h5 : c = 13
        · right; rw [beq_eq_false_iff_ne]; exact fun h => hc ⟨h5, h.symm⟩
        · left; rw [beq_eq_false_iff_ne]; exact fun h => h5 h.symm
      · cases r with
        | nil =>
          simp only [Lib.hasPrefix, List.isPrefixOf, Bool.and_eq_false_iff, Bool.and_true]
          by_cases h5 : c = 13
          · right; rw [beq_eq_false_iff_ne]; exact fun h => hc ⟨h5, h⟩
          · left; rw [beq_eq_false_iff_ne]; exact h5
        | cons d r => simp [Lib.hasPrefix, List.isPrefixOf]
      · injection hq with h5 h6
        injection h6 with h6 _
        exact ⟨h5, h6⟩
def HdQ (l : List UInt8) (n k : Nat) (e : Int) : Prop := (e = 8 ∧ ShortR l) ∨ (e = 3 ∧ BadR l) ∨ (e = 0 ∧ HeadR l n k)
theorem take_two {z : List UInt8} : (z.take 2 = [13] → z = [13]) ∧ (z.take 2 = [13, 10] → ∃ q, z = 13 :: 10 :: q) ∧ (z.take 2 ≠ [13, 10] → ∀ q, z ≠ 13 :: 10 :: q) := by
  refine ⟨fun h => ?_, fun h => ?_, fun h q hq => h (by rw [hq]; rfl)⟩
  · match z with
    | [] => simp at h
    | [c] => simpa using h
    | c :: b :: r => simp at h
  · match z with
    | [] => simp at h
    | [c] => simp at h
    | c :: b :: r =>
      simp at h
      exact ⟨r, by rw [h.1, h.2]⟩
theorem fpar_rest : ∀ (n : Nat) (s : List UInt8) (acc : List Fld), (fpar n s acc).2.1.length ≤ s.length
  | 0, _, _ => by simp [fpar]
  | n + 1, s, acc => by
    rw [fpar]
    cases hp : pstep s acc with
    | inr x =>
      obtain ⟨rest, acc'⟩ := x
      have h1 := pstep_short s acc rest acc' hp
      have h2 := fpar_rest n rest acc'
      simp only
      omega
    | inl r =>
      simp only
      unfold pstep at hp
      split at hp
      · cases hp; simp
      · split at hp
        · cases hp; simp only [List.length_drop]; omega
        · split at hp
          · cases hp; simp
          · split at hp
            · cases hp
            · cases hp; simp
theorem par_rest (s : List UInt8) (acc : List Fld) : (parS s acc).2.1.length ≤ s.length := fpar_rest _ _ _
theorem hexset (c : UInt8) : [48, 49, 50, 51, 52, 53, 54, 55, 56, 57, 97, 98, 99, 100, 101, 102, 65, 66, 67, 68, 69, 70].contains c = (hv c).isSome := by
  have := byAll (fun c => decide ([48, 49, 50, 51, 52, 53, 54, 55, 56, 57, 97, 98, 99, 100, 101, 102, 65, 66, 67, 68, 69, 70].contains c = (hv c).isSome)) (by decide +kernel) c
  exact of_decide_eq_true this
theorem hexidx (c : UInt8) : ((hv c).isSome = true → Lib.indexByte [48, 49, 50, 51, 52, 53, 54, 55, 56, 57, 97, 98, 99, 100, 101, 102] (low c) = (((hv c).getD 0 : Nat) : Int)) := by
  have := byAll (fun c => decide ((hv c).isSome = true → Lib.indexByte [48, 49, 50, 51, 52, 53, 54, 55, 56, 57, 97, 98, 99, 100, 101, 102] (low c) = (((hv c).getD 0 : Nat) : Int))) (by decide +kernel) c
  exact of_decide_eq_true this
end Go.Proofs.YtofafonppajfkaaDoor
