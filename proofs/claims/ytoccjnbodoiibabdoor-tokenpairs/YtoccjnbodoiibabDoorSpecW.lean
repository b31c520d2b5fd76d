/-
  Plain lemmas on a text between two quotes; no program is named here.
-/
import Derived.Test.YtoccjnbodoiibabDoorWUnq
import Derived.Test.YtoccjnbodoiibabDoorSpecR
import Derived.Test.YtoccjnbodoiibabDoorWQuote
namespace Go.Proofs.YtoccjnbodoiibabDoor
open Go.RowKit

theorem mid_wrap (m : List UInt8) : mid (34 :: (m ++ [34])) = m := by simp [mid]
theorem quoted_wrap (m : List UInt8) : quoted (34 :: (m ++ [34])) = true := by
  unfold quoted
  have h1 : (34 :: (m ++ [34]))[(34 :: (m ++ [34])).length - 1]? = some (34 : UInt8) := by
    have e : (34 :: (m ++ [34])).length - 1 = (34 :: m).length := by simp
    rw [e, show 34 :: (m ++ [34]) = (34 :: m) ++ [34] from rfl, List.getElem?_append_right (Nat.le_refl _)]
    simp
  rw [h1]
  simp
theorem unq_wrap (l : List UInt8) (hp : allPlain l = true) (hl : ¬ 1000 < l.length) : unq (34 :: (esc l ++ [34])) = (l, 0) := by
  have hu := unesc_esc l hp
  rw [unq_ok _ (quoted_wrap _)]
  · rw [mid_wrap]; unfold unescT; rw [hu]
  · rw [mid_wrap]; unfold unescOk; rw [hu]; rfl
  · rw [mid_wrap]; unfold unescT; rw [hu]; exact hl
theorem unq_nil : unq [] = ([], 3) := rfl

/-- What Unquote read well. -/
theorem unq_zero (l acc : List UInt8) (h : unq l = (acc, 0)) : allPlain acc = true ∧ ¬ 1000 < acc.length ∧ (esc acc).length + 2 ≤ l.length := by
  unfold unq at h
  split at h
  · rename_i hq
    split at h
    · rename_i hok
      split at h
      · simp at h
      · rename_i hl
        simp only [Prod.mk.injEq, and_true] at h
        subst h
        have hu : unesc (mid l) = some (unescT (mid l), false) := by
          unfold unescOk at hok
          unfold unescT
          cases he : unesc (mid l) with
          | none => rw [he] at hok; simp at hok
          | some x =>
            obtain ⟨a, b⟩ := x
            rw [he] at hok
            cases b
            · rfl
            · simp at hok
        have hs := unesc_short _ _ hu
        refine ⟨hs.2, hl, ?_⟩
        have h2 : 2 ≤ l.length := by
          unfold quoted at hq
          simp only [Bool.and_eq_true, decide_eq_true_eq] at hq
          exact hq.1.1
        have hm : (mid l).length ≤ l.length - 2 := by simp [mid]; omega
        omega
    · simp at h
  · simp at h
theorem unq_other (l acc : List UInt8) (n : Int) (h : unq l = (acc, n)) (hn : n ≠ 0) : acc = [] ∧ (n = 2 ∨ n = 3) := by
  unfold unq at h
  split at h
  · split at h
    · split at h
      · simp only [Prod.mk.injEq] at h; exact ⟨h.1.symm, .inl h.2.symm⟩
      · simp only [Prod.mk.injEq] at h; exact absurd h.2.symm hn
    · simp only [Prod.mk.injEq] at h; exact ⟨h.1.symm, .inr h.2.symm⟩
  · simp only [Prod.mk.injEq] at h; exact ⟨h.1.symm, .inr h.2.symm⟩
theorem eq_empty (t : ByteArray) (h : t.data.toList = []) : t = ⟨#[]⟩ := by
  apply ByteArray.ext; apply Array.ext'; exact h
end Go.Proofs.YtoccjnbodoiibabDoor
