/-
  Plain lemmas: a name, an equals sign and a value, printed; no program is named here.
-/
import Derived.Test.YtoccjnbodoiibabDoorSpecK
import Derived.Test.YtoccjnbodoiibabDoorSpecW
import Derived.Test.YtoccjnbodoiibabDoorSpecP
namespace Go.Proofs.YtoccjnbodoiibabDoor
open Go.RowKit

/-- A parameter as it is printed: its name, its value, and the value's text. -/
structure Pr where
  n : List UInt8
  v : List UInt8
  q : List UInt8
def PrOk (x : Pr) : Prop := token x.n = true ∧ ((x.q = x.v ∧ token x.v = true) ∨ (x.q = 34 :: (esc x.v ++ [34]) ∧ allPlain x.v = true ∧ ¬ 1000 < x.v.length))
theorem q_last (x : Pr) (h : PrOk x) : ∃ b, x.q.getLast? = some b ∧ blank b = false := by
  rcases h.2 with ⟨e, ht⟩ | ⟨e, _, _⟩
  · obtain ⟨h1, h2⟩ := token_parts _ ht
    rw [e]
    have hne : x.v ≠ [] := by intro e0; rw [e0] at h1; simp at h1
    refine ⟨x.v.getLast hne, List.getLast?_eq_some_getLast hne, ?_⟩
    rw [List.all_eq_true] at h2
    exact (tok_ne _ (h2 _ (List.getLast_mem hne))).2.2.2.2.2
  · rw [e]
    refine ⟨34, ?_, rfl⟩
    rw [show (34 :: (esc x.v ++ [34])) = (34 :: esc x.v) ++ [34] from rfl, List.getLast?_append]; rfl
theorem cut_seg (n q : List UInt8) (h : n.all isTok = true) : Lib.cut (n ++ 61 :: q) [61] = (n, q, true) := by
  have hi : Lib.indexByte (n ++ 61 :: q) 61 = (n.length : Int) := by
    induction n with
    | nil => simp [Lib.indexByte]
    | cons c n ih =>
      rw [List.all_cons, Bool.and_eq_true] at h
      have h1 := (tok_ne c h.1).2.2.2.2.1
      have h2 := ih h.2
      rw [List.cons_append, Lib.indexByte]
      have e1 : (c == 61) = false := beq_eq_false_iff_ne.2 h1
      rw [e1, h2]
      simp
  rw [cut_one_yes _ _ hi]
  simp
theorem quote_notok (l : List UInt8) : token (34 :: l) = false := by
  unfold token
  rw [List.all_cons]
  have : isTok 34 = false := by decide
  rw [this]; rfl
theorem rv_text (x : Pr) (h : PrOk x) : rv x.q = some x.v := by
  rcases h.2 with ⟨e, ht⟩ | ⟨e, hp, hl⟩
  · rw [e]; exact rv_token _ ht
  · have hu := unq_wrap x.v hp hl
    rw [e, rv_ok _ (quote_notok _) (by rw [hu]), hu]
end Go.Proofs.YtoccjnbodoiibabDoor
