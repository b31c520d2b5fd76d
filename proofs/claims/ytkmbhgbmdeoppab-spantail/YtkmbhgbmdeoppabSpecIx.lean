/-
  Plain lemmas on where a text lies in another one for the first time; no program is named here.
-/
import Derived.Test.YtkmbhgbmdeoppabSpecQ
import Derived.Lib.IndexMore
import Derived.Lib.IndexBytes
namespace Go.Proofs.Ytkmbhgbmdeoppab
open Go.RowKit

theorem index_two' (l sub : List UInt8) : Lib.index l sub = -1 ∨ ∃ k : Nat, Lib.index l sub = k ∧ k + sub.length ≤ l.length := by
  have h := Lib.index_ge l sub
  by_cases h1 : Lib.index l sub = -1
  · exact .inl h1
  · refine .inr ⟨(Lib.index l sub).toNat, by omega, ?_⟩
    have := Lib.index_room l sub (by omega)
    omega
theorem cut_no (l sub : List UInt8) (h : Lib.index l sub = -1) : Lib.cut l sub = (l, [], false) := by
  unfold Lib.cut; rw [h]; rfl
theorem cut_yes (l sub : List UInt8) (k : Nat) (h : Lib.index l sub = k) : Lib.cut l sub = (l.take k, l.drop (k + sub.length), true) := by
  unfold Lib.cut; rw [h, if_pos (by omega)]; simp

theorem cut_split (l sub : List UInt8) (k : Nat) (h : Lib.index l sub = k) : l = l.take k ++ (sub ++ l.drop (k + sub.length)) := by
  rcases Lib.index_spec l sub with ⟨h1, _⟩ | ⟨i, h1, h2, h3, _⟩
  · omega
  · obtain rfl : i = k := by omega
    unfold Lib.occAt at h3
    obtain ⟨t, ht⟩ := List.isPrefixOf_iff_prefix.1 h3
    have e : l.drop (i + sub.length) = t := by rw [← List.drop_drop, ← ht, List.drop_left']; rfl
    rw [e, ht, List.take_append_drop]
theorem index_at_crlf (l t : List UInt8) (h : ∀ b ∈ l, b ≠ 13) : Lib.index (l ++ 13 :: 10 :: t) [13, 10] = (l.length : Int) := by
  induction l with
  | nil => simp [Lib.index]
  | cons b l ih =>
    have ih := ih fun c hc => h c (List.mem_cons_of_mem _ hc)
    have hb : b ≠ 13 := h b (List.mem_cons_self ..)
    have hp : ([13, 10] : List UInt8).isPrefixOf (b :: (l ++ 13 :: 10 :: t)) = false := by
      simp [List.isPrefixOf]
      intro e; exact absurd e.symm hb
    rw [List.cons_append]
    unfold Lib.index
    rw [hp, ih]
    have : ((l.length : Int) == -1) = false := by rw [beq_eq_false_iff_ne]; omega
    rw [this]; simp
theorem index_no_crlf (l : List UInt8) (h : ∀ b ∈ l, b ≠ 13) : Lib.index l [13, 10] = -1 := by
  induction l with
  | nil => rfl
  | cons b l ih =>
    have ih := ih fun c hc => h c (List.mem_cons_of_mem _ hc)
    have hb : b ≠ 13 := h b (List.mem_cons_self ..)
    have hp : ([13, 10] : List UInt8).isPrefixOf (b :: l) = false := by
      cases l <;> simp [List.isPrefixOf]
      intro e; exact absurd e.symm hb
    unfold Lib.index
    rw [hp, ih]; rfl
theorem index_no_crlf1 (l : List UInt8) (h : ∀ b ∈ l, b ≠ 13) : Lib.index (l ++ [13]) [13, 10] = -1 := by
  induction l with
  | nil => rfl
  | cons b l ih =>
    have ih := ih fun c hc => h c (List.mem_cons_of_mem _ hc)
    have hb : b ≠ 13 := h b (List.mem_cons_self ..)
    have hp : ([13, 10] : List UInt8).isPrefixOf (b :: (l ++ [13])) = false := by
      cases l <;> simp [List.isPrefixOf]
      all_goals (intro e; exact absurd e.symm hb)
    rw [List.cons_append]
    unfold Lib.index
    rw [hp, ih]; rfl
theorem index_byte_at (d : UInt8) (l t : List UInt8) (h : ∀ b ∈ l, b ≠ d) : Lib.index (l ++ d :: t) [d] = (l.length : Int) := by
  induction l with
  | nil => simp [Lib.index]
  | cons b l ih =>
    have ih := ih fun c hc => h c (List.mem_cons_of_mem _ hc)
    have hb : b ≠ d := h b (List.mem_cons_self ..)
    have hp : ([d] : List UInt8).isPrefixOf (b :: (l ++ d :: t)) = false := by
      simp [List.isPrefixOf]
      intro e; exact absurd e.symm hb
    rw [List.cons_append]
    unfold Lib.index
    rw [hp, ih]
    have : ((l.length : Int) == -1) = false := by rw [beq_eq_false_iff_ne]; omega
    rw [this]; simp

theorem index_colon (l t : List UInt8) (h : ∀ b ∈ l, b ≠ 58) : Lib.index (l ++ 58 :: t) [58] = (l.length : Int) := index_byte_at 58 l t h
theorem tok_not (c d : UInt8) (hd : isTok d = false) (h : isTok c = true) : c ≠ d := by
  rintro rfl; rw [hd] at h; cases h
theorem plain_not13 (c : UInt8) (h : plainB c = true) : c ≠ 13 := by
  rintro rfl; exact absurd h (by decide)
theorem token_all (l : List UInt8) (h : token l = true) : ∀ c ∈ l, isTok c = true := by
  unfold token at h
  rw [Bool.and_eq_true] at h
  exact List.all_eq_true.1 h.2

end Go.Proofs.Ytkmbhgbmdeoppab
