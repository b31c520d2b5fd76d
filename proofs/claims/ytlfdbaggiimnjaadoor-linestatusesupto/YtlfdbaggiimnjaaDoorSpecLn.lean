/-
  Plain functions on lists of bytes: the first line of a request, how it is printed and read; no program is named here.
-/
import Derived.Test.YtlfdbaggiimnjaaDoorSpecIx
namespace Go.Proofs.YtlfdbaggiimnjaaDoor
open Go.RowKit

def verB : List UInt8 := [32, 72, 84, 84, 80, 47, 49, 46, 49]
def isTgt (c : UInt8) : Bool := 33 ≤ c && c ≤ 126
def meth (l : List UInt8) : Bool := token l && decide (l.length ≤ 30)
def targ (l : List UInt8) : Bool := l.all isTgt && (!l.isEmpty && decide (l.length ≤ 200))
/-- The line, without its end. -/
def reqB (m t : List UInt8) : List UInt8 := m ++ 32 :: (t ++ verB)
def prR (m t : List UInt8) : List UInt8 × Int := if (meth m && targ t) = true then (reqB m t ++ [13, 10], 0) else ([], 3)
theorem prR_ok (m t : List UInt8) (hm : meth m = true) (ht : targ t = true) : prR m t = (reqB m t ++ [13, 10], 0) := by
  unfold prR; rw [hm, ht]; rfl
theorem prR_no (m t : List UInt8) (h : (meth m && targ t) = false) : prR m t = ([], 3) := by
  unfold prR; rw [h]; rfl

theorem meth_is (m : List UInt8) (h : meth m = true) : token m = true ∧ m.length ≤ 30 := by
  unfold meth at h; simpa using h
theorem targ_is (t : List UInt8) (h : targ t = true) : (∀ c ∈ t, isTgt c = true) ∧ t ≠ [] ∧ t.length ≤ 200 := by
  unfold targ at h
  simp only [Bool.and_eq_true, List.all_eq_true, decide_eq_true_eq, Bool.not_eq_true', List.isEmpty_eq_false_iff] at h
  exact h
theorem meth_no (m : List UInt8) (d : UInt8) (hd : isTok d = false) (h : meth m = true) : ∀ b ∈ m, b ≠ d :=
  fun b hb => tok_not b d hd (token_all m (meth_is m h).1 b hb)
theorem tgt_no (c d : UInt8) (hd : isTgt d = false) (h : isTgt c = true) : c ≠ d := by
  rintro rfl; rw [hd] at h; cases h
theorem targ_no (t : List UInt8) (d : UInt8) (hd : isTgt d = false) (h : targ t = true) : ∀ b ∈ t, b ≠ d :=
  fun b hb => tgt_no b d hd ((targ_is t h).1 b hb)
theorem reqB_len (m t : List UInt8) : (reqB m t).length = m.length + t.length + 10 := by simp [reqB, verB]; omega
theorem reqB_no13 (m t : List UInt8) (hm : meth m = true) (ht : targ t = true) : ∀ b ∈ reqB m t, b ≠ 13 := by
  intro b hb
  unfold reqB verB at hb
  simp only [List.mem_append, List.mem_cons] at hb
  rcases hb with hb | rfl | hb | hb
  · exact meth_no m 13 (by decide) hm b hb
  · decide
  · exact targ_no t 13 (by decide) ht b hb
  · simp at hb; rcases hb with rfl | rfl | rfl | rfl | rfl | rfl | rfl | rfl <;> decide
theorem reqB_le (m t : List UInt8) (hm : meth m = true) (ht : targ t = true) : (reqB m t).length ≤ 240 ∧ 11 ≤ (reqB m t).length := by
  have h1 := (meth_is m hm).2
  obtain ⟨_, h2, h3⟩ := targ_is t ht
  have h4 : 1 ≤ t.length := by cases t with | nil => exact absurd rfl h2 | cons a t => simp
  have h5 : 0 ≤ m.length := Nat.zero_le _
  rw [reqB_len]; omega

/-- What stands ahead of the first blank, and what stands between it and the version. -/
def meL (l : List UInt8) : List UInt8 := l.takeWhile (· != 32)
def taL (l : List UInt8) : List UInt8 := (l.drop ((meL l).length + 1)).take ((l.drop ((meL l).length + 1)).length - 9)
def rdR (l : List UInt8) : Option (List UInt8 × List UInt8) :=
  if l = reqB (meL l) (taL l) ∧ meth (meL l) = true ∧ targ (taL l) = true then some (meL l, taL l) else none
theorem meL_req (m t : List UInt8) (hm : meth m = true) : meL (reqB m t) = m := by
  unfold meL reqB
  rw [List.takeWhile_append_of_pos (fun b hb => by simpa using meth_no m 32 (by decide) hm b hb)]
  simp
theorem taL_req (m t : List UInt8) (hm : meth m = true) : taL (reqB m t) = t := by
  unfold taL
  rw [meL_req m t hm]
  have e : (reqB m t).drop (m.length + 1) = t ++ verB := by
    unfold reqB
    rw [List.drop_append]
    simp
  rw [e]
  simp [verB]
theorem rdR_ok (m t : List UInt8) (hm : meth m = true) (ht : targ t = true) : rdR (reqB m t) = some (m, t) := by
  unfold rdR
  rw [meL_req m t hm, taL_req m t hm, if_pos ⟨rfl, hm, ht⟩]
theorem rdR_some (l m t : List UInt8) (h : rdR l = some (m, t)) : l = reqB m t ∧ meth m = true ∧ targ t = true := by
  unfold rdR at h
  split at h
  · rename_i hc
    simp only [Option.some.injEq, Prod.mk.injEq] at h
    obtain ⟨rfl, rfl⟩ := h
    exact hc
  · cases h
theorem rdR_none (l : List UInt8) (h : rdR l = none) (m t : List UInt8) (hm : meth m = true) (ht : targ t = true) : l ≠ reqB m t := by
  rintro rfl
  rw [rdR_ok m t hm ht] at h; cases h

/-- What is read of a text: the method and the target, how many bytes, and the error. -/
def paR (s : List UInt8) : (List UInt8 × List UInt8) × Int × Int :=
  if Lib.index s [13, 10] = -1 then (([], []), 0, if 301 < s.length then 2 else 8)
  else if 300 < (Lib.index s [13, 10]).toNat then (([], []), 0, 2)
  else match rdR (s.take (Lib.index s [13, 10]).toNat) with
    | none => (([], []), 0, 3)
    | some x => (x, Lib.index s [13, 10] + 2, 0)
theorem paR_no (s : List UInt8) (h : Lib.index s [13, 10] = -1) : paR s = (([], []), 0, if 301 < s.length then 2 else 8) := by
  unfold paR; rw [if_pos h]
theorem paR_large (s : List UInt8) (k : Nat) (h : Lib.index s [13, 10] = k) (hk : 300 < k) : paR s = (([], []), 0, 2) := by
  have e : (Lib.index s [13, 10]).toNat = k := by rw [h]; simp
  unfold paR; rw [if_neg (by omega), e, if_pos hk]
theorem paR_bad (s : List UInt8) (k : Nat) (h : Lib.index s [13, 10] = k) (hk : k ≤ 300) (hr : rdR (s.take k) = none) : paR s = (([], []), 0, 3) := by
  have e : (Lib.index s [13, 10]).toNat = k := by rw [h]; simp
  unfold paR; rw [if_neg (by omega), e, if_neg (by omega), hr]
theorem paR_ok (s : List UInt8) (k : Nat) (h : Lib.index s [13, 10] = k) (hk : k ≤ 300) (x : List UInt8 × List UInt8) (hr : rdR (s.take k) = some x) : paR s = (x, (k : Int) + 2, 0) := by
  have e : (Lib.index s [13, 10]).toNat = k := by rw [h]; simp
  unfold paR; rw [if_neg (by omega), e, if_neg (by omega), hr, h]
theorem paR_nil : paR [] = (([], []), 0, 8) := by
  rw [paR_no [] rfl]; rfl
theorem paR_back (m t r : List UInt8) (hm : meth m = true) (ht : targ t = true) : paR (reqB m t ++ 13 :: 10 :: r) = ((m, t), ((reqB m t).length : Int) + 2, 0) := by
  have hi := index_at_crlf (reqB m t) r (reqB_no13 m t hm ht)
  have hl := (reqB_le m t hm ht).1
  refine paR_ok _ _ hi (by omega) (m, t) ?_
  rw [List.take_left']
  · exact rdR_ok m t hm ht
  · rfl
/-- What is read: an error and nothing else, or a line with which the text begins. -/
theorem paR_two (s : List UInt8) : (∃ c : Int, c ≠ 0 ∧ paR s = (([], []), 0, c)) ∨ ∃ m t r, meth m = true ∧ targ t = true ∧ s = reqB m t ++ 13 :: 10 :: r ∧ paR s = ((m, t), ((reqB m t).length : Int) + 2, 0) := by
  rcases index_two' s [13, 10] with h | ⟨k, h, hk⟩
  · refine .inl ⟨_, ?_, paR_no s h⟩
    split <;> decide
  · by_cases h3 : 300 < k
    · exact .inl ⟨2, by decide, paR_large s k h h3⟩
    · cases hr : rdR (s.take k) with
      | none => exact .inl ⟨3, by decide, paR_bad s k h (by omega) hr⟩
      | some x =>
        obtain ⟨m, t⟩ := x
        obtain ⟨h1, h2, h4⟩ := rdR_some _ _ _ hr
        have hs : s = reqB m t ++ 13 :: 10 :: s.drop (k + 2) := by
          have e := cut_split s [13, 10] k h
          rw [h1] at e
          exact e
        refine .inr ⟨m, t, s.drop (k + 2), h2, h4, hs, ?_⟩
        conv => lhs; rw [hs]
        exact paR_back m t _ h2 h4
/-- Of what begins a line, and isn't all, nothing is read yet. -/
theorem paR_part (m t : List UInt8) (hm : meth m = true) (ht : targ t = true) (n : Nat) (hn : n < (reqB m t).length + 2) : paR ((reqB m t ++ [13, 10]).take n) = (([], []), 0, 8) := by
  have hl := (reqB_le m t hm ht).1
  have hno := reqB_no13 m t hm ht
  have hi : Lib.index ((reqB m t ++ [13, 10]).take n) [13, 10] = -1 := by
    by_cases h : n ≤ (reqB m t).length
    · rw [List.take_append_of_le_length h]
      exact index_no_crlf _ fun b hb => hno b (List.mem_of_mem_take hb)
    · obtain rfl : n = (reqB m t).length + 1 := by omega
      rw [List.take_length_add_append]
      exact index_no_crlf1 _ hno
  rw [paR_no _ hi, if_neg]
  rw [List.length_take]; simp; omega
end Go.Proofs.YtlfdbaggiimnjaaDoor
