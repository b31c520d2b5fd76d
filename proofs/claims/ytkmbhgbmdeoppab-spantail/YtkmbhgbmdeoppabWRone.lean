/-
  What resolveOne of package span computes, of a want that is one.
-/
import Derived.Test.YtkmbhgbmdeoppabSpecRv
import Derived.Test.YtkmbhgbmdeoppabSpecAl
import Derived.Test.YtkmbhgbmdeoppabShelf
import Derived.Test.YtkmbhgbmdeoppabRows
namespace Go.Proofs.Ytkmbhgbmdeoppab
open Go.RowKit

set_option maxHeartbeats 1000000 in
set_option maxRecDepth 100000 in
theorem rone_at (a b size f t : Int) (hok : okW (a, b) = true) (hz : 0 ≤ size ∧ size ≤ 9223372036854775807) (hf : rvF size (a, b) = f) (ht : rvT size (a, b) = t) (w : World) :
    Calls Try.prog 14 #[.agg #[.int .i64 a, .int .i64 b], .int .i64 size] w fun e w' => e = .returned (.agg #[.int .i64 f, .int .i64 t]) ∧ Below w.heap.size w w' := by
  obtain ⟨o1, o2, o3, o4, o5, o6⟩ := okW_is hok
  clear hok
  simp only at o1 o2 o3 o4 o5 o6
  unfold rvF at hf
  unfold rvT at ht
  by_cases h3 : a = -1
  · rw [if_pos (show (a, b).1 = -1 from h3)] at hf ht
    have HF : Hid (max (size - b) 0 = f) := hf
    have HT : Hid (size = t) := by show _ = _; rw [← ht]; omega
    have q1 : size - b ≤ 9223372036854775807 := by omega
    have q2 : -9223372036854775808 ≤ size - b := by omega
    obtain ⟨z1, z2⟩ := hz
    clear hf ht o6
    subst h3
    go_enter Try.func14, Try.ntmps14
    go_wp2_with fail
    refine bodyPost_ret (by simp [results, Try.results14, go_sem]; rfl) rfl ?_
    exact ⟨by rw [HF.out, HT.out], below_alloc2 w _ _⟩
  · have h3b : (a == -1) = false := beq_eq_false_iff_ne.2 h3
    rw [if_neg (show ¬ (a, b).1 = -1 from h3)] at hf ht
    have HF : Hid (a = f) := hf
    obtain ⟨z1, z2⟩ := hz
    by_cases h4 : b = -1
    · rw [if_pos (show (a, b).2 = -1 from h4)] at ht
      have HT : Hid (size = t) := by show _ = _; rw [← ht]; omega
      clear hf ht o5 o6 h3
      subst h4
      go_enter Try.func14, Try.ntmps14
      go_wp2_with fail
      refine bodyPost_ret (by simp [results, Try.results14, go_sem]; rfl) rfl ?_
      exact ⟨by rw [HF.out, HT.out], below_alloc2 w _ _⟩
    · have h4b : (b == -1) = false := beq_eq_false_iff_ne.2 h4
      rw [if_neg (show ¬ (a, b).2 = -1 from h4)] at ht
      have HT : Hid (min (b + 1) size = t) := ht
      clear hf ht o5 o6 h3 h4
      go_enter Try.func14, Try.ntmps14
      go_wp2_with fail
      refine bodyPost_ret (by simp [results, Try.results14, go_sem]; rfl) rfl ?_
      exact ⟨by rw [HF.out, HT.out], below_alloc2 w _ _⟩
end Go.Proofs.Ytkmbhgbmdeoppab
