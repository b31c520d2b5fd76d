/-
  What Print, Strong and Weak of package etag compute.
-/
import Derived.Test.YtfeikdplfjikeaaWEgC
namespace Go.Proofs.Ytfeikdplfjikeaa
open Go.RowKit

set_option maxHeartbeats 1000000 in
set_option maxRecDepth 100000 in
theorem eprint_at (k : Bool) (x s : ByteArray) (c : Int) (h : prE (k, x.data.toList) = (s.data.toList, c)) (w : World) :
    Calls Try.prog 6 #[.agg #[.bool k, .string x]] w fun e w' => e = .returned (.tuple #[.string s, .int .i64 c]) ∧ Below w.heap.size w w' := by
  have hw0 : Below w.heap.size w (w.alloc (.cells #[.bool k, .string x] 23)) := (Below.refl _ w).alloc (Nat.le_refl _) _
  rw [prE_ch] at h
  by_cases hc : chE x.data.toList = 0
  · have HC : Hid (chE x.data.toList = 0) := hc
    rw [if_pos hc] at h
    obtain ⟨h1, h2⟩ := Prod.mk.inj h
    obtain rfl : (0 : Int) = c := h2
    have hx : x.size ≤ 100 := by
      rw [← size_list]
      unfold chE at hc
      by_cases hl : 100 < x.data.toList.length
      · rw [if_pos hl] at hc; cases hc
      · omega
    clear hc h
    have hz1 : ¬ 9223372036854775807 < 1 + x.size := by omega
    have hz2 : ¬ 9223372036854775807 < 1 + x.size + 1 := by omega
    cases k
    · have HR : Hid ((⟨#[34]⟩ : ByteArray) ++ x ++ ⟨#[34]⟩ = s) := by
        show _ = _
        apply ByteArray.ext; apply Array.ext'
        rw [← h1, ByteArray.data_append, Array.toList_append, ByteArray.data_append, Array.toList_append]
        simp [prG]
      clear h1
      go_enter Try.func6, Try.ntmps6
      go_wp2_with fail
      refine (echeck_is x 0 HC.out _).mono ?_
      rintro e w1 ⟨rfl, rfl⟩
      go_wp2_with fail
      go_ret2
      rw [HR.out]
      exact ⟨rfl, hw0⟩
    · have HR : Hid ((⟨#[87, 47]⟩ : ByteArray) ++ (⟨#[34]⟩ ++ x ++ ⟨#[34]⟩) = s) := by
        show _ = _
        apply ByteArray.ext; apply Array.ext'
        rw [← h1, ByteArray.data_append, Array.toList_append, ByteArray.data_append, Array.toList_append, ByteArray.data_append, Array.toList_append]
        simp [prG]
      have hz3 : ¬ 9223372036854775807 < 2 + (1 + x.size + 1) := by omega
      clear h1
      go_enter Try.func6, Try.ntmps6
      go_wp2_with fail
      refine (echeck_is x 0 HC.out _).mono ?_
      rintro e w1 ⟨rfl, rfl⟩
      go_wp2_with fail
      go_ret2
      rw [HR.out]
      exact ⟨rfl, hw0⟩
  · have hcb : (chE x.data.toList != 0) = true := by simpa using hc
    rw [if_neg hc] at h
    obtain ⟨h1, h2⟩ := Prod.mk.inj h
    have HC : Hid (chE x.data.toList = c) := h2
    rw [show chE x.data.toList = c from h2] at hcb
    obtain rfl : (⟨#[]⟩ : ByteArray) = s := by apply ByteArray.ext; apply Array.ext'; exact h1
    clear h h1 h2 hc
    go_enter Try.func6, Try.ntmps6
    go_wp2_with fail
    refine (echeck_is x c HC.out _).mono ?_
    rintro e w1 ⟨rfl, rfl⟩
    go_wp2_with fail
    go_ret2
    exact ⟨rfl, hw0⟩
set_option maxHeartbeats 1000000 in
set_option maxRecDepth 100000 in
theorem estrong_at (k l : Bool) (x y : ByteArray) (b : Bool) (h : (!k && (!l && (x.toList == y.toList))) = b) (w : World) :
    Calls Try.prog 10 #[.agg #[.bool k, .string x], .agg #[.bool l, .string y]] w fun e w' => e = .returned (.bool b) ∧ Below w.heap.size w w' := by
  subst h
  have hw0 : Below w.heap.size w ((w.alloc (.cells #[.bool k, .string x] 23)).alloc (.cells #[.bool l, .string y] 23)) := ((Below.refl _ w).alloc (Nat.le_refl _) _).alloc (by simp) _
  cases k <;> cases l <;> cases hq : (x.toList == y.toList)
  all_goals
    go_enter Try.func10, Try.ntmps10
    go_wp2_with fail
    go_ret
    exact ⟨rfl, hw0⟩
set_option maxHeartbeats 1000000 in
set_option maxRecDepth 100000 in
theorem eweak_at (k l : Bool) (x y : ByteArray) (b : Bool) (h : (x.toList == y.toList) = b) (w : World) :
    Calls Try.prog 11 #[.agg #[.bool k, .string x], .agg #[.bool l, .string y]] w fun e w' => e = .returned (.bool b) ∧ Below w.heap.size w w' := by
  subst h
  have hw0 : Below w.heap.size w ((w.alloc (.cells #[.bool k, .string x] 23)).alloc (.cells #[.bool l, .string y] 23)) := ((Below.refl _ w).alloc (Nat.le_refl _) _).alloc (by simp) _
  cases hq : (x.toList == y.toList)
  all_goals
    go_enter Try.func11, Try.ntmps11
    go_wp2_with fail
    go_ret
    exact ⟨rfl, hw0⟩
end Go.Proofs.Ytfeikdplfjikeaa
