/-
  What Print of package etag computes.
-/
import Derived.Test.YtfeikdplfjikeaaDoorWEgC
namespace Go.Proofs.YtfeikdplfjikeaaDoor
open Go.RowKit

set_option maxHeartbeats 1000000 in
set_option maxRecDepth 100000 in
theorem eprint_at (k : Bool) (x s : ByteArray) (c : Int) (h : prE (k, x.data.toList) = (s.data.toList, c)) (w : World) :
    Calls Tryd.prog 9 #[.agg #[.bool k, .string x]] w fun e w' => e = .returned (.tuple #[.string s, .int .i64 c]) ∧ Below w.heap.size w w' := by
  have hw0 : Below w.heap.size w (w.alloc (.cells #[.bool k, .string x] 28)) := (Below.refl _ w).alloc (Nat.le_refl _) _
  rw [prE_ch] at h
  by_cases hc : chE x.data.toList = 0
  · have HC : Hid (chE x.data.toList = 0) := hc
    rw [if_pos hc] at h
    obtain ⟨h1, h2⟩ := Prod.mk.inj h
    obtain rfl : (0 : Int) = c := h2
    have hx : x.size ≤ 100 := by
      rw [← size_list]
      unfold chE at hc
      by_cases hl : 100 < x.data.toList.length
      · rw [if_pos hl] at hc; cases hc
      · omega
    clear hc h
    have hz1 : ¬ 9223372036854775807 < 1 + x.size := by omega
    have hz2 : ¬ 9223372036854775807 < 1 + x.size + 1 := by omega
    cases k
    · have HR : Hid ((⟨#[34]⟩ : ByteArray) ++ x ++ ⟨#[34]⟩ = s) := by
        show _ = _
        apply ByteArray.ext; apply Array.ext'
        rw [← h1, ByteArray.data_append, Array.toList_append, ByteArray.data_append, Array.toList_append]
        simp [prG]
      clear h1
      go_enter Tryd.func9, Tryd.ntmps9
      go_wp2_with fail
      refine (echeck_is x 0 HC.out _).mono ?_
      rintro e w1 ⟨rfl, rfl⟩
      go_wp2_with fail
      go_ret2
      rw [HR.out]
      exact ⟨rfl, hw0⟩
    · have HR : Hid ((⟨#[87, 47]⟩ : ByteArray) ++ (⟨#[34]⟩ ++ x ++ ⟨#[34]⟩) = s) := by
        show _ = _
        apply ByteArray.ext; apply Array.ext'
        rw [← h1, ByteArray.data_append, Array.toList_append, ByteArray.data_append, Array.toList_append, ByteArray.data_append, Array.toList_append]
        simp [prG]
      have hz3 : ¬ 9223372036854775807 < 2 + (1 + x.size + 1) := by omega
      clear h1
      go_enter Tryd.func9, Tryd.ntmps9
      go_wp2_with fail
      refine (echeck_is x 0 HC.out _).mono ?_
      rintro e w1 ⟨rfl, rfl⟩
      go_wp2_with fail
      go_ret2
      rw [HR.out]
      exact ⟨rfl, hw0⟩
  · have hcb : (chE x.data.toList != 0) = true := by simpa using hc
    rw [if_neg hc] at h
    obtain ⟨h1, h2⟩ := Prod.mk.inj h
    have HC : Hid (chE x.data.toList = c) := h2
    rw [show chE x.data.toList = c from h2] at hcb
    obtain rfl : (⟨#[]⟩ : ByteArray) = s := by apply ByteArray.ext; apply Array.ext'; exact h1
    clear h h1 h2 hc
    go_enter Tryd.func9, Tryd.ntmps9
    go_wp2_with fail
    refine (echeck_is x c HC.out _).mono ?_
    rintro e w1 ⟨rfl, rfl⟩
    go_wp2_with fail
    go_ret2
    exact ⟨rfl, hw0⟩
end Go.Proofs.YtfeikdplfjikeaaDoor
