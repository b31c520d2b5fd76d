/-
  Plain lemmas: a text and the same text with its letters lowered are decoded alike, rune by rune, but for those letters; no program is named here.
-/
import Derived.Test.YthedmfbfolhaoabDoorSpec
import Derived.Lib.DecodeN
namespace Go.Proofs.YthedmfbfolhaoabDoor
open Go.RowKit

theorem low_high (c : UInt8) (h : 128 ≤ c.toNat) : low c = c := by
  unfold low
  have e : (65 ≤ c && c ≤ 90) = false := by rw [Bool.eq_false_iff]; simp [UInt8.le_iff_toNat_le]; omega
  rw [e]; rfl
theorem low_lt (c : UInt8) (h : c.toNat < 128) : (low c).toNat < 128 := by
  have := byAll (fun c => !(decide (c.toNat < 128)) || decide ((low c).toNat < 128)) (by decide +kernel) c
  rw [decide_eq_true h] at this
  simpa using this

theorem decodeN_alike (n b0 b1 b2 b3 c1 c2 c3 : Nat) (h1 : c1 = b1 ∨ (b1 < 128 ∧ c1 < 128)) (h2 : c2 = b2 ∨ (b2 < 128 ∧ c2 < 128)) (h3 : c3 = b3 ∨ (b3 < 128 ∧ c3 < 128)) (h0 : 128 ≤ b0) :
    Lib.decodeN n b0 c1 c2 c3 = Lib.decodeN n b0 b1 b2 b3 := by
  have n0 : ¬ b0 < 128 := by omega
  unfold Lib.decodeN
  rw [if_neg n0, if_neg n0]
  rcases h1 with rfl | ⟨h1, h1'⟩
  · rcases h2 with rfl | ⟨h2, h2'⟩
    · rcases h3 with rfl | ⟨h3, h3'⟩
      · rfl
      · have a : ¬ b3 / 64 = 2 := by omega
        have b : ¬ c3 / 64 = 2 := by omega
        simp only [a, b, and_false, if_false]
    · have a : ¬ b2 / 64 = 2 := by omega
      have b : ¬ c2 / 64 = 2 := by omega
      simp only [a, b, and_false, false_and, if_false]
  · have a : ¬ b1 / 64 = 2 := by omega
    have b : ¬ c1 / 64 = 2 := by omega
    simp only [a, b, and_false, false_and, if_false]

/-- A text with its letters lowered. -/
structure Lowered (s t : ByteArray) : Prop where
  size : t.size = s.size
  at_ : ∀ (k : Nat) (h : k < s.size) (h' : k < t.size), t[k] = low s[k]

theorem get_in (s : ByteArray) (k : Nat) (h : k < s.size) : s.get! k = s[k] := by
  show s.data[k]! = _
  exact getElem!_pos s.data k h
theorem get_out (s : ByteArray) (k : Nat) (h : ¬ k < s.size) : s.get! k = 0 := by
  show s.data[k]! = _
  exact getElem!_neg s.data k h
theorem Lowered.get {s t : ByteArray} (h : Lowered s t) (k : Nat) : (t.get! k).toNat = (low (s.get! k)).toNat := by
  by_cases hk : k < s.size
  · have hk' : k < t.size := by rw [h.size]; exact hk
    rw [get_in s k hk, get_in t k hk', h.at_ k hk]
  · rw [get_out s k hk, get_out t k (by rw [h.size]; exact hk)]; rfl
theorem alike (b : UInt8) : (low b).toNat = b.toNat ∨ (b.toNat < 128 ∧ (low b).toNat < 128) := by
  by_cases h : b.toNat < 128
  · exact .inr ⟨h, low_lt b h⟩
  · exact .inl (by rw [low_high b (by omega)])
theorem Lowered.high {s t : ByteArray} (h : Lowered s t) (i : Nat) (hi : i < s.size) (hc : 128 ≤ s[i].toNat) : Utf8.decode t i = Utf8.decode s i := by
  rw [Lib.decode_at, Lib.decode_at, h.size, h.get, h.get, h.get, h.get]
  have e1 : s.get! i = s[i] := get_in s i hi
  rw [e1, low_high _ hc]
  exact decodeN_alike _ _ _ _ _ _ _ _ (alike _) (alike _) (alike _) hc
theorem Lowered.low {s t : ByteArray} (h : Lowered s t) (i : Nat) (hi : i < s.size) (hc : s[i].toNat < 128) : Utf8.decode s i = (s[i].toNat, 1) ∧ Utf8.decode t i = ((Go.Proofs.YthedmfbfolhaoabDoor.low s[i]).toNat, 1) := by
  have e1 : s.get! i = s[i] := get_in s i hi
  refine ⟨?_, ?_⟩
  · rw [Lib.decode_at, e1]; unfold Lib.decodeN; rw [if_pos hc]
  · rw [Lib.decode_at, h.get, e1]; unfold Lib.decodeN; rw [if_pos (low_lt _ hc)]
end Go.Proofs.YthedmfbfolhaoabDoor
