/-
  The letters A to Z as a to z, byte by byte; no program is named here.
-/
import Derived.Test.YtoccjnbodoiibabDoorSpecQ
namespace Go.Proofs.YtoccjnbodoiibabDoor
open Go.RowKit

theorem low_yes (c : UInt8) (h : 65 ≤ (c.toNat : Int)) (h' : (c.toNat : Int) ≤ 90) : ((low c).toNat : Int) = (c.toNat : Int) + 32 := by
  have e : (65 ≤ c && c ≤ 90) = true := by simp [UInt8.le_iff_toNat_le]; omega
  unfold low
  rw [if_pos e, UInt8.toNat_add]
  have : (32 : UInt8).toNat = 32 := rfl
  omega
theorem low_no (c : UInt8) (h : (c.toNat : Int) < 65 ∨ 90 < (c.toNat : Int)) : low c = c := by
  have e : (65 ≤ c && c ≤ 90) = false := by rw [Bool.eq_false_iff]; simp [UInt8.le_iff_toNat_le]; omega
  unfold low
  rw [e]; rfl

theorem lower_snoc (l : List UInt8) (c : UInt8) : lower (l ++ [c]) = lower l ++ [low c] := by simp [lower]
end Go.Proofs.YtoccjnbodoiibabDoor
