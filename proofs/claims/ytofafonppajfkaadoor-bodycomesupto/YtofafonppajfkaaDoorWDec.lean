/-
  What hexDigit of package body computes, and the functions that takeNumber, takeExtra, endNumber, takeBytes and takeFields hand back: what they hold of what came.
-/
import Derived.Test.YtofafonppajfkaaDoorSpecDc
import Derived.Test.YtofafonppajfkaaDoorSpecF
import Derived.Test.YtofafonppajfkaaDoorRows
import Derived.Test.YtofafonppajfkaaDoorShelf
import Derived.Lib.OthersKept
namespace Go.Proofs.YtofafonppajfkaaDoor
open Go.RowKit

theorem ret_ib {a b : Int} {c d : Bool} (h : a = b) (h' : c = d) : Ending.returned (.tuple #[.int .i64 a, .bool c]) = .returned (.tuple #[.int .i64 b, .bool d]) := by rw [h, h']
set_option maxHeartbeats 1000000 in
set_option maxRecDepth 100000 in
theorem hexDigit_any (c : UInt8) (w : World) :
    Calls Tryd.prog 57 #[.int .u8 (c.toNat : Int)] w fun e w' => e = .returned (.tuple #[.int .i64 (((hv c).getD 0 : Nat) : Int), .bool (hv c).isSome]) ∧ w' = w := by
  have hc : c.toNat < 256 := c.toNat_lt
  rcases (show (48 ≤ (c.toNat : Int) ∧ (c.toNat : Int) ≤ 57) ∨ (97 ≤ (c.toNat : Int) ∧ (c.toNat : Int) ≤ 102) ∨ (65 ≤ (c.toNat : Int) ∧ (c.toNat : Int) ≤ 70) ∨ ((c.toNat : Int) < 48 ∨ (57 < (c.toNat : Int) ∧ (c.toNat : Int) < 65) ∨ (70 < (c.toNat : Int) ∧ (c.toNat : Int) < 97) ∨ 102 < (c.toNat : Int)) by omega) with ⟨h1, h2⟩ | ⟨h1, h2⟩ | ⟨h1, h2⟩ | h
  · have HV : Hid (hv c = some (c.toNat - 48)) := by show _ = _; unfold hv; rw [if_pos (by omega)]
    go_enter Tryd.func57, Tryd.ntmps57
    go_wp2
    all_goals
      go_ret2
      refine ⟨ret_ib ?_ (by rw [HV.out]; rfl), rfl⟩
      rw [HV.out]; simp; try omega
  · have HV : Hid (hv c = some (c.toNat - 87)) := by show _ = _; unfold hv; rw [if_neg (by omega), if_pos (by omega)]
    go_enter Tryd.func57, Tryd.ntmps57
    go_wp2
    all_goals
      go_ret2
      refine ⟨ret_ib ?_ (by rw [HV.out]; rfl), rfl⟩
      rw [HV.out]; simp; try omega
  · have HV : Hid (hv c = some (c.toNat - 55)) := by show _ = _; unfold hv; rw [if_neg (by omega), if_neg (by omega), if_pos (by omega)]
    go_enter Tryd.func57, Tryd.ntmps57
    go_wp2
    all_goals
      go_ret2
      refine ⟨ret_ib ?_ (by rw [HV.out]; rfl), rfl⟩
      rw [HV.out]; simp; try omega
  · have HV : Hid (hv c = none) := by show _ = _; unfold hv; rw [if_neg (by omega), if_neg (by omega), if_neg (by omega)]
    rcases h with h | ⟨h, h'⟩ | ⟨h, h'⟩ | h
    all_goals
      go_enter Tryd.func57, Tryd.ntmps57
      go_wp2
      all_goals
        go_ret2
        exact ⟨ret_ib (by rw [HV.out]; rfl) (by rw [HV.out]; rfl), rfl⟩
end Go.Proofs.YtofafonppajfkaaDoor
