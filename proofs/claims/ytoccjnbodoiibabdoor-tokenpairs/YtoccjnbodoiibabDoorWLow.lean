/-
  What Lower of package token computes: the letters A to Z as a to z; the string fits in the memory that Go's limits allow.
-/
import Derived.Test.YtoccjnbodoiibabDoorSpec
import Derived.Test.YtoccjnbodoiibabDoorShelf
import Derived.Test.YtoccjnbodoiibabDoorRows
import Derived.Test.YtoccjnbodoiibabDoorWLowP
namespace Go.Proofs.YtoccjnbodoiibabDoor
open Go.RowKit

theorem cells_snoc (l : List UInt8) (c : UInt8) (n : Int) (h : n = ((low c).toNat : Int)) : Lib.byteCells (lower l) ++ [Value.int .u8 n] = Lib.byteCells (lower (l ++ [c])) := by
  rw [lower_snoc, Lib.byteCells_append, h]; rfl

set_option maxHeartbeats 1000000 in
set_option maxRecDepth 100000 in
theorem lower_any (s : ByteArray) (w : World) (hs : s.size ≤ 140737488351232) :
    Calls Tryd.prog 11 #[.string s] w fun e w' => e = .returned (.string ⟨(lower s.data.toList).toArray⟩) ∧ Below w.heap.size w w' := by
  go_enter Tryd.func11, Tryd.ntmps11
  go_wp2_with fail
  refine (Tryd.Builder_Grow_fresh w.heap.size w.heap.size s.size _ (Nat.le_refl _) ?hbk ?hBw (by omega)).mono ?_
  case hbk => exact heap_alloc_new _ _
  case hBw => simp
  rintro e w1 ⟨rfl, hb1, hw1⟩
  have hw1' : Below w.heap.size w w1 := ((Below.refl _ w).alloc (Nat.le_refl _) _).trans hw1
  clear hw1
  go_wp2_with fail
  go_loopw [11] (fun i wr => ∃ k : Nat, k ≤ s.size ∧ i = .int .i64 k ∧ Lib.BuilderAt 45 5 w.heap.size w.heap.size (.pointer (some ⟨w.heap.size, 0, none⟩)) (Lib.byteCells (lower (s.data.toList.take k))) wr ∧ Below w.heap.size w wr) (fun i _ => s.size - (intOf i).toNat)
  case atStart => exact ⟨0, Nat.zero_le _, rfl, hb1, hw1'⟩
  case round =>
    obtain ⟨k, hk, rfl, hb, hw⟩ := hrel
    clear hb1 hw1'
    by_cases hlt : k < s.size
    · have hlen : (Lib.byteCells (lower (s.data.toList.take k))).length + 1 ≤ 140737488355328 := by
        rw [Lib.byteCells_length]; simp [lower]; omega
      have hc1 : (s[k].toNat : Int) < 256 := by have := s[k].toNat_lt; omega
      have hsz := hw.size
      rcases (show (s[k].toNat : Int) < 65 ∨ (65 ≤ (s[k].toNat : Int) ∧ (s[k].toNat : Int) ≤ 90) ∨ 91 ≤ (s[k].toNat : Int) from by omega) with h | ⟨h, h'⟩ | h
      · go_wp2_with fail
        refine (Tryd.Builder_WriteByte w.heap.size w.heap.size _ _ _ (.inr hb) hlen hsz).mono ?_
        rintro e w2 ⟨rfl, hb2, hw2⟩
        go_wp2_with fail
        go_roundw
        case rel => exact ⟨k + 1, by omega, by go_num, by rw [take_snoc s k hlt, ← cells_snoc _ _ _ (by rw [low_no _ (by omega)])]; exact hb2, hw.trans hw2⟩
        case measure => simp [intOf]; omega
      · go_wp2_with fail
        refine (Tryd.Builder_WriteByte w.heap.size w.heap.size _ _ _ (.inr hb) hlen hsz).mono ?_
        rintro e w2 ⟨rfl, hb2, hw2⟩
        go_wp2_with fail
        go_roundw
        case rel => exact ⟨k + 1, by omega, by go_num, by rw [take_snoc s k hlt, ← cells_snoc _ _ _ ((low_yes _ h h').symm)]; exact hb2, hw.trans hw2⟩
        case measure => simp [intOf]; omega
      · go_wp2_with fail
        refine (Tryd.Builder_WriteByte w.heap.size w.heap.size _ _ _ (.inr hb) hlen hsz).mono ?_
        rintro e w2 ⟨rfl, hb2, hw2⟩
        go_wp2_with fail
        go_roundw
        case rel => exact ⟨k + 1, by omega, by go_num, by rw [take_snoc s k hlt, ← cells_snoc _ _ _ (by rw [low_no _ (by omega)])]; exact hb2, hw.trans hw2⟩
        case measure => simp [intOf]; omega
    · obtain rfl : k = s.size := by omega
      have hsz := hw.size
      go_wp2_with fail
      refine (Tryd.Builder_String_any w.heap.size w.heap.size _ _ (.inr hb) hsz).mono ?_
      rintro e w2 ⟨rfl, hw2⟩
      go_wp2_with fail
      go_ret
      exact ⟨by rw [take_all]; rfl, hw.trans hw2⟩
end Go.Proofs.YtoccjnbodoiibabDoor
