/-
  What lineOf of the document's answers computes; the text has less than 2^32 - 15 bytes, and the package variable that the library reads holds some number.
-/
import Derived.Test.YtofafonppajfkaaDoorSpecIx
import Derived.Test.YtofafonppajfkaaDoorShelf
import Derived.Test.YtofafonppajfkaaDoorRows
namespace Go.Proofs.YtofafonppajfkaaDoor
open Go.RowKit

theorem index_at (s p : ByteArray) (k : Int) (h : Lib.index s.data.toList p.data.toList = k) (m : Int) (w : World) (hm : w.cell? ⟨0, 0, none⟩ = some (.int .i64 m)) (hs : s.size < 4294967281) :
    Calls Tryd.prog 52 #[.string s, .string p] w fun e w' => e = .returned (.int .i64 k) ∧ w' = w := by
  rw [← h]
  exact Tryd.strings_Index s p m w hs hm

set_option maxHeartbeats 1000000 in
set_option maxRecDepth 100000 in
theorem lineOf_no (s : ByteArray) (most : Nat) (hmo : most ≤ 100000) (h : Lib.index s.data.toList [13, 10] = -1) (m : Int) (w : World) (hm : w.cell? ⟨0, 0, none⟩ = some (.int .i64 m)) (hs : s.size < 4294967281) :
    Calls Tryd.prog 51 #[.string s, .int .i64 most] w fun e w' => e = .returned (.tuple #[.string ⟨#[]⟩, .int .i64 0, .int .i64 (if most + 1 < s.data.toList.length then 2 else 8)]) ∧ w' = w := by
  have HC : Hid (Lib.index s.data.toList (⟨#[13, 10]⟩ : ByteArray).data.toList = -1) := h
  have HM : Hid (w.cell? ⟨0, 0, none⟩ = some (.int .i64 m)) := hm
  clear hm h
  rw [size_list]
  by_cases hl : (most : Int) + 1 < (s.size : Int)
  · rw [if_pos (by omega)]
    have hd : decide ((most : Int) + 1 < (s.size : Int)) = true := decide_eq_true hl
    go_enter Tryd.func51, Tryd.ntmps51
    go_wp2_with fail
    refine (index_at s _ (-1) HC.out m _ HM.out hs).mono ?_
    rintro e w1 ⟨rfl, rfl⟩
    go_wp2_with fail
    go_ret3
    exact ⟨rfl, rfl⟩
  · rw [if_neg (by omega)]
    have hd : decide ((most : Int) + 1 < (s.size : Int)) = false := decide_eq_false hl
    go_enter Tryd.func51, Tryd.ntmps51
    go_wp2_with fail
    refine (index_at s _ (-1) HC.out m _ HM.out hs).mono ?_
    rintro e w1 ⟨rfl, rfl⟩
    go_wp2_with fail
    go_ret3
    exact ⟨rfl, rfl⟩

set_option maxHeartbeats 1000000 in
set_option maxRecDepth 100000 in
theorem lineOf_large (s : ByteArray) (most k : Nat) (h : Lib.index s.data.toList [13, 10] = k) (hk : most < k) (m : Int) (w : World) (hm : w.cell? ⟨0, 0, none⟩ = some (.int .i64 m)) (hs : s.size < 4294967281) :
    Calls Tryd.prog 51 #[.string s, .int .i64 most] w fun e w' => e = .returned (.tuple #[.string ⟨#[]⟩, .int .i64 0, .int .i64 2]) ∧ w' = w := by
  have HC : Hid (Lib.index s.data.toList (⟨#[13, 10]⟩ : ByteArray).data.toList = k) := h
  have HM : Hid (w.cell? ⟨0, 0, none⟩ = some (.int .i64 m)) := hm
  have h0 : decide ((k : Int) < 0) = false := decide_eq_false (by omega)
  clear hm h
  go_enter Tryd.func51, Tryd.ntmps51
  go_wp2_with fail
  refine (index_at s _ k HC.out m _ HM.out hs).mono ?_
  rintro e w1 ⟨rfl, rfl⟩
  go_wp2_with fail
  go_ret3
  exact ⟨rfl, rfl⟩

set_option maxHeartbeats 1000000 in
set_option maxRecDepth 100000 in
theorem lineOf_yes (s a : ByteArray) (most k : Nat) (h : Lib.index s.data.toList [13, 10] = k) (hk : k ≤ most) (hks : k + 2 ≤ s.size) (ha : a.data.toList = s.data.toList.take k) (m : Int) (w : World) (hm : w.cell? ⟨0, 0, none⟩ = some (.int .i64 m)) (hs : s.size < 4294967281) :
    Calls Tryd.prog 51 #[.string s, .int .i64 most] w fun e w' => e = .returned (.tuple #[.string a, .int .i64 ((k : Int) + 2), .int .i64 0]) ∧ w' = w := by
  have HC : Hid (Lib.index s.data.toList (⟨#[13, 10]⟩ : ByteArray).data.toList = k) := h
  have HM : Hid (w.cell? ⟨0, 0, none⟩ = some (.int .i64 m)) := hm
  have HA : Hid (s.extract 0 k = a) := by
    show _ = _
    apply ByteArray.ext; apply Array.ext'
    rw [ha, Lib.extract_data, List.drop_zero]; rfl
  have h0 : decide ((k : Int) < 0) = false := decide_eq_false (by omega)
  have h1 : ¬ most < k := by omega
  clear hm h ha
  go_enter Tryd.func51, Tryd.ntmps51
  go_wp2_with fail
  refine (index_at s _ k HC.out m _ HM.out hs).mono ?_
  rintro e w1 ⟨rfl, rfl⟩
  go_wp2_with fail
  go_ret3
  refine ⟨?_, rfl⟩
  rw [HA.out]
  rfl
end Go.Proofs.YtofafonppajfkaaDoor
