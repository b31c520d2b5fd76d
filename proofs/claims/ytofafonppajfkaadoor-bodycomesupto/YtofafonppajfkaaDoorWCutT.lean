/-
  What strings.Cut and CutLine of package token compute; a text has less than 2^32 - 15 bytes, and the package variable that the library reads holds some number.
-/
import Derived.Test.YtofafonppajfkaaDoorSpecIx
import Derived.Test.YtofafonppajfkaaDoorShelf
import Derived.Test.YtofafonppajfkaaDoorRows
namespace Go.Proofs.YtofafonppajfkaaDoor
open Go.RowKit

theorem mk_self (s : ByteArray) (l : List UInt8) (h : s.data.toList = l) : (⟨l.toArray⟩ : ByteArray) = s := by
  apply ByteArray.ext; apply Array.ext'; exact h.symm
theorem drewN_heap (w : World) (n : Nat) : (w.drewN n).heap = w.heap := by
  induction n with
  | zero => rfl
  | succ n ih => exact ih

theorem scut_at (s p a b : ByteArray) (f : Bool) (h : Lib.cut s.data.toList p.data.toList = (a.data.toList, b.data.toList, f)) (m : Int) (w : World) (hm : w.cell? ⟨0, 0, none⟩ = some (.int .i64 m)) (hs : s.size < 4294967281) :
    Calls Tryd.prog 135 #[.string s, .string p] w fun e w' => e = .returned (.tuple #[.string a, .string b, .bool f]) ∧ ∃ n, w' = w.drewN n := by
  refine (Tryd.strings_Cut s p m w hs hm).mono ?_
  rintro e w' ⟨rfl, hn⟩
  refine ⟨?_, hn⟩
  rw [h]

set_option maxHeartbeats 1000000 in
set_option maxRecDepth 100000 in
theorem cutLine_no (s : ByteArray) (most : Nat) (hmo : most ≤ 100000) (h : Lib.index s.data.toList [13, 10] = -1) (m : Int) (w : World) (hm : w.cell? ⟨0, 0, none⟩ = some (.int .i64 m)) (hs : s.size < 4294967281) :
    Calls Tryd.prog 124 #[.string s, .int .i64 most] w fun e w' => e = .returned (.tuple #[.string ⟨#[]⟩, .string ⟨#[]⟩, .int .i64 (if most + 1 < s.data.toList.length then 2 else 8)]) ∧ ∃ n, w' = w.drewN n := by
  have HC : Hid (Lib.cut s.data.toList (⟨#[13, 10]⟩ : ByteArray).data.toList = (s.data.toList, (⟨#[]⟩ : ByteArray).data.toList, false)) := cut_no _ _ h
  have HM : Hid (w.cell? ⟨0, 0, none⟩ = some (.int .i64 m)) := hm
  clear hm h
  rw [size_list]
  by_cases hl : (s.size : Int) ≤ (most : Int) + 1
  · rw [if_neg (by omega)]
    have hd : decide ((s.size : Int) ≤ (most : Int) + 1) = true := decide_eq_true hl
    go_enter Tryd.func124, Tryd.ntmps124
    go_wp2_with fail
    refine (scut_at s _ s ⟨#[]⟩ false HC.out m _ HM.out hs).mono ?_
    rintro e w1 ⟨rfl, nd, rfl⟩
    go_wp2_with fail
    go_ret3
    exact ⟨rfl, nd, rfl⟩
  · rw [if_pos (by omega)]
    have hd : decide ((s.size : Int) ≤ (most : Int) + 1) = false := decide_eq_false hl
    go_enter Tryd.func124, Tryd.ntmps124
    go_wp2_with fail
    refine (scut_at s _ s ⟨#[]⟩ false HC.out m _ HM.out hs).mono ?_
    rintro e w1 ⟨rfl, nd, rfl⟩
    go_wp2_with fail
    go_ret3
    exact ⟨rfl, nd, rfl⟩

set_option maxHeartbeats 1000000 in
set_option maxRecDepth 100000 in
theorem cutLine_large (s : ByteArray) (most k : Nat) (h : Lib.index s.data.toList [13, 10] = k) (hk : most < k) (m : Int) (w : World) (hm : w.cell? ⟨0, 0, none⟩ = some (.int .i64 m)) (hs : s.size < 4294967281) :
    Calls Tryd.prog 124 #[.string s, .int .i64 most] w fun e w' => e = .returned (.tuple #[.string ⟨#[]⟩, .string ⟨#[]⟩, .int .i64 2]) ∧ ∃ n, w' = w.drewN n := by
  obtain ⟨a, ha⟩ : ∃ a : ByteArray, a.data.toList = s.data.toList.take k := ⟨⟨(s.data.toList.take k).toArray⟩, rfl⟩
  obtain ⟨b, hb⟩ : ∃ b : ByteArray, b.data.toList = s.data.toList.drop (k + 2) := ⟨⟨(s.data.toList.drop (k + 2)).toArray⟩, rfl⟩
  have HC : Hid (Lib.cut s.data.toList (⟨#[13, 10]⟩ : ByteArray).data.toList = (a.data.toList, b.data.toList, true)) := by
    show _ = _
    rw [ha, hb]; exact cut_yes _ _ k h
  have hr := Lib.index_room s.data.toList [13, 10] (by omega)
  have has : a.size = k := by rw [← size_list, ha, List.length_take, size_list]; simp at hr; omega
  have HM : Hid (w.cell? ⟨0, 0, none⟩ = some (.int .i64 m)) := hm
  have hd : ¬ a.size ≤ most := by omega
  clear hm h ha hb hr has
  go_enter Tryd.func124, Tryd.ntmps124
  go_wp2_with fail
  refine (scut_at s _ a b true HC.out m _ HM.out hs).mono ?_
  rintro e w1 ⟨rfl, nd, rfl⟩
  go_wp2_with fail
  go_ret3
  exact ⟨rfl, nd, rfl⟩

set_option maxHeartbeats 1000000 in
set_option maxRecDepth 100000 in
theorem cutLine_of (s a b : ByteArray) (most : Nat) (ha : a.size ≤ most) (w : World)
    (hc : ∀ W : World, W = w → Calls Tryd.prog 135 #[.string s, .string ⟨#[13, 10]⟩] W fun e w' => e = .returned (.tuple #[.string a, .string b, .bool true]) ∧ ∃ n, w' = W.drewN n) :
    Calls Tryd.prog 124 #[.string s, .int .i64 most] w fun e w' => e = .returned (.tuple #[.string a, .string b, .int .i64 0]) ∧ ∃ n, w' = w.drewN n := by
  go_enter Tryd.func124, Tryd.ntmps124
  go_wp2_with fail
  refine (hc _ rfl).mono ?_
  rintro e w1 ⟨rfl, nd, rfl⟩
  go_wp2_with fail
  go_ret3
  exact ⟨rfl, nd, rfl⟩
theorem cutLine_yes (s a b : ByteArray) (most k : Nat) (h : Lib.index s.data.toList [13, 10] = k) (hk : k ≤ most) (ha : a.data.toList = s.data.toList.take k) (hb : b.data.toList = s.data.toList.drop (k + 2)) (m : Int) (w : World) (hm : w.cell? ⟨0, 0, none⟩ = some (.int .i64 m)) (hs : s.size < 4294967281) :
    Calls Tryd.prog 124 #[.string s, .int .i64 most] w fun e w' => e = .returned (.tuple #[.string a, .string b, .int .i64 0]) ∧ ∃ n, w' = w.drewN n := by
  have has : a.size ≤ most := by rw [← size_list, ha, List.length_take]; omega
  refine cutLine_of s a b most has w fun W hW => ?_
  subst hW
  refine scut_at s _ a b true ?_ m _ hm hs
  rw [ha, hb]; exact cut_yes _ _ k h
end Go.Proofs.YtofafonppajfkaaDoor
