/-
  What chr and Digits of the document's answers compute, each a contract over the program's text.
-/
import Derived.Test.YtofafonppajfkabDoorSpecTxt
import Derived.Test.YtofafonppajfkabDoorRows
import Derived.Test.YtofafonppajfkabDoorShelf
import Derived.Laws.Rows
import Derived.Lib.Buffer
import Derived.Lib.ItoaLen
import Derived.Laws.IdiomStrings
namespace Go.Proofs.YtofafonppajfkabDoor
open Go.RowKit

theorem mk_data (s : ByteArray) (l : List UInt8) (h : s.data.toList = l) : s = ⟨l.toArray⟩ := by
  apply ByteArray.ext
  rw [← h, Array.toArray_toList]
theorem app_list (a b : ByteArray) : (a ++ b).data.toList = a.data.toList ++ b.data.toList := by
  rw [ByteArray.data_append, Array.toList_append]

set_option maxHeartbeats 1000000 in
set_option maxRecDepth 100000 in
theorem rchr_any (u : Nat) (h : u < 256) (w : World) :
    Calls Tryd.prog 20 #[.int .i64 (u : Int)] w fun e w' => e = .returned (.string ⟨#[UInt8.ofNat u]⟩) ∧ Below w.heap.size w w' := by
  have h1 : (u : Int) < 256 := by omega
  have h0 : (0 : Int) ≤ (u : Int) := by omega
  have hcv := run_convert_bytes_back (P := Tryd.prog) (w.alloc (.cells #[.int .u8 (u : Int)] 5)) 46 9 5 ⟨w.heap.size, 0, none⟩ 1 [UInt8.ofNat u] Tryd.underlying46 Tryd.underlying5 Tryd.underlying9 (fun j hj => by
    have hj' : j < 1 := hj
    obtain rfl : j = 0 := by omega
    rw [show (⟨w.heap.size, 0, none⟩ : Addr).add 0 = ⟨w.heap.size, 0, none⟩ from rfl, World.cell?_alloc_at _ _ _ _ (by simp)]
    simp [Nat.mod_eq_of_lt h])
  rw [show ([UInt8.ofNat u] : List UInt8).length = 1 from rfl] at hcv
  go_enter Tryd.func20, Tryd.ntmps20
  go_wp2_with fail
  go_ret
  exact ⟨rfl, (Below.refl _ w).alloc (Nat.le_refl _) _⟩

theorem dec_len (u : Nat) (h : u ≤ 9223372036854775807) : (Lib.decDigits u).length ≤ 21 := by
  have := Lib.itoa_length_le (u : Int) (by omega) (by omega)
  rw [Lib.itoa, if_neg (by omega)] at this
  simpa using this

set_option maxHeartbeats 1000000 in
set_option maxRecDepth 100000 in
theorem rdigits_any (N : Nat) : ∀ (u : Nat) (_ : u ≤ N) (_ : u ≤ 9223372036854775807) (w : World),
    Calls Tryd.prog 14 #[.int .i64 (u : Int)] w fun e w' => e = .returned (.string ⟨(Lib.decDigits u).toArray⟩) ∧ Below w.heap.size w w' := by
  induction N with
  | zero =>
    intro u h1 h2 w
    obtain rfl : u = 0 := by omega
    have c := rchr_any 48 (by omega) w
    go_enter Tryd.func14, Tryd.ntmps14
    go_wp2_with fail
    refine c.mono ?_
    rintro e w1 ⟨rfl, hb⟩
    go_wp2_with fail
    go_ret
    exact ⟨ret_str (by rw [Lib.decDigits_one (by omega)]; rfl), hb⟩
  | succ N ih =>
    intro u h1 h2 w
    by_cases h10 : u < 10
    · have c := rchr_any (48 + u) (by omega) w
      have hi : (u : Int) < 10 := by omega
      have HL : Hid (Lib.decDigits u = [UInt8.ofNat (48 + u)]) := Lib.decDigits_one h10
      rw [Int.natCast_add] at c
      clear ih
      go_enter Tryd.func14, Tryd.ntmps14
      go_wp2_with fail
      refine c.mono ?_
      rintro e w1 ⟨rfl, hb⟩
      go_wp2_with fail
      go_ret
      exact ⟨ret_str (by rw [HL.out, UInt8.ofNat_add]; rfl), hb⟩
    · have c1 := ih (u / 10) (by omega) (by omega) w
      have c2 := rchr_any (48 + u % 10) (by omega)
      have hlen := dec_len (u / 10) (by omega)
      obtain ⟨t, ht⟩ : ∃ t : ByteArray, t = ⟨(Lib.decDigits (u / 10)).toArray⟩ := ⟨_, rfl⟩
      rw [← ht] at c1
      have hts : t.size ≤ 21 := by rw [← size_list, ht]; exact hlen
      have HL : Hid (Lib.decDigits u = t.data.toList ++ [UInt8.ofNat (48 + u % 10)]) := by
        show Lib.decDigits u = _
        rw [Lib.decDigits, dif_neg h10, ht]
      have hi : ¬ (u : Int) < 10 := by omega
      have hmx : (u : Int) ≤ 9223372036854775807 := by omega
      rw [Int.natCast_ediv] at c1
      clear ih ht hlen
      go_enter Tryd.func14, Tryd.ntmps14
      go_wp2_with fail
      refine c1.mono ?_
      rintro e w1 ⟨rfl, hb1⟩
      have c3 := c2 w1
      rw [Int.natCast_add, Int.natCast_emod] at c3
      clear c2
      go_wp2_with fail
      refine c3.mono ?_
      rintro e w2 ⟨rfl, hb2⟩
      have HB : Hid (Below w.heap.size w w2) := hb1.trans (hb2.mono hb1.size)
      clear hb1 hb2 c3
      go_wp2_with fail
      go_ret
      exact ⟨ret_str (mk_data _ _ (by rw [app_list, HL.out, UInt8.ofNat_add]; rfl)), HB.out⟩
end Go.Proofs.YtofafonppajfkabDoor
