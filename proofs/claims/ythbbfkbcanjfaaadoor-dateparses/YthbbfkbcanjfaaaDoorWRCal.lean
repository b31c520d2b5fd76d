/-
  What the calendar of the document's answers computes: leap, monthDays, yearDays, outside, Days and Civil, each a contract over the program's text.
-/
import Derived.Test.YthbbfkbcanjfaaaDoorWCal
import Derived.Laws.Rows
import Derived.Lib.Buffer
namespace Go.Proofs.YthbbfkbcanjfaaaDoor
open Go.RowKit

set_option maxHeartbeats 400000 in
theorem rleap_any (y : Int) (w : World) (h1 : 1970 ≤ y) (h2 : y ≤ 10000) :
    Calls Tryd.prog 29 #[.int .i64 y] w fun e w' => e = .returned (.bool (lpB y)) ∧ w' = w := by
  have h0 : 0 ≤ y := by omega
  by_cases c : y % 400 = 0
  · have HL : Hid (lpB y = true) := lpB_yes (by omega) (.inr c)
    go_enter Tryd.func29, Tryd.ntmps29
    go_wp2
    go_ret
    exact ⟨ret_bool (by rw [HL.out]), rfl⟩
  · have c' : (y % 400 == 0) = false := by rw [beq_eq_false_iff_ne]; exact c
    by_cases b : y % 100 = 0
    · have HL : Hid (lpB y = false) := lpB_no (by omega)
      go_enter Tryd.func29, Tryd.ntmps29
      go_wp2
      go_ret
      exact ⟨ret_bool (by rw [HL.out]), rfl⟩
    · have b' : (y % 100 == 0) = false := by rw [beq_eq_false_iff_ne]; exact b
      by_cases a : y % 4 = 0
      · have HL : Hid (lpB y = true) := lpB_yes a (.inl b)
        go_enter Tryd.func29, Tryd.ntmps29
        go_wp2
        go_ret
        exact ⟨ret_bool (by rw [HL.out]; simpa using b), rfl⟩
      · have HL : Hid (lpB y = false) := lpB_no (by omega)
        have a' : (y % 4 == 0) = false := by rw [beq_eq_false_iff_ne]; exact a
        go_enter Tryd.func29, Tryd.ntmps29
        go_wp2
        go_ret
        exact ⟨ret_bool (by rw [HL.out]), rfl⟩

theorem outside_no (n a b : Int) (w : World) (h1 : a ≤ n) (h2 : n ≤ b) :
    Calls Tryd.prog 14 #[.int .i64 n, .int .i64 a, .int .i64 b] w fun e w' => e = .returned (.bool false) ∧ w' = w := by
  go_enter Tryd.func14, Tryd.ntmps14
  go_wp2
  go_ret
  exact ⟨ret_bool (by simp; omega), rfl⟩
theorem outside_yes (n a b : Int) (w : World) (h : n < a ∨ b < n) :
    Calls Tryd.prog 14 #[.int .i64 n, .int .i64 a, .int .i64 b] w fun e w' => e = .returned (.bool true) ∧ w' = w := by
  by_cases h1 : n < a
  · clear h
    go_enter Tryd.func14, Tryd.ntmps14
    go_wp2
    go_ret
    exact ⟨rfl, rfl⟩
  · have h2 : b < n := by omega
    clear h
    go_enter Tryd.func14, Tryd.ntmps14
    go_wp2
    go_ret
    exact ⟨rfl, rfl⟩

def mcells (f : Int) : Array Value := #[.int .i64 31, .int .i64 f, .int .i64 31, .int .i64 30, .int .i64 31, .int .i64 30, .int .i64 31, .int .i64 31, .int .i64 30, .int .i64 31, .int .i64 30, .int .i64 31]
def MDays (y : Int) (b : Nat) (w : World) : Prop := ∀ i : Nat, i < 12 → w.cell? ⟨b, i, none⟩ = some (.int .i64 (dim y (i + 1)))

theorem mdays_of {y : Int} {b : Nat} {w : World} (h : w.heap[b]? = some (.cells (mcells (28 + lp y)) 3 (0, 0))) : MDays y b w := by
  intro i hi
  rw [Lib.cell_of_heap h]
  rcases (show i = 0 ∨ i = 1 ∨ i = 2 ∨ i = 3 ∨ i = 4 ∨ i = 5 ∨ i = 6 ∨ i = 7 ∨ i = 8 ∨ i = 9 ∨ i = 10 ∨ i = 11 by omega) with rfl | rfl | rfl | rfl | rfl | rfl | rfl | rfl | rfl | rfl | rfl | rfl <;> simp [mcells, dim]

set_option maxHeartbeats 1000000 in
theorem rmonth_any (y : Int) (w : World) (h1 : 1970 ≤ y) (h2 : y ≤ 10000) :
    Calls Tryd.prog 30 #[.int .i64 y] w fun e w' => e = .returned (.slice (some ⟨w.heap.size, 0, none⟩) 12 12) ∧ MDays y w.heap.size w' ∧ w'.heap.size = w.heap.size + 1 ∧ Below w.heap.size w w' := by
  cases hl : lpB y
  · have HL : Hid (lpB y = false) := hl
    have h0 : (w.alloc (.cells (mcells 28) 3)).heap[w.heap.size]? = some (.cells (mcells 28) 3 (0, 0)) := heap_alloc_new _ _
    have HM : Hid (MDays y w.heap.size (w.alloc (.cells (mcells 28) 3))) := mdays_of (by rw [lp_of_false hl]; exact h0)
    clear hl h0
    go_enter Tryd.func30, Tryd.ntmps30
    go_wp2_with fail
    refine (rleap_any _ _ h1 h2).mono ?_
    rintro e w' ⟨rfl, rfl⟩
    rw [HL.out]
    go_wp2_with fail
    go_ret
    exact ⟨rfl, HM.out, by simp, (Below.refl _ w).alloc (Nat.le_refl _) _⟩
  · have HL : Hid (lpB y = true) := hl
    have h9 : (w.alloc (.cells (mcells 29) 3)).heap[w.heap.size]? = some (.cells (mcells 29) 3 (0, 0)) := heap_alloc_new _ _
    have HM : Hid (MDays y w.heap.size (w.alloc (.cells (mcells 29) 3))) := mdays_of (by rw [lp_of_true hl]; exact h9)
    clear hl h9
    go_enter Tryd.func30, Tryd.ntmps30
    go_wp2_with fail
    refine (rleap_any _ _ h1 h2).mono ?_
    rintro e w' ⟨rfl, rfl⟩
    rw [HL.out]
    go_wp2_with fail
    go_ret
    exact ⟨rfl, HM.out, by simp, (Below.refl _ w).alloc (Nat.le_refl _) _⟩

set_option maxHeartbeats 1000000 in
theorem ryear_any (y : Int) (w : World) (h1 : 1970 ≤ y) (h2 : y ≤ 10000) :
    Calls Tryd.prog 41 #[.int .i64 y] w fun e w' => e = .returned (.int .i64 (dby y)) ∧ w' = w := by
  go_enter Tryd.func41, Tryd.ntmps41
  go_wp2_with fail
  go_loop [3, 4] (fun n i => ∃ k : Int, 1970 ≤ k ∧ k ≤ y ∧ i = .int .i64 k ∧ n = .int .i64 (dby k)) (fun _ i => (10000 - intOf i).toNat)
  case atStart => exact ⟨1970, by omega, by omega, rfl, rfl⟩
  case round =>
    obtain ⟨k, hk1, hk2, rfl, rfl⟩ := hrel
    have hb := dby_bd k hk1 (by omega)
    have HS : Hid (dby (k + 1) = dby k + 365 + lp k) := dby_succ k
    by_cases hlt : k < y
    · cases hl : lpB k
      · have HL : Hid (lpB k = false) := hl
        have HP : Hid (lp k = 0) := lp_of_false hl
        clear hl
        go_wp2_with fail
        refine (rleap_any _ _ hk1 (by omega)).mono ?_
        rintro e w' ⟨rfl, rfl⟩
        rw [HL.out]
        go_wp2_with fail
        go_round
        case rel => exact ⟨k + 1, by omega, by omega, rfl, by rw [HS.out, HP.out, Int.add_zero]⟩
        case measure => simp [intOf]; omega
      · have HL : Hid (lpB k = true) := hl
        have HP : Hid (lp k = 1) := lp_of_true hl
        clear hl
        go_wp2_with fail
        refine (rleap_any _ _ hk1 (by omega)).mono ?_
        rintro e w' ⟨rfl, rfl⟩
        rw [HL.out]
        go_wp2_with fail
        go_round
        case rel => exact ⟨k + 1, by omega, by omega, rfl, by rw [HS.out, HP.out]⟩
        case measure => simp [intOf]; omega
    · obtain rfl : k = y := by omega
      go_wp2_with fail
      go_ret
      exact ⟨rfl, rfl⟩
end Go.Proofs.YthbbfkbcanjfaaaDoor
