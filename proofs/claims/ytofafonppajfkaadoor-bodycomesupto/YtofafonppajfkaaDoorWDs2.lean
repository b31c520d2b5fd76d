/-
  What the functions that takeExtra, endNumber and takeText of package body hand back answer of a byte.
-/
import Derived.Test.YtofafonppajfkaaDoorWDs1
import Derived.Test.YtofafonppajfkaaDoorWPlainS
import Derived.Test.YtofafonppajfkaaDoorSpecF
import Derived.Deep.RegionHeld3
namespace Go.Proofs.YtofafonppajfkaaDoor
open Go.RowKit

def extN (k n : Nat) (c : UInt8) : Option St := if c = 13 then some (.endn n) else if k < 50 ∧ plainB c = true then some (.ext (k + 1) n) else none
theorem plain_one (c : UInt8) : allPlain [c] = plainB c := by simp [allPlain]

set_option maxHeartbeats 4000000 in
set_option maxRecDepth 100000 in
theorem extra1_at (k n : Nat) (c : UInt8) (a b : Nat) (pd : Value) (w : World) (hk : k ≤ 50) (ha : w.cell? ⟨a, 0, none⟩ = some (.int .i64 (n : Int))) (hb : w.cell? ⟨b, 0, none⟩ = some (.int .i64 (k : Int))) :
    Calls Tryd.prog 77 #[pd, .int .u8 (c.toNat : Int), ptr a, ptr b] w fun e w' => Nx w w' e (extN k n c) := by
  have hc : c.toNat < 256 := c.toNat_lt
  have has : a < w.heap.size := cell_in ha
  have hbs : b < w.heap.size := cell_in hb
  by_cases h13 : (c.toNat : Int) = 13
  · have hc13 : c = 13 := (u8_is (k := 13) (by decide)).1 (by omega)
    have HR : Hid (extN k n c = some (.endn n)) := by show _ = _; unfold extN; rw [if_pos hc13]
    have h13' : ((c.toNat : Int) == 13) = true := by rw [h13]; rfl
    clear hc13 h13
    go_enter Tryd.func77, Tryd.ntmps77
    go_wp2_with fail
    refine (mkEnd _ n (by go_num) _).mono ?_
    rintro e w2 ⟨f, rfl, hst, hbl⟩
    go_wp2_with fail
    go_ret2
    rw [HR.out]
    exact ⟨hbl, f, rfl, hst⟩
  · have hn13 : c ≠ 13 := by rintro rfl; simp at h13
    have h13' : ((c.toNat : Int) == 13) = false := beq_eq_false_iff_ne.2 h13
    clear h13
    by_cases h50 : (k : Int) < 50
    · have hcv := run_convert_bytes_back (P := Tryd.prog) (w.alloc (.cells #[.int .u8 (c.toNat : Int)] 5)) 52 9 5 ⟨w.heap.size, 0, none⟩ 1 [c] Tryd.underlying52 Tryd.underlying5 Tryd.underlying9 (fun j hj => by
        have hj' : j < 1 := hj
        obtain rfl : j = 0 := by omega
        rw [show (⟨w.heap.size, 0, none⟩ : Addr).add 0 = ⟨w.heap.size, 0, none⟩ from rfl, World.cell?_alloc_at _ _ _ _ (by simp)]
        simp)
      rw [show ([c] : List UInt8).length = 1 from rfl] at hcv
      have HS : Hid ((⟨[c].toArray⟩ : ByteArray).size ≤ maxLen) := by show _ ≤ _; rw [show (⟨[c].toArray⟩ : ByteArray).size = 1 from rfl]; decide
      cases hp : plainB c
      · have HR : Hid (extN k n c = none) := by show _ = _; unfold extN; rw [if_neg hn13, if_neg (by rw [hp]; simp)]
        have HP : Hid (allPlain (⟨[c].toArray⟩ : ByteArray).data.toList = false) := by show _ = _; rw [← hp]; exact plain_one c
        clear hp hn13
        go_enter Tryd.func77, Tryd.ntmps77
        go_wp2_with fail
        refine (isPlainS_is _ false HP.out _ HS.out).mono ?_
        rintro e w1 ⟨rfl, rfl⟩
        go_wp2_with fail
        go_ret2
        rw [HR.out]
        exact ⟨(Below.refl _ w).alloc (Nat.le_refl _) _, rfl⟩
      · have HR : Hid (extN k n c = some (.ext (k + 1) n)) := by show _ = _; unfold extN; rw [if_neg hn13, if_pos ⟨by omega, hp⟩]
        have HP : Hid (allPlain (⟨[c].toArray⟩ : ByteArray).data.toList = true) := by show _ = _; rw [← hp]; exact plain_one c
        clear hp hn13
        go_enter Tryd.func77, Tryd.ntmps77
        go_wp2_with fail
        refine (isPlainS_is _ true HP.out _ HS.out).mono ?_
        rintro e w1 ⟨rfl, hw1⟩
        have hB : Below w.heap.size w w1 := by rw [hw1]; exact (Below.refl _ w).alloc (Nat.le_refl _) _
        have ha1 : w1.cell? ⟨a, 0, none⟩ = some (.int .i64 (n : Int)) := (hB.cell (p := ⟨a, 0, none⟩) has).trans ha
        have hb1' : w1.cell? ⟨b, 0, none⟩ = some (.int .i64 (k : Int)) := (hB.cell (p := ⟨b, 0, none⟩) hbs).trans hb
        have hsz := hB.size
        clear hw1 ha hb hcv
        go_wp2_with fail
        refine (mkExtra _ _ (k + 1) n (by go_num) (by go_num) _).mono ?_
        rintro e w2 ⟨f, rfl, hst, hbl⟩
        go_wp2_with fail
        go_ret2
        rw [HR.out]
        exact ⟨hB.trans (hbl.mono hsz), f, rfl, hst⟩
    · have HR : Hid (extN k n c = none) := by show _ = _; unfold extN; rw [if_neg hn13, if_neg (by omega)]
      clear hn13
      go_enter Tryd.func77, Tryd.ntmps77
      go_wp2_with fail
      go_ret2
      rw [HR.out]
      exact ⟨Below.refl _ _, rfl⟩

def EndQ (n : Nat) (c : UInt8) (len : Nat) (w w' : World) (e : Ending) : Prop := Below w.heap.size w w' ∧
      (c ≠ 10 → e = .returned (.tuple #[.nilFunc, .int .i64 3])) ∧ (c = 10 → 5000 < len + n → e = .returned (.tuple #[.nilFunc, .int .i64 2])) ∧
      (c = 10 → ¬ 5000 < len + n → ∃ f, e = .returned (.tuple #[f, .int .i64 0]) ∧ StepV w' f (if n = 0 then .fld 0 else .byt n))
set_option maxHeartbeats 4000000 in
set_option maxRecDepth 100000 in
theorem end1_at (n : Nat) (c : UInt8) (a bd len cap : Nat) (ad : Option Addr) (w : World) (hn : n < 65536) (hl : len ≤ 5000) (ha : w.cell? ⟨a, 0, none⟩ = some (.int .i64 (n : Int))) (hb : w.cell? ⟨bd, 1, none⟩ = some (.slice ad len cap)) :
    Calls Tryd.prog 79 #[ptr bd, .int .u8 (c.toNat : Int), ptr a] w fun e w' => EndQ n c len w w' e := by
  have hwr : IntKind.i64.wrap ((len : Int) + (n : Int)) = (len : Int) + (n : Int) := wrap_small _ (by omega) (by omega)
  have hc : c.toNat < 256 := c.toNat_lt
  by_cases h10 : (c.toNat : Int) = 10
  · have hc10 : c = 10 := (u8_is (k := 10) (by decide)).1 (by omega)
    have HC : Hid (c = 10) := hc10
    have h10' : ((c.toNat : Int) != 10) = false := by rw [h10]; rfl
    clear hc10 h10
    by_cases hbig : 5000 < (len : Int) + (n : Int)
    · go_enter Tryd.func79, Tryd.ntmps79
      go_wp2_with fail
      go_quiet (fail)
      all_goals
        go_wp2_with fail
        go_ret2
        exact ⟨drewN_below _ _ _, fun h => absurd HC.out h, fun _ _ => rfl, fun _ h => absurd hbig (by omega)⟩
    · by_cases hn0 : (n : Int) = 0
      · have HN : Hid (n = 0) := by show _ = _; omega
        have hn0' : ((n : Int) == 0) = true := by rw [hn0]; rfl
        clear hn0
        go_enter Tryd.func79, Tryd.ntmps79
        go_wp2_with fail
        go_quiet (fail)
        all_goals
          go_wp2_with fail
          refine (mkFields _ 0 (by go_num) _).mono ?_
          rintro e w2 ⟨f, rfl, hst, hbl⟩
          go_wp2_with fail
          go_ret2
          exact ⟨(drewN_below _ _ _).trans (hbl.mono (by rw [drewN_size]; exact Nat.le_refl _)), fun h => absurd HC.out h, fun _ h => absurd h (by omega), fun _ _ => ⟨f, rfl, by rw [if_pos HN.out]; exact hst⟩⟩
      · have hn0' : ((n : Int) == 0) = false := beq_eq_false_iff_ne.2 hn0
        have HN : Hid (n ≠ 0) := by show _ ≠ _; omega
        clear hn0
        go_enter Tryd.func79, Tryd.ntmps79
        go_wp2_with fail
        go_quiet (fail)
        all_goals
          go_wp2_with fail
          refine (mkBytes _ n (by go_num) _).mono ?_
          rintro e w2 ⟨f, rfl, hst, hbl⟩
          go_wp2_with fail
          go_ret2
          exact ⟨(drewN_below _ _ _).trans (hbl.mono (by rw [drewN_size]; exact Nat.le_refl _)), fun h => absurd HC.out h, fun _ h => absurd h (by omega), fun _ _ => ⟨f, rfl, by rw [if_neg HN.out]; exact hst⟩⟩
  · have HC : Hid (c ≠ 10) := by show _ ≠ _; rintro rfl; simp at h10
    have h10' : ((c.toNat : Int) != 10) = true := by simp [h10]
    clear h10
    go_enter Tryd.func79, Tryd.ntmps79
    go_wp2_with fail
    go_ret2
    exact ⟨Below.refl _ _, fun _ => rfl, fun h => absurd h HC.out, fun h => absurd h HC.out⟩
end Go.Proofs.YtofafonppajfkaaDoor
