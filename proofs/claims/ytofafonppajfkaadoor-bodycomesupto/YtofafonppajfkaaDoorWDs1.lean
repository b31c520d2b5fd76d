/-
  What the function that takeNumber of package body hands back answers of a byte.
-/
import Derived.Test.YtofafonppajfkaaDoorWDst
namespace Go.Proofs.YtofafonppajfkaaDoor
open Go.RowKit

/-- What a function value answers that neither reads nor writes the Decoder. -/
def Nx (w w' : World) (e : Ending) (r : Option St) : Prop :=
  Below w.heap.size w w' ∧ match r with
    | none => e = .returned (.tuple #[.nilFunc, .int .i64 3])
    | some st => ∃ f, e = .returned (.tuple #[f, .int .i64 0]) ∧ StepV w' f st
def numN (d n : Nat) (c : UInt8) : Option St :=
  match hv c with
  | some v => if d < 4 then some (.num (d + 1) (n * 16 + v)) else none
  | none => if 0 < d ∧ c = 59 then some (.ext 0 n) else if 0 < d ∧ c = 13 then some (.endn n) else none
theorem u8_is {c : UInt8} {k : Nat} (hk : k < 256) : c.toNat = k ↔ c = UInt8.ofNat k := by
  constructor
  · intro h; rw [← h]; simp
  · rintro rfl; simp; omega
theorem hv_no59 : hv 59 = none := by decide
theorem hv_no13 : hv 13 = none := by decide

set_option maxHeartbeats 4000000 in
set_option maxRecDepth 100000 in
theorem number1_at (d n : Nat) (c : UInt8) (a b : Nat) (pd : Value) (w : World) (hd : d ≤ 4) (hn : n < 65536) (ha : w.cell? ⟨a, 0, none⟩ = some (.int .i64 (d : Int))) (hb : w.cell? ⟨b, 0, none⟩ = some (.int .i64 (n : Int))) :
    Calls Tryd.prog 56 #[pd, .int .u8 (c.toNat : Int), ptr a, ptr b] w fun e w' => Nx w w' e (numN d n c) := by
  have hc : c.toNat < 256 := c.toNat_lt
  cases hv1 : hv c with
  | some v =>
    have hvl := hv_lt c v hv1
    have HV : Hid (hv c = some v) := hv1
    have h59 : ((c.toNat : Int) == 59) = false := by
      rw [beq_eq_false_iff_ne]; intro h
      have : c = 59 := (u8_is (k := 59) (by decide)).1 (by omega)
      rw [this, hv_no59] at hv1; cases hv1
    have h13 : ((c.toNat : Int) == 13) = false := by
      rw [beq_eq_false_iff_ne]; intro h
      have : c = 13 := (u8_is (k := 13) (by decide)).1 (by omega)
      rw [this, hv_no13] at hv1; cases hv1
    clear hv1
    by_cases h4 : (d : Int) < 4
    · have HR : Hid (numN d n c = some (.num (d + 1) (n * 16 + v))) := by show _ = _; unfold numN; rw [HV.out]; simp only; rw [if_pos (by omega)]
      go_enter Tryd.func56, Tryd.ntmps56
      go_wp2_with fail
      refine (hexDigit_any c _).mono ?_
      rintro e w1 ⟨rfl, rfl⟩
      rw [HV.out]
      go_wp2_with fail
      refine (mkNumber _ _ (d + 1) (n * 16 + v) (by go_num) (by go_num) _).mono ?_
      rintro e w2 ⟨f, rfl, hst, hbl⟩
      go_wp2_with fail
      go_ret2
      rw [HR.out]
      exact ⟨hbl, f, rfl, hst⟩
    · have HR : Hid (numN d n c = none) := by show _ = _; unfold numN; rw [HV.out]; simp only; rw [if_neg (by omega)]
      go_enter Tryd.func56, Tryd.ntmps56
      go_wp2_with fail
      refine (hexDigit_any c _).mono ?_
      rintro e w1 ⟨rfl, rfl⟩
      rw [HV.out]
      go_wp2_with fail
      all_goals
        go_ret2
        rw [HR.out]
        exact ⟨Below.refl _ _, rfl⟩
  | none =>
    have HV : Hid (hv c = none) := hv1
    clear hv1
    by_cases h0 : 0 < (d : Int)
    · by_cases h59 : (c.toNat : Int) = 59
      · have hc59 : c = 59 := (u8_is (k := 59) (by decide)).1 (by omega)
        have HR : Hid (numN d n c = some (.ext 0 n)) := by show _ = _; unfold numN; rw [HV.out]; simp only; rw [if_pos ⟨by omega, hc59⟩]
        have h59' : ((c.toNat : Int) == 59) = true := by rw [h59]; rfl
        clear hc59 h59
        go_enter Tryd.func56, Tryd.ntmps56
        go_wp2_with fail
        refine (hexDigit_any c _).mono ?_
        rintro e w1 ⟨rfl, rfl⟩
        rw [HV.out]
        go_wp2_with fail
        refine (mkExtra _ _ 0 n (by go_num) (by go_num) _).mono ?_
        rintro e w2 ⟨f, rfl, hst, hbl⟩
        go_wp2_with fail
        go_ret2
        rw [HR.out]
        exact ⟨hbl, f, rfl, hst⟩
      · have hn59 : c ≠ 59 := by rintro rfl; simp at h59
        have h59' : ((c.toNat : Int) == 59) = false := beq_eq_false_iff_ne.2 h59
        by_cases h13 : (c.toNat : Int) = 13
        · have hc13 : c = 13 := (u8_is (k := 13) (by decide)).1 (by omega)
          have HR : Hid (numN d n c = some (.endn n)) := by show _ = _; unfold numN; rw [HV.out]; simp only; rw [if_neg (fun x => hn59 x.2), if_pos ⟨by omega, hc13⟩]
          have h13' : ((c.toNat : Int) == 13) = true := by rw [h13]; rfl
          clear hc13 hn59 h59 h13
          go_enter Tryd.func56, Tryd.ntmps56
          go_wp2_with fail
          refine (hexDigit_any c _).mono ?_
          rintro e w1 ⟨rfl, rfl⟩
          rw [HV.out]
          go_wp2_with fail
          refine (mkEnd _ n (by go_num) _).mono ?_
          rintro e w2 ⟨f, rfl, hst, hbl⟩
          go_wp2_with fail
          go_ret2
          rw [HR.out]
          exact ⟨hbl, f, rfl, hst⟩
        · have hn13 : c ≠ 13 := by rintro rfl; simp at h13
          have h13' : ((c.toNat : Int) == 13) = false := beq_eq_false_iff_ne.2 h13
          have HR : Hid (numN d n c = none) := by show _ = _; unfold numN; rw [HV.out]; simp only; rw [if_neg (fun x => hn59 x.2), if_neg (fun x => hn13 x.2)]
          clear hn13 hn59 h59 h13
          go_enter Tryd.func56, Tryd.ntmps56
          go_wp2_with fail
          refine (hexDigit_any c _).mono ?_
          rintro e w1 ⟨rfl, rfl⟩
          rw [HV.out]
          go_wp2_with fail
          all_goals
            go_ret2
            rw [HR.out]
            exact ⟨Below.refl _ _, rfl⟩
    · have HR : Hid (numN d n c = none) := by show _ = _; unfold numN; rw [HV.out]; simp only; rw [if_neg (by omega), if_neg (by omega)]
      go_enter Tryd.func56, Tryd.ntmps56
      go_wp2_with fail
      refine (hexDigit_any c _).mono ?_
      rintro e w1 ⟨rfl, rfl⟩
      rw [HV.out]
      go_wp2_with fail
      all_goals
        go_ret2
        rw [HR.out]
        exact ⟨Below.refl _ _, rfl⟩
end Go.Proofs.YtofafonppajfkaaDoor
