/-
  What the function that takeText of package body hands back answers of a byte.
-/
import Derived.Test.YtofafonppajfkaaDoorWDs1
import Derived.Deep.RegionHeld3
namespace Go.Proofs.YtofafonppajfkaaDoor
open Go.RowKit

def crN (c : UInt8) : Option St := if c = 13 then some .lf else none
def lfN (c : UInt8) : Option St := if c = 10 then some (.num 0 0) else none
set_option maxHeartbeats 4000000 in
set_option maxRecDepth 100000 in
theorem text1_cr (c : UInt8) (f : Value) (w : World) (h : StepV w f .crlf) (pd : Value) :
    ∃ lb, f = .func (.func 126) #[] lb ∧ Calls Tryd.prog 126 (#[pd, .int .u8 (c.toNat : Int)] ++ lb) w fun e w' => Nx w w' e (crN c) := by
  obtain ⟨a, b, k, d, hf, ha, hb, hk, hd⟩ := h
  refine ⟨_, hf, ?_⟩
  show Calls Tryd.prog 126 #[pd, .int .u8 (c.toNat : Int), ptr a, ptr b] w _
  have ha1 := cellH ha
  have hb1 := cellH hb
  have HK : Hid (w.heap[k]? = some (.cells #[.int .i64 0] 3)) := hk
  have HD : Hid (w.heap[d]? = some (.cells #[.int .i64 0] 3)) := hd
  have hc : c.toNat < 256 := c.toNat_lt
  clear hf ha hb hk hd
  by_cases h13 : (c.toNat : Int) = 13
  · have hc13 : c = 13 := (u8_is (k := 13) (by decide)).1 (by omega)
    have HR : Hid (crN c = some .lf) := by show _ = _; unfold crN; rw [if_pos hc13]
    have h13' : ((c.toNat : Int) != 13) = false := by rw [h13]; rfl
    have h13'' : ((c.toNat : Int) != (((⟨#[13, 10]⟩ : ByteArray)[0]'(by decide)).toNat : Int)) = false := h13'
    clear hc13 h13 h13'
    go_enter Tryd.func126, Tryd.ntmps126
    go_wp2_with fail
    go_region_held3 (fun w' => w'.cell? ⟨a, 0, none⟩ = some (.string ⟨#[13, 10]⟩) ∧ w'.cell? ⟨b, 0, none⟩ = some (.func (.func 56) #[] #[ptr k, ptr d])) (go_keep) (first | (go_at_call 103; refine (mkText _ _ _ _ _).mono ?_; rintro e w3 ⟨a', b', rfl, ha', hb', hbl⟩; have hk1 : w3.cell? ⟨a, 0, none⟩ = some (.string ⟨#[13, 10]⟩) := (hbl.cell (p := ⟨a, 0, none⟩) (cell_in ha1)).trans ha1; have hk2 : w3.cell? ⟨b, 0, none⟩ = some (.func (.func 56) #[] #[ptr k, ptr d]) := (hbl.cell (p := ⟨b, 0, none⟩) (cell_in hb1)).trans hb1))
    all_goals
      go_wp2_with fail
      go_ret2
      rw [HR.out]
      exact ⟨(Below.refl _ w).drew.trans hbl, _, rfl, a', b', k, d, rfl, ha', hb', KeepC.below hbl _ _ _ (.inl rfl) HK.out, KeepC.below hbl _ _ _ (.inl rfl) HD.out⟩
  · have hn13 : c ≠ 13 := by rintro rfl; simp at h13
    have HR : Hid (crN c = none) := by show _ = _; unfold crN; rw [if_neg hn13]
    have h13' : ((c.toNat : Int) != 13) = true := by simp [h13]
    have h13'' : ((c.toNat : Int) != (((⟨#[13, 10]⟩ : ByteArray)[0]'(by decide)).toNat : Int)) = true := h13'
    clear hn13 h13 h13'
    go_enter Tryd.func126, Tryd.ntmps126
    go_wp2_with fail
    go_ret2
    rw [HR.out]
    exact ⟨Below.refl _ _, rfl⟩
set_option maxHeartbeats 4000000 in
set_option maxRecDepth 100000 in
theorem text1_lf (c : UInt8) (f : Value) (w : World) (h : StepV w f .lf) (pd : Value) :
    ∃ lb, f = .func (.func 126) #[] lb ∧ Calls Tryd.prog 126 (#[pd, .int .u8 (c.toNat : Int)] ++ lb) w fun e w' => Nx w w' e (lfN c) := by
  obtain ⟨a, b, k, d, hf, ha, hb, hk, hd⟩ := h
  refine ⟨_, hf, ?_⟩
  show Calls Tryd.prog 126 #[pd, .int .u8 (c.toNat : Int), ptr a, ptr b] w _
  have ha1 := cellH ha
  have hb1 := cellH hb
  have HK : Hid (w.heap[k]? = some (.cells #[.int .i64 0] 3)) := hk
  have HD : Hid (w.heap[d]? = some (.cells #[.int .i64 0] 3)) := hd
  have hc : c.toNat < 256 := c.toNat_lt
  clear hf ha hb hk hd
  by_cases h13 : (c.toNat : Int) = 10
  · have hc13 : c = 10 := (u8_is (k := 10) (by decide)).1 (by omega)
    have HR : Hid (lfN c = some (.num 0 0)) := by show _ = _; unfold lfN; rw [if_pos hc13]
    have h13' : ((c.toNat : Int) != 10) = false := by rw [h13]; rfl
    have h13'' : ((c.toNat : Int) != (((⟨#[10]⟩ : ByteArray)[0]'(by decide)).toNat : Int)) = false := h13'
    clear hc13 h13 h13'
    go_enter Tryd.func126, Tryd.ntmps126
    go_wp2_with fail
    go_ret2
    rw [HR.out]
    exact ⟨Below.refl _ _, _, rfl, k, d, rfl, HK.out, HD.out⟩
  · have hn13 : c ≠ 10 := by rintro rfl; simp at h13
    have HR : Hid (lfN c = none) := by show _ = _; unfold lfN; rw [if_neg hn13]
    have h13' : ((c.toNat : Int) != 10) = true := by simp [h13]
    have h13'' : ((c.toNat : Int) != (((⟨#[10]⟩ : ByteArray)[0]'(by decide)).toNat : Int)) = true := h13'
    clear hn13 h13 h13'
    go_enter Tryd.func126, Tryd.ntmps126
    go_wp2_with fail
    go_ret2
    rw [HR.out]
    exact ⟨Below.refl _ _, rfl⟩
end Go.Proofs.YtofafonppajfkaaDoor
