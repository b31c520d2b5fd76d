/-
  The walk through SpanMerges: it answers true and turns nothing that was there; a list is no longer than Go allows.
-/
import Derived.Test.YtkmbhgbmdeoppaaWSmrg
import Derived.Test.YtkmbhgbmdeoppaaWRMg
import Derived.Test.YtkmbhgbmdeoppaaWEqC
namespace Go.Proofs.Ytkmbhgbmdeoppaa
open Go.RowKit

set_option maxHeartbeats 2000000 in
set_option maxRecDepth 100000 in
theorem walkSpanMerges (a0 : Value) (l0 : List Wn) (w : World) (z0 : Wl w a0 l0) (_m0 : WfW l0) (b0 : l0.length ≤ 8796093021952) :
    Calls Try.prog 4 #[a0] w fun e w' => e = .returned (.bool true) ∧ Below w.heap.size w w' := by
  have HF : Hid (Wl w a0 l0) := z0
  obtain ⟨m, hm⟩ : ∃ m, mrgL l0 = m := ⟨_, rfl⟩
  have HM : Hid (mrgL l0 = m) := hm
  clear z0 hm
  go_enter Try.func4, Try.ntmps4
  go_wp2_with fail
  refine (smerge_at _ l0 _ HF.out b0).mono ?_
  rintro e w1 ⟨v1, rfl, ho1, hb1⟩
  rw [HM.out] at ho1
  have HW1 : Hid (Wl w1 v1 m) := Wl.own ho1
  have HB1 : Hid (Below w.heap.size w w1) := hb1
  have HF1 : Hid (Wl w1 a0 l0) := HF.out.below hb1
  clear ho1 hb1
  go_wp2_with fail
  refine (rsmerge_any _ l0 _ HF1.out b0).mono ?_
  rintro e w2 ⟨v2, rfl, ho2, hb2⟩
  rw [HM.out] at ho2
  have HW2 : Hid (Wl w2 v2 m) := Wl.own ho2
  have HW3 : Hid (Wl w2 v1 m) := HW1.out.below hb2
  have HB2 : Hid (Below w.heap.size w w2) := HB1.out.trans (hb2.mono HB1.out.size)
  clear ho2 hb2
  go_wp2_with fail
  refine (eqC_same _ _ m _ HW3.out HW2.out).mono ?_
  rintro e w3 ⟨rfl, hb3⟩
  have HB3 : Hid (Below w.heap.size w w3) := HB2.out.trans (hb3.mono HB2.out.size)
  clear hb3
  go_wp2_with fail
  go_ret
  exact ⟨by first | rfl | simp, HB3.out⟩
end Go.Proofs.Ytkmbhgbmdeoppaa
