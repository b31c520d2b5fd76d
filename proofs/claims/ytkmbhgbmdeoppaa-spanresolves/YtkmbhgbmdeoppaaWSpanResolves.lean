/-
  The walk through SpanResolves: it answers true and turns nothing that was there.
-/
import Derived.Test.YtkmbhgbmdeoppaaWSres
import Derived.Test.YtkmbhgbmdeoppaaWRRv
import Derived.Test.YtkmbhgbmdeoppaaWEqC
namespace Go.Proofs.Ytkmbhgbmdeoppaa
open Go.RowKit

set_option maxHeartbeats 2000000 in
set_option maxRecDepth 100000 in
theorem walkSpanResolves (a0 : Value) (l0 : List Wn) (a1 : Int) (w : World) (z0 : Wl w a0 l0) (_m0 : WfW l0) (_b0 : l0.length ≤ 8796093021952) (z1 : (Lit.int .i64 a1).wf = true) :
    Calls Try.prog 3 #[a0, .int .i64 a1] w fun e w' => e = .returned (.bool true) ∧ Below w.heap.size w w' := by
  have hz := wf_int z1
  have HF : Hid (Wl w a0 l0) := z0
  obtain ⟨m, c, hm⟩ : ∃ m c, rsSp l0 a1 = (m, c) := ⟨_, _, rfl⟩
  have HM : Hid (rsSp l0 a1 = (m, c)) := hm
  clear z0 z1 hm
  go_enter Try.func3, Try.ntmps3
  go_wp2_with fail
  refine (sres_at _ l0 a1 hz _ HF.out).mono ?_
  rintro e w1 ⟨v1, rfl, ho1, hb1⟩
  rw [HM.out] at ho1 ⊢
  have HW1 : Hid (Wl w1 v1 m) := Wl.own ho1
  have HB1 : Hid (Below w.heap.size w w1) := hb1
  have HF1 : Hid (Wl w1 a0 l0) := HF.out.below hb1
  clear ho1 hb1
  go_wp2_with fail
  refine (rsres_at _ l0 a1 hz _ HF1.out).mono ?_
  rintro e w2 ⟨v2, rfl, ho2, hb2⟩
  rw [HM.out] at ho2 ⊢
  have HW2 : Hid (Wl w2 v2 m) := Wl.own ho2
  have HW3 : Hid (Wl w2 v1 m) := HW1.out.below hb2
  have HB2 : Hid (Below w.heap.size w w2) := HB1.out.trans (hb2.mono HB1.out.size)
  clear ho2 hb2
  go_wp2_with fail
  refine (eqC_same _ _ m _ HW3.out HW2.out).mono ?_
  rintro e w3 ⟨rfl, hb3⟩
  have HB3 : Hid (Below w.heap.size w w3) := HB2.out.trans (hb3.mono HB2.out.size)
  clear hb3
  go_wp2_with fail
  go_ret
  exact ⟨by first | rfl | simp, HB3.out⟩
end Go.Proofs.Ytkmbhgbmdeoppaa
