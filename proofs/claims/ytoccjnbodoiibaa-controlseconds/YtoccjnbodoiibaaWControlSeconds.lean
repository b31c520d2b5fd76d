/-
  The walk through ControlSeconds: it answers true and turns nothing that was there; lists and texts are no longer than Go allows.
-/
import Derived.Test.YtoccjnbodoiibaaWKcF
import Derived.Test.YtoccjnbodoiibaaWRKs
namespace Go.Proofs.Ytoccjnbodoiibaa
open Go.RowKit

set_option maxHeartbeats 1000000 in
set_option maxRecDepth 100000 in
theorem walkControlSeconds (a0 : Value) (l0 : List (List UInt8 × Bool × List UInt8)) (a1 : ByteArray) (w : World) (z0 : Dl w a0 l0) (m0 : MostD maxLen l0) (_z1 : a1.size ≤ 140737488351232) :
    Calls Try.prog 3 #[a0, .string a1] w fun e w' => e = .returned (.bool true) ∧ Below w.heap.size w w' := by
  have HF : Hid (Dl w a0 l0) := z0
  have HM : Hid (MostD maxLen l0) := m0
  obtain ⟨n, b, hr⟩ : ∃ n b, secK l0 a1.data.toList = (n, b) := ⟨_, _, rfl⟩
  have HR : Hid (secK l0 a1.data.toList = (n, b)) := hr
  have HB : Hid ((secK l0 a1.data.toList).2 = b) := by show _ = _; rw [hr]
  obtain ⟨ad, cap, hv, hnc, hcm, hcx⟩ := id z0
  subst hv
  unfold maxLen at hcm
  clear hcx z0 m0 hr
  have hnn : ((n : Int) == n) = true := by simp
  have hbb : (b == b) = true := by simp
  go_enter Try.func3, Try.ntmps3
  go_wp2_with fail
  refine (ksec_at _ a1 l0 n b HR.out _ HF.out HM.out).mono ?_
  rintro e w1 ⟨rfl, hb1⟩
  have HB1 : Hid (Below w.heap.size w w1) := hb1
  clear hb1
  go_wp2_with fail
  refine (rksec_at _ a1 l0 n b HR.out _ (HF.out.below HB1.out) HM.out).mono ?_
  rintro e w2 ⟨rfl, hb2⟩
  have HB2 : Hid (Below w.heap.size w w2) := HB1.out.trans (hb2.mono HB1.out.size)
  clear hb2
  go_wp2_with fail
  refine (khas_at _ a1 l0 b HB.out _ (HF.out.below HB2.out)).mono ?_
  rintro e w3 ⟨rfl, hb3⟩
  have HB3 : Hid (Below w.heap.size w w3) := HB2.out.trans (hb3.mono HB2.out.size)
  clear hb3
  go_wp2_with fail
  go_ret
  exact ⟨by first | rfl | simp, HB3.out⟩
end Go.Proofs.Ytoccjnbodoiibaa
