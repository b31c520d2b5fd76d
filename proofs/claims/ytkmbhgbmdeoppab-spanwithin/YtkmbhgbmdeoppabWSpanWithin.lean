/-
  The walk through SpanWithin: it answers true and turns nothing that was there.
-/
import Derived.Test.YtkmbhgbmdeoppabWSres
namespace Go.Proofs.Ytkmbhgbmdeoppab
open Go.RowKit

theorem rsSp_nil (size : Int) : rsSp [] size = ([], 1) := rsSp_arg (.inl rfl)
set_option maxHeartbeats 4000000 in
set_option maxRecDepth 100000 in
theorem walkSpanWithin (a0 : Value) (l0 : List Wn) (a1 : Int) (w : World) (z0 : Wl w a0 l0) (_m0 : WfW l0) (_b0 : l0.length ≤ 8796093021952) (z1 : (Lit.int .i64 a1).wf = true) :
    Calls Try.prog 3 #[a0, .int .i64 a1] w fun e w' => e = .returned (.bool true) ∧ Below w.heap.size w w' := by
  have hz := wf_int z1
  have HF : Hid (Wl w a0 l0) := z0
  obtain ⟨ad, cap, rfl, hnc, hcm, _⟩ := id z0
  unfold maxLen at hcm
  obtain ⟨m, c, hm⟩ : ∃ m c, rsSp l0 a1 = (m, c) := ⟨_, _, rfl⟩
  have HM : Hid (rsSp l0 a1 = (m, c)) := hm
  have hcode := rsSp_code l0 a1
  rw [hm] at hcode
  have HCODE : Hid (c = 0 ∨ m = []) := hcode
  clear z0 z1 hm hcode
  go_enter Try.func3, Try.ntmps3
  go_wp2_with fail
  refine (sres_at _ l0 a1 hz _ HF.out).mono ?_
  rintro e w1 ⟨v1, rfl, ho1, hb1⟩
  rw [HM.out] at ho1 ⊢
  have HO1 : Hid (w1.ownsRow w.heap.size 28 2 v1 m.length (wns m)) := ho1
  have HB1 : Hid (Below w.heap.size w w1) := hb1
  have hsz1 := hb1.size
  clear ho1 hb1
  go_wp2_with fail
  refine (sres_at _ [] 0 (by omega) _ (Wl.nil _)).mono ?_
  rintro e w2 ⟨v2, rfl, _, hb2⟩
  rw [rsSp_nil]
  have HWL : Hid (Wl w2 v1 m) := (Wl.own HO1.out).below hb2
  have HB2 : Hid (Below w.heap.size w w2) := HB1.out.trans (hb2.mono hsz1)
  have hsz2 := HB2.out.size
  obtain ⟨ad1, cap1, rfl, hnc1, hcm1, _⟩ := id HWL.out
  unfold maxLen at hcm1
  clear hb2
  by_cases hc : c = 0
  · subst hc
    obtain ⟨hin, hl1, hl2⟩ := rsSp_in HM.out
    have HIN : Hid (∀ s ∈ m, 0 ≤ s.1 ∧ s.1 < s.2 ∧ s.2 ≤ a1) := hin
    have g1 : (0 : Int) < (m.length : Int) := by omega
    have g2 : (m.length : Int) ≤ (l0.length : Int) := by omega
    clear hin
    go_wp2_with fail
    go_loopw [30] (fun i wr => ∃ k : Nat, k ≤ m.length ∧ i = .int .i64 k ∧ Below w2.heap.size w2 wr) (fun i _ => m.length - (intOf i).toNat)
    case atStart => exact ⟨0, Nat.zero_le _, rfl, Below.refl _ _⟩
    case round =>
      obtain ⟨k, hk, rfl, hw⟩ := hrel
      have hszr := hw.size
      by_cases hlt : k < m.length
      · obtain ⟨ad', cap', hv', _, _, hc'⟩ := HWL.out
        simp only [Value.slice.injEq] at hv'
        obtain ⟨rfl, _, rfl⟩ := hv'
        obtain ⟨g, off, rfl, hgs, hce⟩ := hc' (by omega)
        obtain ⟨c1, c2⟩ := hce k hlt
        obtain ⟨o1, o2, o3⟩ := HIN.out m[k] (List.getElem_mem hlt)
        have d1 := (hw.cell (p := ⟨g, off + k * 2, none⟩) hgs).trans c1
        have d2 := (hw.cell (p := ⟨g, off + k * 2 + 1, none⟩) hgs).trans c2
        generalize (m[k]).1 = p at d1 o1 o2
        generalize (m[k]).2 = q at d2 o2 o3
        have hgr : g < wr.heap.size := by omega
        have hki : (k : Int) < (m.length : Int) := by omega
        have hk0 : (0 : Int) ≤ (k : Int) := by omega
        have q1 : ¬ p < 0 := by omega
        have q2 : ¬ q ≤ p := by omega
        have q3 : ¬ a1 < q := by omega
        have hw0 := hw.alloc hszr (.cells #[.int .i64 p, .int .i64 q] 28)
        clear hce c1 c2 hc'
        go_wp2_with fail
        go_roundw
        case rel => exact ⟨k + 1, by omega, by go_num, hw0⟩
        case measure => simp [intOf]; omega
      · go_wp2_with fail
        go_ret
        exact ⟨by first | rfl | simp, HB2.out.trans (hw.mono hsz2)⟩
  · have hm0 : m = [] := HCODE.out.resolve_left hc
    have hcb : (c != 0) = true := by simpa using hc
    subst hm0
    go_wp2_with fail
    go_ret
    exact ⟨rfl, HB2.out⟩
end Go.Proofs.Ytkmbhgbmdeoppab
