/-
  The walk through ControlFirst: it answers true and turns nothing that was there; what comes in is of bulk at most 1048576.
-/
import Derived.Test.YtoccjnbodoiibaaWKcF
import Derived.Test.YtoccjnbodoiibaaWCopyD
namespace Go.Proofs.Ytoccjnbodoiibaa
open Go.RowKit

def nines : ByteArray := ⟨#[57, 57, 57, 57, 57, 57, 57, 57, 57, 57, 57, 57, 57, 57, 57, 57, 57, 57, 57, 57]⟩
theorem sec_nines : secK [([120], true, nines.data.toList)] [120] = (2147483648, true) := by decide +kernel
theorem nines_dl (w w' : World) (t : TypeId) (h : Below (w.alloc (.cells #[.string ⟨#[120]⟩, .bool true, .string nines] t)).heap.size (w.alloc (.cells #[.string ⟨#[120]⟩, .bool true, .string nines] t)) w') : Dl w' (.slice (some ⟨w.heap.size, 0, none⟩) 1 1) [([120], true, nines.data.toList)] := by
  refine ⟨_, 1, rfl, Nat.le_refl _, by unfold maxLen; omega, fun _ => ⟨w.heap.size, 0, rfl, ?_, fun k hk => ?_⟩⟩
  · have := h.size
    simp at this; omega
  · have hk0 : k = 0 := by simpa using hk
    subst hk0
    refine ⟨?_, ?_, ?_⟩
    · exact (h.cell (p := ⟨w.heap.size, 0, none⟩) (by simp)).trans (by simp)
    · exact (h.cell (p := ⟨w.heap.size, 1, none⟩) (by simp)).trans (by simp)
    · exact (h.cell (p := ⟨w.heap.size, 2, none⟩) (by simp)).trans (by simp)
set_option maxHeartbeats 2000000 in
set_option maxRecDepth 100000 in
theorem walkControlFirst (a0 : Value) (l0 : List (List UInt8 × Bool × List UInt8)) (a1 : Value) (l1 : List (List UInt8 × Bool × List UInt8)) (a2 : ByteArray) (w : World) (z0 : Dl w a0 l0) (b0 : bulkD l0 ≤ 1048576) (q0 : Nilly a0) (z1 : Dl w a1 l1) (b1 : bulkD l1 ≤ 1048576) (q1 : Nilly a1) (_z2 : a2.size ≤ 1048576) :
    Calls Try.prog 4 #[a0, a1, .string a2] w fun e w' => e = .returned (.bool true) ∧ Below w.heap.size w w' := by
  have HF0 : Hid (Dl w a0 l0) := z0
  have HF1 : Hid (Dl w a1 l1) := z1
  have HQ0 : Hid (Nilly a0) := q0
  have HQ1 : Hid (Nilly a1) := q1
  have hmx : ∀ ls : List (List UInt8 × Bool × List UInt8), bulkD ls ≤ 4194304 → MostD maxLen ls := fun ls h => bulkD_most ls maxLen (by unfold maxLen; omega)
  have HM0 : Hid (MostD maxLen l0) := hmx l0 (by omega)
  have HM1 : Hid (MostD maxLen l1) := hmx l1 (by omega)
  have HM2 : Hid (MostD maxLen (l0 ++ l1)) := hmx _ (by rw [bulkD_app]; omega)
  have HM3 : Hid (MostD maxLen [([120], true, nines.data.toList)]) := hmx _ (by decide)
  have hl0 : l0.length ≤ 1048576 := by have := bulkD_len l0; omega
  have hl1 : l1.length ≤ 1048576 := by have := bulkD_len l1; omega
  obtain ⟨n0, i0, hr0⟩ : ∃ n b, secK l0 a2.data.toList = (n, b) := ⟨_, _, rfl⟩
  obtain ⟨n1, i1, hr1⟩ : ∃ n b, secK l1 a2.data.toList = (n, b) := ⟨_, _, rfl⟩
  have hin0 := secK_in l0 a2.data.toList
  have hin1 := secK_in l1 a2.data.toList
  rw [hr0] at hin0
  rw [hr1] at hin1
  obtain ⟨g0, g1⟩ := hin0
  obtain ⟨g2, g3⟩ := hin1
  simp only at g0 g1 g2 g3
  have hr2 := secK_app l0 l1 a2.data.toList
  rw [hr0, hr1] at hr2
  simp only at hr2
  have HR0 : Hid (secK l0 a2.data.toList = (n0, i0)) := hr0
  have HR1 : Hid (secK l1 a2.data.toList = (n1, i1)) := hr1
  have HB0 : Hid ((secK l0 a2.data.toList).2 = i0) := by show _ = _; rw [hr0]
  have HL0 : Hid (l0.length ≤ 1048576) := hl0
  obtain ⟨ad0, cap0, hv0, hnc0, hcm0, hcx0⟩ := id z0
  obtain ⟨ad1, cap1, hv1, hnc1, hcm1, hcx1⟩ := id z1
  subst hv0 hv1
  unfold maxLen at hcm0 hcm1
  have HN : Hid (∀ W W' : World, Below (W.alloc (.cells #[.string ⟨#[120]⟩, .bool true, .string nines] 28)).heap.size (W.alloc (.cells #[.string ⟨#[120]⟩, .bool true, .string nines] 28)) W' → Dl W' (.slice (some ⟨W.heap.size, 0, none⟩) 1 1) [([120], true, nines.data.toList)]) := fun W W' h => nines_dl W W' _ h
  clear hcx0 hcx1 z0 b0 q0 z1 b1 q1 hmx hr0 hr1
  have hnn0 : ((n0 : Int) == n0) = true := by simp
  have hnn1 : ((n1 : Int) == n1) = true := by simp
  cases i0
  · have HR2 : Hid (secK (l0 ++ l1) a2.data.toList = (n1, i1)) := by show _ = _; rw [hr2]; rfl
    clear hr2
    cases i1
    all_goals
      go_enter Try.func4, Try.ntmps4
      go_wp2_with fail
      refine (ksec_at _ a2 l0 n0 _ HR0.out _ HF0.out HM0.out).mono ?_
      rintro e w1 ⟨rfl, hb1⟩
      have HB1 : Hid (Below w.heap.size w w1) := hb1
      clear hb1
      go_wp2_with fail
      refine (ksec_at _ a2 l1 n1 _ HR1.out _ (HF1.out.below HB1.out) HM1.out).mono ?_
      rintro e w2 ⟨rfl, hb2⟩
      have HB2 : Hid (Below w.heap.size w w2) := HB1.out.trans (hb2.mono HB1.out.size)
      clear hb2
      go_wp2_with fail
      refine (copyD_any _ l0 _ (HF0.out.below HB2.out) HQ0.out HL0.out).mono ?_
      rintro e w3 ⟨v3, rfl, hown3, hb3⟩
      have HB3 : Hid (Below w.heap.size w w3) := HB2.out.trans (hb3.mono HB2.out.size)
      have HF3 : Hid (Dl w3 (.slice ad1 l1.length cap1) l1) := HF1.out.below HB3.out
      have hs2 := HB2.out.size
      have hs3 := HB3.out.size
      have hown : w3.ownsRow w.heap.size 28 3 v3 l0.length (drs l0) := own_le hown3 hs2
      obtain ⟨ad3, cap3, hv3, hcm3, hnc3, _⟩ := own_form2 hown3
      subst hv3
      clear hb3 hown3
      go_wp2_with (at_builtin; refine append_dl rfl _ _ rfl w.heap.size _ l0 rfl hown _ l1 rfl HF3.out HQ1.out (by omega) hs3 (fun v4 w4 hown4 hb4 => ?_))
      have HB4 : Hid (Below w.heap.size w w4) := HB3.out.trans hb4
      have HD4 : Hid (Dl w4 v4 (l0 ++ l1)) := Dl.own hown4
      obtain ⟨ad4, cap4, hv4, hcm4, hnc4, _⟩ := own_form2 hown4
      subst hv4
      clear hb4 hown4 hown
      go_wp2_with fail
      refine (ksec_at _ a2 (l0 ++ l1) _ _ HR2.out _ HD4.out HM2.out).mono ?_
      rintro e w5 ⟨rfl, hb5⟩
      have HB5 : Hid (Below w.heap.size w w5) := HB4.out.trans (hb5.mono HB4.out.size)
      clear hb5
      go_wp2_with fail
      refine (ksec_at _ ⟨#[120]⟩ _ 2147483648 true sec_nines _ (HN.out _ _ (Below.refl _ _)) HM3.out).mono ?_
      rintro e w6 ⟨rfl, hb6⟩
      have HB6 : Hid (Below w.heap.size w w6) := (HB5.out.alloc HB5.out.size _).trans (hb6.mono (HB5.out.alloc HB5.out.size _).size)
      clear hb6
      go_wp2_with fail
      refine (khas_at _ a2 l0 _ HB0.out _ (HF0.out.below HB6.out)).mono ?_
      rintro e w7 ⟨rfl, hb7⟩
      have HB7 : Hid (Below w.heap.size w w7) := HB6.out.trans (hb7.mono HB6.out.size)
      clear hb7
      go_wp2_with fail
      go_ret
      exact ⟨by first | rfl | simp, HB7.out⟩
  · have HR2 : Hid (secK (l0 ++ l1) a2.data.toList = (n0, true)) := by show _ = _; rw [hr2]; rfl
    clear hr2
    go_enter Try.func4, Try.ntmps4
    go_wp2_with fail
    refine (ksec_at _ a2 l0 n0 _ HR0.out _ HF0.out HM0.out).mono ?_
    rintro e w1 ⟨rfl, hb1⟩
    have HB1 : Hid (Below w.heap.size w w1) := hb1
    clear hb1
    go_wp2_with fail
    refine (ksec_at _ a2 l1 n1 _ HR1.out _ (HF1.out.below HB1.out) HM1.out).mono ?_
    rintro e w2 ⟨rfl, hb2⟩
    have HB2 : Hid (Below w.heap.size w w2) := HB1.out.trans (hb2.mono HB1.out.size)
    clear hb2
    go_wp2_with fail
    refine (copyD_any _ l0 _ (HF0.out.below HB2.out) HQ0.out HL0.out).mono ?_
    rintro e w3 ⟨v3, rfl, hown3, hb3⟩
    have HB3 : Hid (Below w.heap.size w w3) := HB2.out.trans (hb3.mono HB2.out.size)
    have HF3 : Hid (Dl w3 (.slice ad1 l1.length cap1) l1) := HF1.out.below HB3.out
    have hs2 := HB2.out.size
    have hs3 := HB3.out.size
    have hown : w3.ownsRow w.heap.size 28 3 v3 l0.length (drs l0) := own_le hown3 hs2
    obtain ⟨ad3, cap3, hv3, hcm3, hnc3, _⟩ := own_form2 hown3
    subst hv3
    clear hb3 hown3
    go_wp2_with (at_builtin; refine append_dl rfl _ _ rfl w.heap.size _ l0 rfl hown _ l1 rfl HF3.out HQ1.out (by omega) hs3 (fun v4 w4 hown4 hb4 => ?_))
    have HB4 : Hid (Below w.heap.size w w4) := HB3.out.trans hb4
    have HD4 : Hid (Dl w4 v4 (l0 ++ l1)) := Dl.own hown4
    obtain ⟨ad4, cap4, hv4, hcm4, hnc4, _⟩ := own_form2 hown4
    subst hv4
    clear hb4 hown4 hown
    go_wp2_with fail
    refine (ksec_at _ a2 (l0 ++ l1) _ _ HR2.out _ HD4.out HM2.out).mono ?_
    rintro e w5 ⟨rfl, hb5⟩
    have HB5 : Hid (Below w.heap.size w w5) := HB4.out.trans (hb5.mono HB4.out.size)
    clear hb5
    go_wp2_with fail
    refine (ksec_at _ ⟨#[120]⟩ _ 2147483648 true sec_nines _ (HN.out _ _ (Below.refl _ _)) HM3.out).mono ?_
    rintro e w6 ⟨rfl, hb6⟩
    have HB6 : Hid (Below w.heap.size w w6) := (HB5.out.alloc HB5.out.size _).trans (hb6.mono (HB5.out.alloc HB5.out.size _).size)
    clear hb6
    go_wp2_with fail
    refine (khas_at _ a2 l0 _ HB0.out _ (HF0.out.below HB6.out)).mono ?_
    rintro e w7 ⟨rfl, hb7⟩
    have HB7 : Hid (Below w.heap.size w w7) := HB6.out.trans (hb7.mono HB6.out.size)
    clear hb7
    go_wp2_with fail
    go_ret
    exact ⟨by first | rfl | simp, HB7.out⟩
end Go.Proofs.Ytoccjnbodoiibaa
