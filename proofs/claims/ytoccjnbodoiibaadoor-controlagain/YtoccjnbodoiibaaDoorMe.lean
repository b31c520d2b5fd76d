/-
  The walk through ControlParses: it answers true and turns nothing that was there, whatever text comes in.
-/
import Derived.Test.YtoccjnbodoiibaaDoorMd
namespace Go.Proofs.YtoccjnbodoiibaaDoor
open Go.RowKit

set_option maxHeartbeats 1000000 in
set_option maxRecDepth 100000 in
theorem walkControlParses (a0 : ByteArray) (w : World) (_z0 : a0.size ≤ 140737488351232) :
    Calls Tryd.prog 4 #[.string a0] w fun e w' => e = .returned (.bool true) ∧ Below w.heap.size w w' := by
  obtain ⟨ds, hds⟩ : ∃ ds, (ctQ a0.data.toList).1 = ds := ⟨_, rfl⟩
  obtain ⟨c, hc⟩ : ∃ c, (ctQ a0.data.toList).2 = c := ⟨_, rfl⟩
  have HP : Hid (∀ W : World, Calls Tryd.prog 9 #[.string a0] W fun e w' => ∃ v, e = .returned (.tuple #[v, .int .i64 c]) ∧ w'.ownsRow W.heap.size 31 3 v ds.length (drs ds) ∧ Below W.heap.size W w') := fun W => by
    have := kparse_any a0 W
    rw [hds, hc] at this; exact this
  have HR : Hid (∀ W : World, Calls Tryd.prog 10 #[.string a0] W fun e w' => ∃ v, e = .returned (.tuple #[v, .int .i64 c]) ∧ w'.ownsRow W.heap.size 31 3 v ds.length (drs ds) ∧ Below W.heap.size W w') := fun W => by
    have := rkparse_any a0 W
    rw [hds, hc] at this; exact this
  clear hds hc
  go_enter Tryd.func4, Tryd.ntmps4
  go_wp2_with fail
  refine (HP.out _).mono ?_
  rintro e w1 ⟨v1, rfl, hown1, hb1⟩
  have HB1 : Hid (Below w.heap.size w w1) := hb1
  have HD1 : Hid (Dl w1 v1 ds) := Dl.own hown1
  obtain ⟨ad1, cap1, hv1, hcm1, hnc1, _⟩ := own_form2 hown1
  subst hv1
  clear hb1 hown1
  go_wp2_with fail
  refine (HR.out _).mono ?_
  rintro e w2 ⟨v2, rfl, hown2, hb2⟩
  have HB2 : Hid (Below w.heap.size w w2) := HB1.out.trans (hb2.mono HB1.out.size)
  have HD2 : Hid (Dl w2 v2 ds) := Dl.own hown2
  have HD3 : Hid (Dl w2 (.slice ad1 ds.length cap1) ds) := HD1.out.below hb2
  obtain ⟨ad2, cap2, hv2, hcm2, hnc2, _⟩ := own_form2 hown2
  subst hv2
  clear hb2 hown2
  go_wp2_with fail
  refine (eqD_same _ _ ds _ HD3.out HD2.out).mono ?_
  rintro e w3 ⟨rfl, hb3⟩
  have HB3 : Hid (Below w.heap.size w w3) := HB2.out.trans (hb3.mono HB2.out.size)
  clear hb3
  go_wp2_with fail
  go_ret
  exact ⟨by first | rfl | simp, HB3.out⟩
end Go.Proofs.YtoccjnbodoiibaaDoor

/-
  The walk through ControlBack: it answers true and turns nothing that was there; what comes in is of bulk at most 1048576.
-/
namespace Go.Proofs.YtoccjnbodoiibaaDoor
open Go.RowKit

theorem ctQ_open : ctQ [34] = ([], 3) := rfl
set_option maxHeartbeats 1000000 in
set_option maxRecDepth 100000 in
theorem walkControlBack (a0 : Value) (l0 : List Dv) (w : World) (z0 : Dl w a0 l0) (b0 : bulkD l0 ≤ 1048576) :
    Calls Tryd.prog 5 #[a0] w fun e w' => e = .returned (.bool true) ∧ Below w.heap.size w w' := by
  have HF : Hid (Dl w a0 l0) := z0
  have HBK : Hid (bulkD l0 ≤ 1048576) := b0
  obtain ⟨t, c, ht⟩ : ∃ (t : ByteArray) (c : Int), ctP l0 = (t.data.toList, c) := ⟨⟨(ctP l0).1.toArray⟩, (ctP l0).2, rfl⟩
  have HC : Hid (ctP l0 = (t.data.toList, c)) := ht
  have HPO : Hid (∀ W : World, Calls Tryd.prog 9 #[.string ⟨#[34]⟩] W fun e w' => ∃ ad cap, e = .returned (.tuple #[.slice ad 0 cap, .int .i64 3]) ∧ Below W.heap.size W w') := fun W => (kparse_any ⟨#[34]⟩ W).mono fun e w' ⟨v, he, ho, hb⟩ => by
    rw [show (⟨#[34]⟩ : ByteArray).data.toList = [34] from rfl, ctQ_open] at he ho
    obtain ⟨ad, cap, hv, _⟩ := own_form2 ho
    subst hv
    exact ⟨ad, cap, he, hb⟩
  obtain ⟨ad, cap, hv, hnc, hcm, hcx⟩ := id z0
  subst hv
  unfold maxLen at hcm
  clear hcx z0 b0
  by_cases hc : c = 0
  · subst hc
    have hq := ct_back l0 _ ht
    have HP : Hid (∀ W : World, Calls Tryd.prog 9 #[.string t] W fun e w' => ∃ v, e = .returned (.tuple #[v, .int .i64 0]) ∧ w'.ownsRow W.heap.size 31 3 v l0.length (drs l0) ∧ Below W.heap.size W w') := fun W => by
      have := kparse_any t W
      rw [hq] at this; exact this
    clear ht hq
    go_enter Tryd.func5, Tryd.ntmps5
    go_wp2_with fail
    refine (kprint_at _ l0 t 0 HC.out _ HF.out HBK.out).mono ?_
    rintro e w1 ⟨rfl, hb1⟩
    have HB1 : Hid (Below w.heap.size w w1) := hb1
    clear hb1
    go_wp2_with fail
    refine (HPO.out _).mono ?_
    rintro e w2 ⟨ad2, cap2, rfl, hb2⟩
    have HB2 : Hid (Below w.heap.size w w2) := HB1.out.trans (hb2.mono HB1.out.size)
    clear hb2
    go_wp2_with fail
    refine (HP.out _).mono ?_
    rintro e w3 ⟨v3, rfl, hown3, hb3⟩
    have HB3 : Hid (Below w.heap.size w w3) := HB2.out.trans (hb3.mono HB2.out.size)
    have HD3 : Hid (Dl w3 v3 l0) := Dl.own hown3
    have HF3 : Hid (Dl w3 (.slice ad l0.length cap) l0) := HF.out.below HB3.out
    obtain ⟨ad3, cap3, hv3, hcm3, hnc3, _⟩ := own_form2 hown3
    subst hv3
    clear hb3 hown3
    go_wp2_with fail
    refine (eqD_same _ _ l0 _ HF3.out HD3.out).mono ?_
    rintro e w4 ⟨rfl, hb4⟩
    have HB4 : Hid (Below w.heap.size w w4) := HB3.out.trans (hb4.mono HB3.out.size)
    clear hb4
    go_wp2_with fail
    go_ret
    exact ⟨by first | rfl | simp, HB4.out⟩
  · have hcb : (c != 0) = true := by simpa using hc
    have he := ctP_code l0 _ c ht hc
    have hte : t = ⟨#[]⟩ := by apply ByteArray.ext; apply Array.ext'; exact he
    subst hte
    clear ht hc he
    go_enter Tryd.func5, Tryd.ntmps5
    go_wp2_with fail
    refine (kprint_at _ l0 ⟨#[]⟩ c HC.out _ HF.out HBK.out).mono ?_
    rintro e w1 ⟨rfl, hb1⟩
    have HB1 : Hid (Below w.heap.size w w1) := hb1
    clear hb1
    go_wp2_with fail
    refine (HPO.out _).mono ?_
    rintro e w2 ⟨ad2, cap2, rfl, hb2⟩
    have HB2 : Hid (Below w.heap.size w w2) := HB1.out.trans (hb2.mono HB1.out.size)
    clear hb2
    go_wp2_with fail
    go_ret
    exact ⟨by first | rfl | simp, HB2.out⟩
end Go.Proofs.YtoccjnbodoiibaaDoor

/-
  The walk through ControlAgain: it answers true and turns nothing that was there, whatever text comes in.
-/
namespace Go.Proofs.YtoccjnbodoiibaaDoor
open Go.RowKit

theorem ctQ_opened : ctQ [34] = ([], 3) := rfl
set_option maxHeartbeats 1000000 in
set_option maxRecDepth 100000 in
theorem walkControlAgain (a0 : ByteArray) (w : World) (_z0 : a0.size ≤ 140737488351232) :
    Calls Tryd.prog 6 #[.string a0] w fun e w' => e = .returned (.bool true) ∧ Below w.heap.size w w' := by
  obtain ⟨ds, hds⟩ : ∃ ds, (ctQ a0.data.toList).1 = ds := ⟨_, rfl⟩
  obtain ⟨c, hc⟩ : ∃ c, (ctQ a0.data.toList).2 = c := ⟨_, rfl⟩
  have hq : ctQ a0.data.toList = (ds, c) := by rw [← hds, ← hc]
  have HBK : Hid (bulkD ds ≤ 1048576) := by show _ ≤ _; rw [← hds]; exact ctQ_bulk _
  have HP : Hid (∀ W : World, Calls Tryd.prog 9 #[.string a0] W fun e w' => ∃ v, e = .returned (.tuple #[v, .int .i64 c]) ∧ w'.ownsRow W.heap.size 31 3 v ds.length (drs ds) ∧ Below W.heap.size W w') := fun W => by
    have := kparse_any a0 W
    rw [hds, hc] at this; exact this
  have HPO : Hid (∀ W : World, Calls Tryd.prog 9 #[.string ⟨#[34]⟩] W fun e w' => ∃ ad cap, e = .returned (.tuple #[.slice ad 0 cap, .int .i64 3]) ∧ Below W.heap.size W w') := fun W => (kparse_any ⟨#[34]⟩ W).mono fun e w' ⟨v, he, ho, hb⟩ => by
    rw [show (⟨#[34]⟩ : ByteArray).data.toList = [34] from rfl, ctQ_opened] at he ho
    obtain ⟨ad, cap, hv, _⟩ := own_form2 ho
    subst hv
    exact ⟨ad, cap, he, hb⟩
  clear hds hc
  by_cases hc : c = 0
  · subst hc
    rcases ct_again _ ds hq with hp | hp
    · have HC : Hid (ctP ds = ((⟨#[]⟩ : ByteArray).data.toList, 2)) := hp
      clear hp hq
      go_enter Tryd.func6, Tryd.ntmps6
      go_wp2_with fail
      refine (HP.out _).mono ?_
      rintro e w1 ⟨v1, rfl, hown1, hb1⟩
      have HB1 : Hid (Below w.heap.size w w1) := hb1
      have HD1 : Hid (Dl w1 v1 ds) := Dl.own hown1
      obtain ⟨ad1, cap1, hv1, hcm1, hnc1, _⟩ := own_form2 hown1
      subst hv1
      clear hb1 hown1
      go_wp2_with fail
      refine (HPO.out _).mono ?_
      rintro e w2 ⟨ad2, cap2, rfl, hb2⟩
      have HB2 : Hid (Below w.heap.size w w2) := HB1.out.trans (hb2.mono HB1.out.size)
      have HD2 : Hid (Dl w2 (.slice ad1 ds.length cap1) ds) := HD1.out.below hb2
      clear hb2
      go_wp2_with fail
      refine (kprint_at _ ds ⟨#[]⟩ 2 HC.out _ HD2.out HBK.out).mono ?_
      rintro e w3 ⟨rfl, hb3⟩
      have HB3 : Hid (Below w.heap.size w w3) := HB2.out.trans (hb3.mono HB2.out.size)
      clear hb3
      go_wp2_with fail
      go_ret
      exact ⟨by first | rfl | simp, HB3.out⟩
    · obtain ⟨t, ht⟩ : ∃ t : ByteArray, t.data.toList = sepD ds := ⟨⟨(sepD ds).toArray⟩, rfl⟩
      rw [← ht] at hp
      have HC : Hid (ctP ds = (t.data.toList, 0)) := hp
      have hb := ct_back ds _ hp
      have HP2 : Hid (∀ W : World, Calls Tryd.prog 9 #[.string t] W fun e w' => ∃ v, e = .returned (.tuple #[v, .int .i64 0]) ∧ w'.ownsRow W.heap.size 31 3 v ds.length (drs ds) ∧ Below W.heap.size W w') := fun W => by
        have := kparse_any t W
        rw [hb] at this; exact this
      clear hp hq ht hb
      go_enter Tryd.func6, Tryd.ntmps6
      go_wp2_with fail
      refine (HP.out _).mono ?_
      rintro e w1 ⟨v1, rfl, hown1, hb1⟩
      have HB1 : Hid (Below w.heap.size w w1) := hb1
      have HD1 : Hid (Dl w1 v1 ds) := Dl.own hown1
      obtain ⟨ad1, cap1, hv1, hcm1, hnc1, _⟩ := own_form2 hown1
      subst hv1
      clear hb1 hown1
      go_wp2_with fail
      refine (HPO.out _).mono ?_
      rintro e w2 ⟨ad2, cap2, rfl, hb2⟩
      have HB2 : Hid (Below w.heap.size w w2) := HB1.out.trans (hb2.mono HB1.out.size)
      have HD2 : Hid (Dl w2 (.slice ad1 ds.length cap1) ds) := HD1.out.below hb2
      clear hb2
      go_wp2_with fail
      refine (kprint_at _ ds _ 0 HC.out _ HD2.out HBK.out).mono ?_
      rintro e w3 ⟨rfl, hb3⟩
      have HB3 : Hid (Below w.heap.size w w3) := HB2.out.trans (hb3.mono HB2.out.size)
      have HD3 : Hid (Dl w3 (.slice ad1 ds.length cap1) ds) := HD2.out.below hb3
      clear hb3
      go_wp2_with fail
      refine (HP2.out _).mono ?_
      rintro e w4 ⟨v4, rfl, hown4, hb4⟩
      have HB4 : Hid (Below w.heap.size w w4) := HB3.out.trans (hb4.mono HB3.out.size)
      have HD4 : Hid (Dl w4 v4 ds) := Dl.own hown4
      have HD5 : Hid (Dl w4 (.slice ad1 ds.length cap1) ds) := HD3.out.below hb4
      obtain ⟨ad4, cap4, hv4, hcm4, hnc4, _⟩ := own_form2 hown4
      subst hv4
      clear hb4 hown4
      go_wp2_with fail
      refine (eqD_same _ _ ds _ HD5.out HD4.out).mono ?_
      rintro e w5 ⟨rfl, hb5⟩
      have HB5 : Hid (Below w.heap.size w w5) := HB4.out.trans (hb5.mono HB4.out.size)
      clear hb5
      go_wp2_with fail
      go_ret
      exact ⟨by first | rfl | simp, HB5.out⟩
  · have hcb : (c != 0) = true := by simpa using hc
    have hd := ctQ_bad _ ds c hq hc
    subst hd
    clear hc hq
    go_enter Tryd.func6, Tryd.ntmps6
    go_wp2_with fail
    refine (HP.out _).mono ?_
    rintro e w1 ⟨v1, rfl, hown1, hb1⟩
    have HB1 : Hid (Below w.heap.size w w1) := hb1
    obtain ⟨ad1, cap1, hv1, hcm1, hnc1, _⟩ := own_form2 hown1
    subst hv1
    clear hb1 hown1
    go_wp2_with fail
    refine (HPO.out _).mono ?_
    rintro e w2 ⟨ad2, cap2, rfl, hb2⟩
    have HB2 : Hid (Below w.heap.size w w2) := HB1.out.trans (hb2.mono HB1.out.size)
    clear hb2
    go_wp2_with fail
    go_ret
    exact ⟨by first | rfl | simp, HB2.out⟩
end Go.Proofs.YtoccjnbodoiibaaDoor
