/-
  The walk through FieldSets: it answers true and turns nothing that was there; the list and the texts fit in the memory that Go's limits allow.
-/
import Derived.Test.YtflkgpjapgkgmaaWSet2
import Derived.Test.YtflkgpjapgkgmaaWRSet
import Derived.Test.YtflkgpjapgkgmaaWGet
import Derived.Test.YtflkgpjapgkgmaaWEqF
namespace Go.Proofs.Ytflkgpjapgkgmaa
open Go.RowKit

set_option maxHeartbeats 2000000 in
set_option maxRecDepth 100000 in
theorem walkFieldSets (a0 : Value) (l0 : List Fld) (a1 a2 : ByteArray) (w : World) (z0 : Fl w a0 l0) (b0 : Wide l0) (z1 : a1.size ≤ 140737488351232) (z2 : a2.size ≤ 140737488351232) :
    Calls Try.prog 4 #[a0, .string a1, .string a2] w fun e w' => e = .returned (.bool true) ∧ Below w.heap.size w w' := by
  have HZ : Hid (Fl w a0 l0) := z0
  have HW : Hid (Wide l0) := b0
  obtain ⟨low, hlow⟩ : ∃ low : ByteArray, low.data.toList = lower a1.data.toList := ⟨⟨(lower a1.data.toList).toArray⟩, rfl⟩
  have HLOW : Hid (low.data.toList = lower a1.data.toList) := hlow
  clear z0 b0 hlow
  go_enter Try.func4, Try.ntmps4
  go_wp2_with fail
  refine (set_any _ l0 a1 a2 _ HZ.out HW.out z1 z2).mono ?_
  rintro e w1 ⟨v1, rfl, hown1, hb1⟩
  have HF1 : Hid (Fl w1 v1 (setS a1.data.toList a2.data.toList l0)) := Fl.own hown1
  clear hown1
  go_wp2_with fail
  refine (rset_any _ l0 a1 a2 _ (HZ.out.below hb1) HW.out z1).mono ?_
  rintro e w2 ⟨v2, rfl, hown2, hb2⟩
  have HF2 : Hid (Fl w2 v2 (setS a1.data.toList a2.data.toList l0)) := Fl.own hown2
  have HF12 : Hid (Fl w2 v1 (setS a1.data.toList a2.data.toList l0)) := HF1.out.below hb2
  have hw2 := hb1.trans (hb2.mono hb1.size)
  clear hown2 hb2 hb1 HF1
  go_wp2_with fail
  refine (eqF_same _ _ _ _ HF12.out HF2.out).mono ?_
  rintro e w3 ⟨rfl, hb3⟩
  have hw3 := hw2.trans (hb3.mono hw2.size)
  clear hb3 hw2 HF12 HF2
  go_wp2_with fail
  refine (drop_any _ l0 a1 _ (HZ.out.below hw3) HW.out z1).mono ?_
  rintro e w4 ⟨v4, rfl, hown4, hb4⟩
  have HF4 : Hid (Fl w4 v4 (rest1 a1.data.toList l0)) := Fl.own hown4
  have hw4 := hw3.trans (hb4.mono hw3.size)
  have hs4 := hw4.size
  clear hown4 hb4 hw3
  go_wp2_with fail
  refine (rlower_at a1 low HLOW.out _ z1).mono ?_
  rintro e w5 ⟨rfl, rfl⟩
  have hw5 := hw4.alloc hs4 (.cells #[.string low] 9)
  have hbs : Below w5.heap.size w5 (w5.alloc (.cells #[.string low] 9)) := (Below.refl _ _).alloc (Nat.le_refl _) _
  go_wp2_with fail
  refine (without_any _ l0 a1 low HLOW.out w5.heap.size _ (HZ.out.below hw5) HW.out (by simp)).mono ?_
  rintro e w6 ⟨v6, rfl, hown6, hb6⟩
  have HF6 : Hid (Fl w6 v6 (rest1 a1.data.toList l0)) := Fl.own hown6
  have HF46 : Hid (Fl w6 v4 (rest1 a1.data.toList l0)) := (HF4.out.below hbs).below hb6
  have hw6 := hw5.trans (hb6.mono hw5.size)
  clear hown6 hb6 hw5 hbs hw4
  go_wp2_with fail
  refine (eqF_same _ _ _ _ HF46.out HF6.out).mono ?_
  rintro e w7 ⟨rfl, hb7⟩
  have hw7 := hw6.trans (hb7.mono hw6.size)
  go_wp2_with fail
  go_ret
  exact ⟨rfl, hw7⟩
end Go.Proofs.Ytflkgpjapgkgmaa
