/-
  The walk through TagLists: it answers true and turns nothing that was there.
-/
import Derived.Test.YtfeikdplfjikeaaDoorWEgL
import Derived.Test.YtfeikdplfjikeaaDoorWREl
import Derived.Test.YtfeikdplfjikeaaDoorWEqT
namespace Go.Proofs.YtfeikdplfjikeaaDoor
open Go.RowKit

set_option maxHeartbeats 4000000 in
set_option maxRecDepth 100000 in
theorem walkTagLists (a0 : ByteArray) (w : World) (_z0 : a0.size ≤ 140737488351232) :
    Calls Tryd.prog 3 #[.string a0] w fun e w' => e = .returned (.bool true) ∧ Below w.heap.size w w' := by
  obtain ⟨ts, st, c, hl⟩ : ∃ ts st c, liE a0.data.toList = ((ts, st), c) := ⟨_, _, _, rfl⟩
  have HL : Hid (liE a0.data.toList = ((ts, st), c)) := hl
  clear hl
  go_enter Tryd.func3, Tryd.ntmps3
  go_wp2_with fail
  refine (elist_any a0 _).mono ?_
  rintro e w1 ⟨v1, rfl, hown1, hb1⟩
  rw [HL.out] at hown1 ⊢
  have hT1 := Tl.own hown1
  go_wp2_with fail
  refine (rtlist_any a0 _).mono ?_
  rintro e w2 ⟨v2, rfl, hown2, hb2⟩
  rw [HL.out] at hown2 ⊢
  have hT2 := Tl.own hown2
  have hT1' := hT1.below hb2
  have hb := hb1.trans (hb2.mono hb1.size)
  have HT1 : Hid (Tl w2 v1 ts) := hT1'
  have HT2 : Hid (Tl w2 v2 ts) := hT2
  have HB : Hid (Below w.heap.size w w2) := hb
  clear hown1 hown2 hT1 hT2 hT1' hb hb1 hb2
  go_wp2_with fail
  refine (eqT_same v1 v2 ts _ HT1.out HT2.out).mono ?_
  rintro e w3 ⟨rfl, hb3⟩
  have HB3 : Hid (Below w.heap.size w w3) := HB.out.trans (hb3.mono HB.out.size)
  clear hb3
  go_wp2_with fail
  go_ret
  exact ⟨by simp, HB3.out⟩
end Go.Proofs.YtfeikdplfjikeaaDoor
