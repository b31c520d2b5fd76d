/-
  The walk through TagSays: it answers true and turns nothing that was there; a text is no longer than the claim's first form allows.
-/
import Derived.Test.YtfeikdplfjikeaaWEgP
import Derived.Test.YtfeikdplfjikeaaWEgS
import Derived.Test.YtfeikdplfjikeaaWREt
import Derived.Test.YtfeikdplfjikeaaSpecQr
namespace Go.Proofs.Ytfeikdplfjikeaa
open Go.RowKit

theorem tags_two (w : World) (t : TypeId) (a b c d : Value) (W : World) (h : Below (w.heap.size + 2) ((w.alloc (.cells #[a, b] t)).alloc (.cells #[c, d] t)) W) :
    W.cell? ⟨w.heap.size, 0, none⟩ = some a ∧ W.cell? ⟨w.heap.size, 1, none⟩ = some b ∧ W.cell? ⟨w.heap.size + 1, 0, none⟩ = some c ∧ W.cell? ⟨w.heap.size + 1, 1, none⟩ = some d ∧ Below w.heap.size w W ∧ w.heap.size + 2 ≤ W.heap.size := by
  refine ⟨(h.cell (p := ⟨w.heap.size, 0, none⟩) (show w.heap.size < w.heap.size + 2 by omega)).trans (by simp), (h.cell (p := ⟨w.heap.size, 1, none⟩) (show w.heap.size < w.heap.size + 2 by omega)).trans (by simp),
    (h.cell (p := ⟨w.heap.size + 1, 0, none⟩) (show w.heap.size + 1 < w.heap.size + 2 by omega)).trans (by simp), (h.cell (p := ⟨w.heap.size + 1, 1, none⟩) (show w.heap.size + 1 < w.heap.size + 2 by omega)).trans (by simp),
    (((Below.refl _ w).alloc (Nat.le_refl _) _).alloc (by simp) _).trans (h.mono (by omega)), ?_⟩
  have := h.size; simpa using this
set_option maxHeartbeats 4000000 in
set_option maxRecDepth 100000 in
theorem walkTagSays (b0 : Bool) (a0 : ByteArray) (b1 : Bool) (a1 : ByteArray) (a2 : ByteArray) (w : World) (_z0 : a0.size ≤ maxLen) (_z1 : a1.size ≤ maxLen) (z2 : a2.size ≤ 140737488351232) :
    Calls Try.prog 3 #[.agg #[.bool b0, .string a0], .agg #[.bool b1, .string a1], .string a2] w fun e w' => e = .returned (.bool true) ∧ Below w.heap.size w w' := by
  clear _z0 _z1
  obtain ⟨p, c, hp⟩ := pair_bi (prE (b0, a0.data.toList))
  have HP : Hid (prE (b0, a0.data.toList) = (p.data.toList, c)) := hp
  obtain ⟨k, x, d, hq⟩ : ∃ (k : Bool) (x : ByteArray) (c : Int), paE a2.data.toList = ((k, x.data.toList), c) := ⟨(paE a2.data.toList).1.1, ⟨(paE a2.data.toList).1.2.toArray⟩, (paE a2.data.toList).2, rfl⟩
  have HQ : Hid (paE a2.data.toList = ((k, x.data.toList), d)) := hq
  obtain ⟨e0, he0⟩ : ∃ b, (a0.toList == a1.toList) = b := ⟨_, rfl⟩
  have VW := fun W => eweak_at b0 b1 a0 a1 e0 he0 W
  have VS := fun W => estrong_at b0 b1 a0 a1 (!b0 && (!b1 && e0)) (by rw [he0]) W
  have HVW : Hid (∀ W, Calls Try.prog 11 #[.agg #[.bool b0, .string a0], .agg #[.bool b1, .string a1]] W fun e w' => e = .returned (.bool e0) ∧ Below W.heap.size W w') := VW
  have HVS : Hid (∀ W, Calls Try.prog 10 #[.agg #[.bool b0, .string a0], .agg #[.bool b1, .string a1]] W fun e w' => e = .returned (.bool (!b0 && (!b1 && e0))) ∧ Below W.heap.size W w') := VS
  clear hp hq VW VS
  go_enter Try.func3, Try.ntmps3
  go_wp2_with fail
  refine (eprint_at b0 a0 p c HP.out _).mono ?_
  rintro e w1 ⟨rfl, hb1⟩
  have hc1 : Below (w.heap.size + 2) ((w.alloc (.cells #[.bool b0, .string a0] 23)).alloc (.cells #[.bool b1, .string a1] 23)) w1 := hb1.mono (by simp)
  obtain ⟨f0, f1, f2, f3, _, hs1⟩ := tags_two _ _ _ _ _ _ _ hc1
  clear hb1
  go_wp2_with fail
  refine (rtprint_at b0 a0 p c HP.out _).mono ?_
  rintro e w2 ⟨rfl, hb2⟩
  have hc2 := hc1.trans (hb2.mono hs1)
  have hs2 := (tags_two _ _ _ _ _ _ _ hc2).2.2.2.2.2
  clear hb2 hc1 hs1 f0 f1 f2 f3
  go_wp2_with fail
  refine (eparse_at a2 x k d HQ.out _ z2).mono ?_
  rintro e w3 ⟨rfl, hb3⟩
  have hc3 := hc2.trans (hb3.mono hs2)
  have hs3 := (tags_two _ _ _ _ _ _ _ hc3).2.2.2.2.2
  have hc4 := hc3.alloc hs3 (.cells #[.bool k, .string x] 23)
  have hs4 := (tags_two _ _ _ _ _ _ _ hc4).2.2.2.2.2
  clear hb3 hc2 hs2 hc3
  go_wp2_with fail
  refine (rtparse_at a2 x k d HQ.out _ z2).mono ?_
  rintro e w5 ⟨rfl, hb5⟩
  have hc5 := hc4.trans (hb5.mono hs4)
  have hs5 := (tags_two _ _ _ _ _ _ _ hc5).2.2.2.2.2
  have hk0 : w5.cell? ⟨w3.heap.size, 0, none⟩ = some (.bool k) := (hb5.cell (p := ⟨w3.heap.size, 0, none⟩) (by simp)).trans (by simp)
  have hk1 : w5.cell? ⟨w3.heap.size, 1, none⟩ = some (.string x) := (hb5.cell (p := ⟨w3.heap.size, 1, none⟩) (by simp)).trans (by simp)
  have hs35 : w3.heap.size < w5.heap.size := by have := hb5.size; simp at this; omega
  have hc6 := hc5.alloc hs5 (.cells #[.bool k, .string x] 23)
  have hk2 : (w5.alloc (.cells #[.bool k, .string x] 23)).cell? ⟨w3.heap.size, 0, none⟩ = some (.bool k) := by rw [World.cell?_alloc_lt _ _ ⟨w3.heap.size, 0, none⟩ hs35]; exact hk0
  have hk3 : (w5.alloc (.cells #[.bool k, .string x] 23)).cell? ⟨w3.heap.size, 1, none⟩ = some (.string x) := by rw [World.cell?_alloc_lt _ _ ⟨w3.heap.size, 1, none⟩ hs35]; exact hk1
  obtain ⟨g0, g1, g2, g3, hB6, hs6⟩ := tags_two _ _ _ _ _ _ _ hc6
  have HB6 : Hid (Below w.heap.size w _) := hB6
  have HC6 : Hid (Below (w.heap.size + 2) ((w.alloc (.cells #[.bool b0, .string a0] 23)).alloc (.cells #[.bool b1, .string a1] 23)) (w5.alloc (.cells #[.bool k, .string x] 23))) := hc6
  clear hb5 hc4 hs3 hs4 hc5 hs5 hc6 hB6 hk0 hk1
  cases b0 <;> cases b1 <;> cases e0
  all_goals
    go_wp2_with fail
    refine (HVS.out _).mono ?_
    rintro e w7 ⟨rfl, hb7⟩
    have hc7 := HC6.out.trans (hb7.mono hs6)
    obtain ⟨j0, j1, j2, j3, _, hs7⟩ := tags_two _ _ _ _ _ _ _ hc7
    clear hb7 g0 g1 g2 g3 hk2 hk3
    go_wp2_with fail
    refine (HVW.out _).mono ?_
    rintro e w8 ⟨rfl, hb8⟩
    have HC8 : Hid (Below w.heap.size w w8) := (tags_two _ _ _ _ _ _ _ (hc7.trans (hb8.mono hs7))).2.2.2.2.1
    clear hb8
    go_wp2_with fail
    go_ret
    exact ⟨by simp, HC8.out⟩
end Go.Proofs.Ytfeikdplfjikeaa
