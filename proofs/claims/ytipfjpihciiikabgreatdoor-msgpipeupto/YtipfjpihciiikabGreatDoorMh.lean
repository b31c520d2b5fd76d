/-
  The walk through MsgPipe: it answers true and turns nothing that was there; the texts are of bulk at most 1048576, and the listed variables that the library reads hold what their text lays.
-/
import Derived.Test.YtipfjpihciiikabGreatDoorMg
namespace Go.Proofs.YtipfjpihciiikabGreatDoor
open Go.RowKit

set_option maxHeartbeats 2000000 in
set_option maxRecDepth 100000 in
theorem walkMsgPipe (a0 a1 : ByteArray) (w : World) (z0 : a0.size ≤ 1048576) (z1 : a1.size ≤ 1048576) (hm : ∃ m, w.cell? ⟨0, 0, none⟩ = some (.int .i64 m)) (hT : STabs w) :
    Calls Tryz.prog 6 #[.string a0, .string a1] w fun e w' => e = .returned (.bool true) ∧ Below w.heap.size w w' := by
  obtain ⟨mm, hm⟩ := hm
  have HB : Hid (w.cell? ⟨0, 0, none⟩ = some (.int .i64 mm)) := hm
  have HS : Hid (STabs w) := hT
  have HZ : Hid (a0.size < 4294967281) := by show _ < _; omega
  obtain ⟨s, hs⟩ : ∃ s : ByteArray, s = a0 ++ a1 := ⟨_, rfl⟩
  have HXS : Hid (a0 ++ a1 = s) := hs.symm
  have HSZ : Hid (s.size < 4294967281) := by show _ < _; rw [hs, ByteArray.size_append]; omega
  have hsl : s.data.toList = a0.data.toList ++ a1.data.toList := by rw [hs, ByteArray.data_append, Array.toList_append]
  clear hm hT hs
  obtain ⟨x, y, fs, t, i, c, hx⟩ : ∃ (x y : ByteArray) (fs : List Fld) (t : ByteArray) (i : Nat) (c : Int), rdQ KQr a0.data.toList = ((x.data.toList, y.data.toList), fs, t.data.toList, i, c) := ⟨⟨(rdQ KQr a0.data.toList).1.1.toArray⟩, ⟨(rdQ KQr a0.data.toList).1.2.toArray⟩, _, ⟨(rdQ KQr a0.data.toList).2.2.1.toArray⟩, _, _, rfl⟩
  have HX : Hid (rdQ KQr a0.data.toList = ((x.data.toList, y.data.toList), fs, t.data.toList, i, c)) := hx
  obtain ⟨x2, y2, fs2, t2, i2, c2, hx2⟩ : ∃ (x y : ByteArray) (fs : List Fld) (t : ByteArray) (i : Nat) (c : Int), rdQ KQr s.data.toList = ((x.data.toList, y.data.toList), fs, t.data.toList, i, c) := ⟨⟨(rdQ KQr s.data.toList).1.1.toArray⟩, ⟨(rdQ KQr s.data.toList).1.2.toArray⟩, _, ⟨(rdQ KQr s.data.toList).2.2.1.toArray⟩, _, _, rfl⟩
  have HX2 : Hid (rdQ KQr s.data.toList = ((x2.data.toList, y2.data.toList), fs2, t2.data.toList, i2, c2)) := hx2
  by_cases hc : c = 8
  · subst hc
    have hi : i = 0 := by
      rcases q_is (K := KQr) (fun m => kd_ok true m 0) (fun m => kd_four m 0) a0.data.toList with ⟨c', _, e⟩ | ⟨_, _, _, _, _, _, e, _⟩
      · rw [hx] at e; simp only [Prod.mk.injEq] at e; exact e.2.2.2.1
      · rw [hx] at e; simp only [Prod.mk.injEq] at e; exact absurd e.2.2.2.2 (by decide)
    subst hi
    clear hx hx2 hsl
    go_enter Tryz.func6, Tryz.ntmps6
    go_wp2_with fail
    refine (readQ_at a0 x y t fs 0 8 HX.out mm _ HZ.out HS.out HB.out).mono ?_
    rintro e w1 ⟨v1, rfl, hf1, hb1⟩
    obtain ⟨ad1, cap1, rfl, _⟩ := own_form2 hf1
    have hlt1 := hb1.size
    clear hf1
    go_wp2_with fail
    refine (readQ_nil mm _ ((HS.out.below hb1).below (below_alloc _ _)) (cell_keep (below_alloc _ _) (cell_keep hb1 HB.out))).mono ?_
    rintro e w2 ⟨v2, rfl, hf2, hb0⟩
    obtain ⟨ad2, cap2, rfl, _⟩ := own_form2 hf2
    have hb2 := below_new hb0
    have hw2 := hb1.trans (hb2.mono hb1.size)
    clear hb1 hb2 hb0 hf2
    go_wp2_with fail
    rw [HXS.out]
    refine (readQ_at s x2 y2 t2 fs2 i2 c2 HX2.out mm _ HSZ.out (HS.out.below (hw2.alloc hw2.size _)) (cell_keep (hw2.alloc hw2.size _) HB.out)).mono ?_
    rintro e w3 ⟨v3, rfl, hf3, hb3'⟩
    have hb3 := below_new hb3'
    obtain ⟨ad3, cap3, rfl, _⟩ := own_form2 hf3
    have hw3 := hw2.trans (hb3.mono hw2.size)
    clear hw2 hb3 hb3' hf3
    go_wp2_with fail
    go_ret
    exact ⟨ret_bool (by simp), hw3.alloc hw3.size _⟩
  · have hq := q_more (K := KQr) (fun m => kd_ok true m 0) (fun m => kd_four m 0) a0.data.toList a1.data.toList (by rw [hx]; exact hc)
    rw [← hsl, hx2, hx] at hq
    simp only [Prod.mk.injEq] at hq
    obtain ⟨⟨h1, h2⟩, rfl, h4, rfl, rfl⟩ := hq
    obtain rfl := ba_same h1
    obtain rfl := ba_same h2
    obtain rfl := ba_same h4
    have hcb : (c2 == 8) = false := by simpa using hc
    clear hx hx2 hsl h1 h2 h4 hc
    go_enter Tryz.func6, Tryz.ntmps6
    go_wp2_with fail
    refine (readQ_at a0 x2 y2 t2 fs2 i2 c2 HX.out mm _ HZ.out HS.out HB.out).mono ?_
    rintro e w1 ⟨v1, rfl, hf1, hb1⟩
    obtain ⟨ad1, cap1, rfl, _⟩ := own_form2 hf1
    have HF1 : Hid (FlO w.heap.size w1 (.slice ad1 fs2.length cap1) fs2) := hf1
    have hlt1 := hb1.size
    clear hf1
    go_wp2_with fail
    refine (readQ_nil mm _ ((HS.out.below hb1).below (below_alloc _ _)) (cell_keep (below_alloc _ _) (cell_keep hb1 HB.out))).mono ?_
    rintro e w2 ⟨v2, rfl, hf2, hb0⟩
    obtain ⟨ad2, cap2, rfl, _⟩ := own_form2 hf2
    have d0 : w2.cell? ⟨w1.heap.size, 0, none⟩ = some (.string x2) := new_cell hb0 0
    have d1 : w2.cell? ⟨w1.heap.size, 1, none⟩ = some (.string y2) := new_cell hb0 1
    have d2 : w2.cell? ⟨w1.heap.size, 2, none⟩ = some (.slice ad1 fs2.length cap1) := new_cell hb0 2
    have d3 : w2.cell? ⟨w1.heap.size, 3, none⟩ = some (.string t2) := new_cell hb0 3
    have hlt : w1.heap.size < w2.heap.size := by have := hb0.size; rw [World.size_alloc] at this; omega
    have hb2 := below_new hb0
    have HF12 : Hid (Fl w2 (.slice ad1 fs2.length cap1) fs2) := (HF1.out.below hb2).fl
    have hw2 := hb1.trans (hb2.mono hb1.size)
    clear hb1 hb2 hb0 hf2
    go_wp2_with fail
    rw [HXS.out]
    refine (readQ_at s x2 y2 t2 fs2 i2 c2 HX2.out mm _ HSZ.out (HS.out.below (hw2.alloc hw2.size _)) (cell_keep (hw2.alloc hw2.size _) HB.out)).mono ?_
    rintro e w3 ⟨v3, rfl, hf3, hb3'⟩
    have hb3 := below_new hb3'
    obtain ⟨ad3, cap3, rfl, _⟩ := own_form2 hf3
    have HF3 : Hid (Fl w3 (.slice ad3 fs2.length cap3) fs2) := hf3.fl
    have HF13 : Hid (Fl w3 (.slice ad1 fs2.length cap1) fs2) := HF12.out.below hb3
    have hw3 := hw2.trans (hb3.mono hw2.size)
    have c0 := (hb3.cell (p := ⟨w1.heap.size, 0, none⟩) hlt).trans d0
    have c1 := (hb3.cell (p := ⟨w1.heap.size, 1, none⟩) hlt).trans d1
    have c2' := (hb3.cell (p := ⟨w1.heap.size, 2, none⟩) hlt).trans d2
    have c3 := (hb3.cell (p := ⟨w1.heap.size, 3, none⟩) hlt).trans d3
    have hlt3 := Nat.lt_of_lt_of_le hlt hb3.size
    clear d0 d1 d2 d3 hw2 hb3 hb3' hf3 hlt
    go_wp2_with fail
    refine (sameQ_at x2 y2 t2 _ _ fs2 _ (HF13.out.below (below_alloc _ _)) (HF3.out.below (below_alloc _ _))).mono ?_
    rintro e w4 ⟨rfl, hb4⟩
    have hw4 := hw3.trans ((below_new hb4).mono hw3.size)
    clear hb4 hw3
    go_wp2_with fail
    go_ret
    exact ⟨ret_bool (by simp), hw4⟩
end Go.Proofs.YtipfjpihciiikabGreatDoor
