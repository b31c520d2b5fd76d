/-
  What Kind of package body computes; lists and texts are no longer than Go allows, the values with what stands between them fit in 2^47 bytes, and the listed variables of package strconv hold what their text lays.
-/
import Derived.Test.YtofafonppajfkabDoorWKdL
import Derived.Test.YtofafonppajfkabDoorWGet
namespace Go.Proofs.YtofafonppajfkabDoor
open Go.RowKit

theorem kd_never (req : Bool) (m : List UInt8) (c : Int) (ls : List Fld) (h1 : req = false) (h2 : never m c = true) : kd req m c ls = (1, 0, 0) := by unfold kd; rw [h1, h2]; rfl
theorem kd_else (req : Bool) (m : List UInt8) (c : Int) (ls : List Fld) (h : (!req && never m c) = false) : kd req m c ls =
    if (!(vals ls teN).isEmpty) = true then (if (!(vals ls clN).isEmpty || (lower (jn (vals ls teN)) != chkN)) = true then (0, 0, 10) else (3, 0, 0))
    else if (!(vals ls clN).isEmpty) = true then kdL (jn (vals ls clN)) else if req = true then (1, 0, 0) else (4, 0, 0) := by unfold kd; rw [h]; rfl

set_option maxHeartbeats 2000000 in
set_option maxRecDepth 100000 in
/-- Behind the two fields that were looked up. -/
theorem kind_go (req : Bool) (m : ByteArray) (c : Int) (v : Value) (ls : List Fld) (x y z : Int) (h : kd req m.data.toList c ls = (x, y, z)) (w : World) (hf : Fl w v ls) (hl : Wide ls)
    (hj : ∀ s, (jn (vals ls s)).length ≤ 140737488351232) (hT : STabs w) :
    Calls Tryd.prog 12 #[.bool req, .string m, .int .i64 c, v] w fun e w' => e = .returned (.tuple #[.int .i64 x, .int .i64 y, .int .i64 z]) ∧ Below w.heap.size w w' := by
  have HF : Hid (Fl w v ls) := hf
  have HL : Hid (Wide ls) := hl
  have HT : Hid (STabs w) := hT
  have HJ : Hid (∀ s, (jn (vals ls s)).length ≤ 140737488351232) := hj
  clear hf hl hT hj
  cases hn : (!req && never m.data.toList c)
  · rw [kd_else _ _ _ _ hn] at h
    obtain ⟨t1, ht1⟩ : ∃ t : ByteArray, t.data.toList = jn (vals ls teN) := ⟨⟨(jn (vals ls teN)).toArray⟩, rfl⟩
    obtain ⟨t2, ht2⟩ : ∃ t : ByteArray, t.data.toList = jn (vals ls clN) := ⟨⟨(jn (vals ls clN)).toArray⟩, rfl⟩
    obtain ⟨t3, ht3⟩ : ∃ t : ByteArray, t.data.toList = lower t1.data.toList := ⟨⟨(lower t1.data.toList).toArray⟩, rfl⟩
    obtain ⟨b1, hb1⟩ : ∃ b : Bool, b = !(vals ls teN).isEmpty := ⟨_, rfl⟩
    obtain ⟨b2, hb2⟩ : ∃ b : Bool, b = !(vals ls clN).isEmpty := ⟨_, rfl⟩
    have H1 : Hid (t1.data.toList = jn (vals ls teN)) := ht1
    have H2 : Hid (t2.data.toList = jn (vals ls clN)) := ht2
    have H3 : Hid (t3.data.toList = lower t1.data.toList) := ht3
    have B1 : Hid (b1 = !(vals ls teN).isEmpty) := hb1
    have B2 : Hid (b2 = !(vals ls clN).isEmpty) := hb2
    have Z1 : Hid (t1.size ≤ 140737488351232) := by show _ ≤ _; rw [← size_list, ht1]; exact HJ.out _
    have Z2 : Hid (t2.size ≤ 140737488351232) := by show _ ≤ _; rw [← size_list, ht2]; exact HJ.out _
    have hz : (t3.toList != [99, 104, 117, 110, 107, 101, 100]) = (lower (jn (vals ls teN)) != chkN) := by rw [ByteArray.toList_eq, ht3, ht1]; rfl
    rw [← hb1, ← hb2, ← hz, ← ht2] at h
    have HH : Hid ((if b1 = true then (if (b2 || (t3.toList != [99, 104, 117, 110, 107, 101, 100])) = true then (0, 0, 10) else (3, 0, 0)) else if b2 = true then kdL t2.data.toList else if req = true then (1, 0, 0) else (4, 0, 0)) = ((x, y, z) : Int × Int × Int)) := h
    have HN : Hid ((!req && never m.data.toList c) = false) := hn
    have hnr : req = false → never m.data.toList c = false := by intro e; rw [e] at hn; simpa using hn
    have HR : Hid (req = false → never m.data.toList c = false) := hnr
    clear h ht1 ht2 ht3 hb1 hb2 hz hn hnr
    cases req
    · have HV := HR.out rfl
      have HVV : Hid (never m.data.toList c = false) := HV
      clear HV
      go_enter Tryd.func12, Tryd.ntmps12
      go_wp2_with fail
      refine (neverHas_any _ _ _).mono ?_
      rintro e w0 ⟨rfl, rfl⟩
      rw [HVV.out]
      go_wp2_with fail
      refine (get_at v ls _ t1 b1 H1.out B1.out _ HF.out HL.out (by decide) (by have := Z1.out; omega)).mono ?_
      rintro e w1 ⟨rfl, hw1⟩
      go_wp2_with fail
      refine (get_at v ls _ t2 b2 H2.out B2.out _ (HF.out.below hw1) HL.out (by decide) (by have := Z2.out; omega)).mono ?_
      rintro e w2 ⟨rfl, hw2⟩
      have hw := hw1.trans (hw2.mono hw1.size)
      clear hw1 hw2
      cases b1
      · cases b2
        · go_wp2_with fail
          go_ret3
          exact ⟨ret_3i HH.out, hw⟩
        · go_wp2_with fail
          refine (kindL_at t2 x y z HH.out _ (HT.out.below hw)).mono ?_
          rintro e w3 ⟨rfl, hw3⟩
          have hw' := hw.trans (hw3.mono hw.size)
          clear hw hw3
          go_wp2_with fail
          go_ret3
          exact ⟨rfl, hw'⟩
      · cases b2
        · cases hc : (t3.toList == [99, 104, 117, 110, 107, 101, 100])
          · have HX : Hid (((0, 0, 10) : Int × Int × Int) = (x, y, z)) := by have := HH.out; rw [bne, hc] at this; exact this
            go_wp2_with fail
            refine (lower_at t1 t3 H3.out _ Z1.out).mono ?_
            rintro e w3 ⟨rfl, hw3⟩
            have hw' := hw.trans (hw3.mono hw.size)
            clear hw hw3
            go_wp2_with fail
            go_ret3
            exact ⟨ret_3i HX.out, hw'⟩
          · have HX : Hid (((3, 0, 0) : Int × Int × Int) = (x, y, z)) := by have := HH.out; rw [bne, hc] at this; exact this
            go_wp2_with fail
            refine (lower_at t1 t3 H3.out _ Z1.out).mono ?_
            rintro e w3 ⟨rfl, hw3⟩
            have hw' := hw.trans (hw3.mono hw.size)
            clear hw hw3
            go_wp2_with fail
            go_ret3
            exact ⟨ret_3i HX.out, hw'⟩
        · go_wp2_with fail
          go_ret3
          exact ⟨ret_3i HH.out, hw⟩
    · go_enter Tryd.func12, Tryd.ntmps12
      go_wp2_with fail
      refine (get_at v ls _ t1 b1 H1.out B1.out _ HF.out HL.out (by decide) (by have := Z1.out; omega)).mono ?_
      rintro e w1 ⟨rfl, hw1⟩
      go_wp2_with fail
      refine (get_at v ls _ t2 b2 H2.out B2.out _ (HF.out.below hw1) HL.out (by decide) (by have := Z2.out; omega)).mono ?_
      rintro e w2 ⟨rfl, hw2⟩
      have hw := hw1.trans (hw2.mono hw1.size)
      clear hw1 hw2
      cases b1
      · cases b2
        · go_wp2_with fail
          go_ret3
          exact ⟨ret_3i HH.out, hw⟩
        · go_wp2_with fail
          refine (kindL_at t2 x y z HH.out _ (HT.out.below hw)).mono ?_
          rintro e w3 ⟨rfl, hw3⟩
          have hw' := hw.trans (hw3.mono hw.size)
          clear hw hw3
          go_wp2_with fail
          go_ret3
          exact ⟨rfl, hw'⟩
      · cases b2
        · cases hc : (t3.toList == [99, 104, 117, 110, 107, 101, 100])
          · have HX : Hid (((0, 0, 10) : Int × Int × Int) = (x, y, z)) := by have := HH.out; rw [bne, hc] at this; exact this
            go_wp2_with fail
            refine (lower_at t1 t3 H3.out _ Z1.out).mono ?_
            rintro e w3 ⟨rfl, hw3⟩
            have hw' := hw.trans (hw3.mono hw.size)
            clear hw hw3
            go_wp2_with fail
            go_ret3
            exact ⟨ret_3i HX.out, hw'⟩
          · have HX : Hid (((3, 0, 0) : Int × Int × Int) = (x, y, z)) := by have := HH.out; rw [bne, hc] at this; exact this
            go_wp2_with fail
            refine (lower_at t1 t3 H3.out _ Z1.out).mono ?_
            rintro e w3 ⟨rfl, hw3⟩
            have hw' := hw.trans (hw3.mono hw.size)
            clear hw hw3
            go_wp2_with fail
            go_ret3
            exact ⟨ret_3i HX.out, hw'⟩
        · go_wp2_with fail
          go_ret3
          exact ⟨ret_3i HH.out, hw⟩
  · have hr : req = false := by cases req <;> simp_all
    have hv : never m.data.toList c = true := by rw [hr] at hn; simpa using hn
    rw [kd_never _ _ _ _ hr hv] at h
    have HX : Hid (((1, 0, 0) : Int × Int × Int) = (x, y, z)) := h
    have HV : Hid (never m.data.toList c = true) := hv
    subst hr
    clear h hv hn
    go_enter Tryd.func12, Tryd.ntmps12
    go_wp2_with fail
    refine (neverHas_any _ _ _).mono ?_
    rintro e w0 ⟨rfl, rfl⟩
    rw [HV.out]
    go_wp2_with fail
    go_ret3
    exact ⟨ret_3i HX.out, Below.refl _ _⟩
end Go.Proofs.YtofafonppajfkabDoor
