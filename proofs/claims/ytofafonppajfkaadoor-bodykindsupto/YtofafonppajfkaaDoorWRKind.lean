/-
  What BodyKind of the document's answers computes; the fields are of bulk at most 1048576.
-/
import Derived.Test.YtofafonppajfkaaDoorSpecCr
import Derived.Test.YtofafonppajfkaaDoorWKdL
import Derived.Test.YtofafonppajfkaaDoorWRGet
import Derived.Test.YtofafonppajfkaaDoorWRSplit
import Derived.Test.YtofafonppajfkaaDoorWRCount
namespace Go.Proofs.YtofafonppajfkaaDoor
open Go.RowKit

def teL : List UInt8 := [116, 114, 97, 110, 115, 102, 101, 114, 45, 101, 110, 99, 111, 100, 105, 110, 103]
def clL : List UInt8 := [99, 111, 110, 116, 101, 110, 116, 45, 108, 101, 110, 103, 116, 104]
theorem vals_te (ls : List Fld) : vals ls teL = vals ls teN := by
  have h : nm teL = nm teN := by
    have e : lower teL = lower teN := by decide +kernel
    funext x; show (lower x.1 == lower teL) = (lower x.1 == lower teN); rw [e]
  unfold vals; rw [h]
theorem vals_cl (ls : List Fld) : vals ls clL = vals ls clN := by
  have h : nm clL = nm clN := by
    have e : lower clL = lower clN := by decide +kernel
    funext x; show (lower x.1 == lower clL) = (lower x.1 == lower clN); rw [e]
  unfold vals; rw [h]

set_option maxHeartbeats 4000000 in
set_option maxRecDepth 100000 in
theorem rkind_never (m : ByteArray) (c : Int) (v : Value) (w : World) (h : never m.data.toList c = true) :
    Calls Tryd.prog 10 #[.bool false, .string m, .int .i64 c, v] w fun e w' => e = .returned (.tuple #[.int .i64 1, .int .i64 0, .int .i64 0]) ∧ Below w.heap.size w w' := by
  have he : (m.toList == [72, 69, 65, 68]) = (m.data.toList == headM) := by rw [ByteArray.toList_eq]; rfl
  unfold never at h
  cases h1 : m.data.toList == headM
  · rw [h1] at he h
    have h' : c < 200 ∨ (200 ≤ c ∧ c = 204) ∨ (200 ≤ c ∧ c ≠ 204 ∧ c = 304) := by
      simp at h; omega
    clear h1 h
    rcases h' with h | ⟨h, h'⟩ | ⟨h, h', h''⟩
    all_goals
      go_enter Tryd.func10, Tryd.ntmps10
      go_wp2_with fail
      go_ret3
      exact ⟨rfl, Below.refl _ _⟩
  · rw [h1] at he
    clear h1 h
    go_enter Tryd.func10, Tryd.ntmps10
    go_wp2_with fail
    go_ret3
    exact ⟨rfl, Below.refl _ _⟩

set_option maxHeartbeats 4000000 in
set_option maxRecDepth 100000 in
theorem rkind_at (req : Bool) (m : ByteArray) (c : Int) (v : Value) (ls : List Fld) (x y z : Int) (h : kd req m.data.toList c ls = (x, y, z)) (w : World) (hf : Fl w v ls) (hl : bulkF ls ≤ 1048576) :
    Calls Tryd.prog 10 #[.bool req, .string m, .int .i64 c, v] w fun e w' => e = .returned (.tuple #[.int .i64 x, .int .i64 y, .int .i64 z]) ∧ Below w.heap.size w w' := by
  cases hn : (!req && never m.data.toList c)
  · have HF : Hid (Fl w v ls) := hf
    have HL : Hid (bulkF ls ≤ 1048576) := hl
    have he : (m.toList == [72, 69, 65, 68]) = (m.data.toList == headM) := by rw [ByteArray.toList_eq]; rfl
    have key : req = true ∨ (req = false ∧ (m.toList == [72, 69, 65, 68]) = false ∧ decide (c < 200) = false ∧ (c == 204) = false ∧ (c == 304) = false) := by
      cases req
      · right
        have hn' : never m.data.toList c = false := by simpa using hn
        unfold never at hn'
        rw [← he] at hn'
        simp only [Bool.or_eq_false_iff, decide_eq_false_iff_not] at hn'
        exact ⟨rfl, hn'.1.1.1, decide_eq_false hn'.1.1.2, beq_eq_false_iff_ne.2 hn'.1.2, beq_eq_false_iff_ne.2 hn'.2⟩
      · exact Or.inl rfl
    have hk : kd req m.data.toList c ls = if (!(vals ls teN).isEmpty) = true then (if (!(vals ls clN).isEmpty || (lower (jn (vals ls teN)) != chkN)) = true then (0, 0, 10) else (3, 0, 0))
      else if (!(vals ls clN).isEmpty) = true then kdL (jn (vals ls clN)) else if req = true then (1, 0, 0) else (4, 0, 0) := by unfold kd; rw [hn]; rfl
    rw [hk] at h
    obtain ⟨t1, ht1⟩ : ∃ t : ByteArray, t.data.toList = jn (vals ls teN) := ⟨⟨(jn (vals ls teN)).toArray⟩, rfl⟩
    obtain ⟨t2, ht2⟩ : ∃ t : ByteArray, t.data.toList = jn (vals ls clN) := ⟨⟨(jn (vals ls clN)).toArray⟩, rfl⟩
    obtain ⟨t3, ht3⟩ : ∃ t : ByteArray, t.data.toList = lower t1.data.toList := ⟨⟨(lower t1.data.toList).toArray⟩, rfl⟩
    obtain ⟨b1, hb1⟩ : ∃ b : Bool, b = !(vals ls teN).isEmpty := ⟨_, rfl⟩
    obtain ⟨b2, hb2⟩ : ∃ b : Bool, b = !(vals ls clN).isEmpty := ⟨_, rfl⟩
    have H1 : Hid (t1.data.toList = jn (vals ls teL)) := by show _ = _; rw [ht1, vals_te]
    have H2 : Hid (t2.data.toList = jn (vals ls clL)) := by show _ = _; rw [ht2, vals_cl]
    have H3 : Hid (t3.data.toList = lower t1.data.toList) := ht3
    have B1 : Hid (b1 = !(vals ls teL).isEmpty) := by show _ = _; rw [hb1, vals_te]
    have B2 : Hid (b2 = !(vals ls clL).isEmpty) := by show _ = _; rw [hb2, vals_cl]
    have Z1 : Hid (t1.size ≤ 1048576) := by show _ ≤ _; rw [← size_list, ht1]; exact Nat.le_trans (jn_bulk _ _) hl
    have Z2 : Hid (t2.size ≤ 1048576) := by show _ ≤ _; rw [← size_list, ht2]; exact Nat.le_trans (jn_bulk _ _) hl
    have hz : (t3.toList != [99, 104, 117, 110, 107, 101, 100]) = (lower (jn (vals ls teN)) != chkN) := by rw [ByteArray.toList_eq, ht3, ht1]; rfl
    rw [← hb1, ← hb2, ← hz, ← ht2] at h
    have HH : Hid ((if b1 = true then (if (b2 || (t3.toList != [99, 104, 117, 110, 107, 101, 100])) = true then (0, 0, 10) else (3, 0, 0)) else if b2 = true then kdL t2.data.toList else if req = true then (1, 0, 0) else (4, 0, 0)) = ((x, y, z) : Int × Int × Int)) := h
    clear h hk ht1 ht2 ht3 hb1 hb2 hz hn he hf hl
    rcases key with rfl | ⟨rfl, k1, k2, k3, k4⟩
    all_goals
      go_enter Tryd.func10, Tryd.ntmps10
      go_wp2_with fail
      refine (rget_at v ls ⟨#[99, 111, 110, 116, 101, 110, 116, 45, 108, 101, 110, 103, 116, 104]⟩ t2 b2 H2.out B2.out _ HF.out HL.out (by decide)).mono ?_
      rintro e w1 ⟨rfl, hw1⟩
      go_wp2_with fail
      refine (rget_at v ls ⟨#[116, 114, 97, 110, 115, 102, 101, 114, 45, 101, 110, 99, 111, 100, 105, 110, 103]⟩ t1 b1 H1.out B1.out _ (HF.out.below hw1) HL.out (by decide)).mono ?_
      rintro e w2 ⟨rfl, hw2⟩
      have hw := hw1.trans (hw2.mono hw1.size)
      clear hw1 hw2
      cases b1
      · cases b2
        · go_wp2_with fail
          go_ret3
          exact ⟨ret_3i HH.out, hw⟩
        · have HK0 : Hid (kdL t2.data.toList = (x, y, z)) := HH.out
          go_wp2_with fail
          refine (rsplit_any t2 _).mono ?_
          rintro e w3 ⟨v3, rfl, hown, hw3⟩
          have hb := hw.trans (hw3.mono hw.size)
          clear hw hw3
          by_cases h0 : (splitS t2.data.toList).2 = 0
          · have HK : Hid (kdP (splitS t2.data.toList).1 = (x, y, z)) := by show _ = _; rw [← HK0.out]; unfold kdL; rw [if_pos h0]
            have hsp := splitS_parts t2.data.toList
            rw [h0]
            generalize (splitS t2.data.toList).1 = P at hown hsp HK
            clear h0 HH HK0
            obtain ⟨ad, cap, hv, hcm, hnc, hc⟩ := own_slice hown
            subst hv
            unfold maxLen at hcm
            match P, hown, hsp, HK, hnc, hc with
            | [], hown, hsp, HK, hnc, hc =>
              go_wp2_with fail
              go_ret3
              exact ⟨ret_3i HK.out, hb⟩
            | p :: r, hown, hsp, HK, hnc, hc =>
              obtain ⟨g, rfl, hgB, hgs, hce⟩ := hc (by simp)
              obtain ⟨N, hN⟩ : ∃ N, N = (p :: r).length := ⟨_, rfl⟩
              have hN0 : 0 < N := by rw [hN]; simp
              have hN20 : N ≤ 20 := by rw [hN]; exact hsp.1
              have hNi : (0 : Int) < N := by omega
              obtain ⟨q, hq⟩ : ∃ q : ByteArray, q = ⟨p.toArray⟩ := ⟨_, rfl⟩
              have HQ : Hid (q.data.toList = p) := by show _ = _; rw [hq]
              have hqs : q.size ≤ 1000 := by rw [← size_list, HQ.out]; exact hsp.2 p (by simp)
              have c0 : w3.cell? ⟨g, 0, none⟩ = some (.string q) := by rw [hce 0 (by simp), hq]; exact strs_get (p :: r) 0 (by simp)
              have HC : Hid (∀ (j : Nat) (h : j < (p :: r).length), w3.cell? ⟨g, j, none⟩ = some (.string ⟨((p :: r)[j]).toArray⟩)) := by
                intro j hj
                rw [hce j hj]; exact strs_get (p :: r) j hj
              have HN : Hid (N = (p :: r).length) := hN
              have HCN : Hid (cnt q.data.toList 9999 = if (rdLn p).2 = true then (rdLn p).1 else -1) := by show _ = _; rw [HQ.out, cnt_rd]
              rw [← hN] at hnc
              simp only [← hN]
              clear hce hc hown hsp hq hN
              obtain ⟨n, hn⟩ : ∃ n, n = cnt q.data.toList 9999 := ⟨_, rfl⟩
              have HNN : Hid (cnt q.data.toList 9999 = n) := hn.symm
              have hnv : n = if (rdLn p).2 = true then (rdLn p).1 else -1 := by rw [hn, HCN.out]
              clear hn
              go_wp2_with fail
              refine (count_any q 9999 _ (by unfold maxLen; omega)).mono ?_
              rintro e w4 ⟨rfl, rfl⟩
              rw [HNN.out]
              cases hrd : (rdLn p).2
              · rw [hrd] at hnv
                simp only [Bool.false_eq_true, if_false] at hnv
                subst hnv
                have HX : Hid (((0, 0, 10) : Int × Int × Int) = (x, y, z)) := by
                  show _ = _
                  rw [← HK.out]
                  cases ha : r.all (· == p)
                  · rw [kdP_diff p r ha]
                  · rw [kdP_same p r ha, hrd]; rfl
                go_wp2_with fail
                go_loopw [76] (fun i wr => i = .int .i64 0 ∧ wr = w4) (fun _ _ => 0)
                case atStart => exact ⟨rfl, rfl⟩
                case round =>
                  obtain ⟨rfl, rfl⟩ := hrel
                  go_wp2_with fail
                  go_ret3
                  exact ⟨ret_3i HX.out, hb⟩
              · obtain ⟨h1, h2, h3, h4⟩ := rdLn_bd p hrd
                rw [hrd] at hnv
                simp only [if_true] at hnv
                rw [← hnv] at h1 h2
                have HV : Hid (n = (rdLn p).1) := hnv
                have HRD : Hid ((rdLn p).2 = true) := hrd
                clear hnv hrd h3 h4
                go_wp2_with fail
                go_loopw [76] (fun i wr => ∃ k : Nat, k ≤ N ∧ i = .int .i64 k ∧ ((p :: r).take k).all (· == p) = true ∧ wr = w4) (fun i _ => N - (intOf i).toNat)
                case atStart => exact ⟨0, Nat.zero_le _, rfl, rfl, rfl⟩
                case round =>
                  obtain ⟨k, hk, rfl, hall, rfl⟩ := hrel
                  have HA : Hid (((p :: r).take k).all (· == p) = true) := hall
                  clear hall
                  by_cases hlt : k < N
                  · have hkl : k < (p :: r).length := by rw [← HN.out]; exact hlt
                    have hcell := HC.out k hkl
                    obtain ⟨u, hu⟩ : ∃ u : ByteArray, u = ⟨((p :: r)[k]).toArray⟩ := ⟨_, rfl⟩
                    rw [← hu] at hcell
                    have hki : (k : Int) < (N : Int) := by omega
                    have hk0 : (0 : Int) ≤ (k : Int) := by omega
                    cases hq : u.toList == q.toList
                    · have HM : Hid ((p :: r).all (· == p) = false) := by
                        refine all_miss p (p :: r) k hkl ?_
                        intro e
                        rw [ByteArray.toList_eq, ByteArray.toList_eq, HQ.out, hu, e] at hq
                        simp at hq
                      clear hu
                      go_wp2_with fail
                      go_ret3
                      refine ⟨ret_3i ?_, hb⟩
                      rw [← HK.out, kdP_diff]
                      have := HM.out
                      simpa using this
                    · have HM : Hid (((p :: r).take (k + 1)).all (· == p) = true) := by
                        refine all_take p (p :: r) k hkl HA.out ?_
                        rw [ByteArray.toList_eq, ByteArray.toList_eq, HQ.out, hu] at hq
                        simpa using hq
                      clear hu
                      go_wp2_with fail
                      go_roundw
                      case rel => exact ⟨k + 1, by omega, by go_num, HM.out, by first | rfl | trivial⟩
                      case measure => simp [intOf]; omega
                  · have hkN : k = N := by omega
                    subst hkN
                    have HS : Hid (r.all (· == p) = true) := by
                      show r.all (· == p) = true
                      have := HA.out
                      rw [HN.out, List.take_length] at this
                      simpa using this
                    have HKK : Hid ((if 5000 < n then (0, 0, 2) else (2, n, 0)) = ((x, y, z) : Int × Int × Int)) := by
                      show _ = _; rw [← HK.out, kdP_same p r HS.out, HRD.out, HV.out]; rfl
                    by_cases h5 : 5000 < n
                    · have HX : Hid (((0, 0, 2) : Int × Int × Int) = (x, y, z)) := by have := HKK.out; rw [if_pos h5] at this; exact this
                      go_wp2_with fail
                      go_ret3
                      exact ⟨ret_3i HX.out, hb⟩
                    · have HX : Hid (((2, n, 0) : Int × Int × Int) = (x, y, z)) := by have := HKK.out; rw [if_neg h5] at this; exact this
                      go_wp2_with fail
                      go_ret3
                      exact ⟨ret_3i HX.out, hb⟩
          · have HK : Hid (((0, 0, 10) : Int × Int × Int) = (x, y, z)) := by show _ = _; rw [← HK0.out]; unfold kdL; rw [if_neg h0]
            generalize (splitS t2.data.toList).2 = c2 at h0
            clear hown HH HK0
            go_wp2_with fail
            go_ret3
            exact ⟨ret_3i HK.out, hb⟩
      · cases b2
        · cases hc : (t3.toList == [99, 104, 117, 110, 107, 101, 100])
          · have HX : Hid (((0, 0, 10) : Int × Int × Int) = (x, y, z)) := by have := HH.out; rw [bne, hc] at this; exact this
            go_wp2_with fail
            refine (rlower_at t1 t3 H3.out _ (by have := Z1.out; omega)).mono ?_
            rintro e w3 ⟨rfl, rfl⟩
            go_wp2_with fail
            go_ret3
            exact ⟨ret_3i HX.out, hw⟩
          · have HX : Hid (((3, 0, 0) : Int × Int × Int) = (x, y, z)) := by have := HH.out; rw [bne, hc] at this; exact this
            go_wp2_with fail
            refine (rlower_at t1 t3 H3.out _ (by have := Z1.out; omega)).mono ?_
            rintro e w3 ⟨rfl, rfl⟩
            go_wp2_with fail
            go_ret3
            exact ⟨ret_3i HX.out, hw⟩
        · go_wp2_with fail
          go_ret3
          exact ⟨ret_3i HH.out, hw⟩
  · have hr : req = false := by cases req <;> simp_all
    have hv : never m.data.toList c = true := by rw [hr] at hn; simpa using hn
    subst hr
    have hk : kd false m.data.toList c ls = (1, 0, 0) := by unfold kd; rw [hv]; rfl
    rw [hk] at h
    simp only [Prod.mk.injEq] at h
    obtain ⟨rfl, rfl, rfl⟩ := h
    exact rkind_never m c v w hv
end Go.Proofs.YtofafonppajfkaaDoor
