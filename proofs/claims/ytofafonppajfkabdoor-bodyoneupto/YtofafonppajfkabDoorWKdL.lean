/-
  What kindByLength of package body computes; the listed variables of package strconv hold what their text lays.
-/
import Derived.Test.YtofafonppajfkabDoorWRdLn
namespace Go.Proofs.YtofafonppajfkabDoor
open Go.RowKit

theorem all_take (p : List UInt8) (P : List (List UInt8)) (k : Nat) (h : k < P.length) (h1 : (P.take k).all (· == p) = true) (h2 : P[k] = p) : (P.take (k + 1)).all (· == p) = true := by
  rw [List.take_succ_eq_append_getElem h, List.all_append, h1, h2]; simp
theorem all_miss (p : List UInt8) (P : List (List UInt8)) (k : Nat) (h : k < P.length) (h2 : P[k] ≠ p) : P.all (· == p) = false := by
  rw [Bool.eq_false_iff]
  intro ha
  rw [List.all_eq_true] at ha
  have := ha P[k] (List.getElem_mem h)
  exact h2 (by simpa using this)
theorem ret_3i {a b c x y z : Int} (h : ((a, b, c) : Int × Int × Int) = (x, y, z)) : Ending.returned (.tuple #[.int .i64 a, .int .i64 b, .int .i64 c]) = .returned (.tuple #[.int .i64 x, .int .i64 y, .int .i64 z]) := by
  simp only [Prod.mk.injEq] at h
  obtain ⟨rfl, rfl, rfl⟩ := h; rfl

set_option maxHeartbeats 2000000 in
set_option maxRecDepth 100000 in
theorem kindL_at (s : ByteArray) (x y z : Int) (h : kdL s.data.toList = (x, y, z)) (w : World) (hT : STabs w) :
    Calls Tryd.prog 19 #[.string s] w fun e w' => e = .returned (.tuple #[.int .i64 x, .int .i64 y, .int .i64 z]) ∧ Below w.heap.size w w' := by
  have HT : Hid (STabs w) := hT
  have HH : Hid (kdL s.data.toList = (x, y, z)) := h
  clear hT h
  go_enter Tryd.func19, Tryd.ntmps19
  go_wp2_with fail
  refine (split_any s _).mono ?_
  rintro e w1 ⟨v, rfl, hown, hb⟩
  have hsz := hb.size
  by_cases h0 : (splitS s.data.toList).2 = 0
  · have HK : Hid (kdP (splitS s.data.toList).1 = (x, y, z)) := by show _ = _; rw [← HH.out]; unfold kdL; rw [if_pos h0]
    have hsp := splitS_parts s.data.toList
    rw [h0]
    generalize (splitS s.data.toList).1 = P at hown hsp HK
    clear h0 HH
    obtain ⟨ad, cap, hv, hcm, hnc, hc⟩ := own_slice hown
    subst hv
    unfold maxLen at hcm
    match P, hown, hsp, HK, hnc, hc with
    | [], hown, hsp, HK, hnc, hc =>
      go_wp2_with fail
      go_ret3
      exact ⟨ret_3i HK.out, hb⟩
    | p :: r, hown, hsp, HK, hnc, hc =>
      obtain ⟨g, rfl, hgB, hgs, hce⟩ := hc (by simp)
      obtain ⟨N, hN⟩ : ∃ N, N = (p :: r).length := ⟨_, rfl⟩
      have hN0 : 0 < N := by rw [hN]; simp
      have hN20 : N ≤ 20 := by rw [hN]; exact hsp.1
      have hNi : (0 : Int) < N := by omega
      obtain ⟨q, hq⟩ : ∃ q : ByteArray, q = ⟨p.toArray⟩ := ⟨_, rfl⟩
      have HQ : Hid (q.data.toList = p) := by show _ = _; rw [hq]
      have hqs : q.size ≤ 1000 := by rw [← size_list, HQ.out]; exact hsp.2 p (by simp)
      have c0 : w1.cell? ⟨g, 0, none⟩ = some (.string q) := by rw [hce 0 (by simp), hq]; exact strs_get (p :: r) 0 (by simp)
      have HC : Hid (∀ (j : Nat) (h : j < (p :: r).length), w1.cell? ⟨g, j, none⟩ = some (.string ⟨((p :: r)[j]).toArray⟩)) := by
        intro j hj
        rw [hce j hj]; exact strs_get (p :: r) j hj
      have HN : Hid (N = (p :: r).length) := hN
      rw [← hN] at hnc
      simp only [← hN]
      clear hce hc hown hsp hq hN
      go_wp2_with fail
      go_loopw [25] (fun i wr => ∃ k : Nat, k ≤ N ∧ i = .int .i64 k ∧ ((p :: r).take k).all (· == p) = true ∧ wr = w1) (fun i _ => N - (intOf i).toNat)
      case atStart => exact ⟨0, Nat.zero_le _, rfl, rfl, rfl⟩
      case round =>
        obtain ⟨k, hk, rfl, hall, rfl⟩ := hrel
        have HA : Hid (((p :: r).take k).all (· == p) = true) := hall
        clear hall
        by_cases hlt : k < N
        · have hkl : k < (p :: r).length := by rw [← HN.out]; exact hlt
          have hcell := HC.out k hkl
          obtain ⟨u, hu⟩ : ∃ u : ByteArray, u = ⟨((p :: r)[k]).toArray⟩ := ⟨_, rfl⟩
          rw [← hu] at hcell
          have hki : (k : Int) < (N : Int) := by omega
          have hk0 : (0 : Int) ≤ (k : Int) := by omega
          cases hq : u.toList == q.toList
          · have HM : Hid ((p :: r).all (· == p) = false) := by
              refine all_miss p (p :: r) k hkl ?_
              intro e
              rw [ByteArray.toList_eq, ByteArray.toList_eq, HQ.out, hu, e] at hq
              simp at hq
            clear hu
            go_wp2_with fail
            go_ret3
            refine ⟨ret_3i ?_, hb⟩
            rw [← HK.out, kdP_diff]
            have := HM.out
            simpa using this
          · have HM : Hid (((p :: r).take (k + 1)).all (· == p) = true) := by
              refine all_take p (p :: r) k hkl HA.out ?_
              rw [ByteArray.toList_eq, ByteArray.toList_eq, HQ.out, hu] at hq
              simpa using hq
            clear hu
            go_wp2_with fail
            go_roundw
            case rel => exact ⟨k + 1, by omega, by go_num, HM.out, by first | rfl | trivial⟩
            case measure => simp [intOf]; omega
        · have hkN : k = N := by omega
          subst hkN
          have HS : Hid (r.all (· == p) = true) := by
            show r.all (· == p) = true
            have := HA.out
            rw [HN.out, List.take_length] at this
            simpa using this
          have HV : Hid (rdLn q.data.toList = ((rdLn p).1, (rdLn p).2)) := by show _ = _; rw [HQ.out]
          go_wp2_with fail
          refine (readLn_at q _ _ HV.out _ (by omega) (HT.out.below hb)).mono ?_
          rintro e w2 ⟨rfl, hb2⟩
          have hb3 := hb.trans (hb2.mono hb.size)
          have HKK : Hid ((if (rdLn p).2 then (if 5000 < (rdLn p).1 then (0, 0, 2) else (2, (rdLn p).1, 0)) else (0, 0, 10)) = ((x, y, z) : Int × Int × Int)) := by
            show _ = _; rw [← HK.out, kdP_same p r HS.out]
          generalize rdLn p = R at HKK
          obtain ⟨R1, R2⟩ := R
          clear hb hb2
          cases R2
          · go_wp2_with fail
            go_ret3
            exact ⟨ret_3i HKK.out, hb3⟩
          · by_cases h5 : 5000 < R1
            · have HX : Hid (((0, 0, 2) : Int × Int × Int) = (x, y, z)) := by
                have := HKK.out
                simp only [if_true] at this
                rw [if_pos h5] at this; exact this
              go_wp2_with fail
              go_ret3
              exact ⟨ret_3i HX.out, hb3⟩
            · have HX : Hid (((2, R1, 0) : Int × Int × Int) = (x, y, z)) := by
                have := HKK.out
                simp only [if_true] at this
                rw [if_neg h5] at this; exact this
              go_wp2_with fail
              go_ret3
              exact ⟨ret_3i HX.out, hb3⟩
  · have HK : Hid (((0, 0, 10) : Int × Int × Int) = (x, y, z)) := by show _ = _; rw [← HH.out]; unfold kdL; rw [if_neg h0]
    generalize (splitS s.data.toList).2 = c2 at h0
    clear hown HH
    go_wp2_with fail
    go_ret3
    exact ⟨ret_3i HK.out, hb⟩
end Go.Proofs.YtofafonppajfkabDoor
