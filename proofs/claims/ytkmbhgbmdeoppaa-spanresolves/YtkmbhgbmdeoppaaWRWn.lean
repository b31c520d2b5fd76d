/-
  What the document's answers wanted and SpanCheck compute; all numbers fit.
-/
import Derived.Test.YtkmbhgbmdeoppaaSpecWs
import Derived.Test.YtkmbhgbmdeoppaaSpecWl
import Derived.Test.YtkmbhgbmdeoppaaWRWo
namespace Go.Proofs.Ytkmbhgbmdeoppaa
open Go.RowKit

set_option maxHeartbeats 1000000 in
set_option maxRecDepth 100000 in
theorem rwanted_any (a b : Int) (w : World) :
    Calls Try.prog 19 #[.agg #[.int .i64 a, .int .i64 b]] w fun e w' => e = .returned (.bool (okW (a, b))) ∧ Below w.heap.size w w' := by
  have hw0 : Below w.heap.size w (w.alloc (.cells #[.int .i64 a, .int .i64 b] 35)) := (Below.refl _ w).alloc (Nat.le_refl _) _
  have hsz : (w.alloc (.cells #[.int .i64 a, .int .i64 b] 35)).heap.size = w.heap.size + 1 := by simp
  by_cases h : a = -1
  · obtain ⟨r, hr⟩ : ∃ r, (!decide (0 ≤ b ∧ b ≤ 99999)) = r := ⟨_, rfl⟩
    have HR : Hid ((!decide (0 ≤ b ∧ b ≤ 99999)) = r) := hr
    have HO : Hid ((!r) = okW (a, b)) := by
      show _ = _
      rw [← hr, Bool.not_not]
      unfold okW
      rw [if_pos (show (a, b).1 = -1 from h)]
    subst h
    clear hr
    go_enter Try.func19, Try.ntmps19
    go_wp2_with fail
    refine (rout_at b 0 99999 r HR.out _).mono ?_
    rintro e w1 ⟨rfl, hb1⟩
    have hw1 := hw0.trans (hb1.mono (by rw [hsz]; omega))
    go_wp2_with fail
    go_ret
    exact ⟨ret_bool HO.out, hw1⟩
  · have hne : (a == -1) = false := beq_eq_false_iff_ne.2 h
    obtain ⟨r, hr⟩ : ∃ r, (!decide (0 ≤ a ∧ a ≤ 99999)) = r := ⟨_, rfl⟩
    obtain ⟨q, hq⟩ : ∃ q, (!decide (a ≤ b ∧ b ≤ 99999)) = q := ⟨_, rfl⟩
    have HR : Hid ((!decide (0 ≤ a ∧ a ≤ 99999)) = r) := hr
    have HQ : Hid ((!decide (a ≤ b ∧ b ≤ 99999)) = q) := hq
    have HO : Hid ((!r && (decide (b = -1) || !q)) = okW (a, b)) := by
      show _ = _
      rw [← hr, ← hq, Bool.not_not, Bool.not_not]
      unfold okW
      rw [if_neg (show ¬ (a, b).1 = -1 from h)]
    have k0 : (w.alloc (.cells #[.int .i64 a, .int .i64 b] 35)).cell? ⟨w.heap.size, 0, none⟩ = some (.int .i64 a) := by simp
    have k1 : (w.alloc (.cells #[.int .i64 a, .int .i64 b] 35)).cell? ⟨w.heap.size, 1, none⟩ = some (.int .i64 b) := by simp
    have HK0 : Hid ((w.alloc (.cells #[.int .i64 a, .int .i64 b] 35)).cell? ⟨w.heap.size, 0, none⟩ = some (.int .i64 a)) := k0
    have HK1 : Hid ((w.alloc (.cells #[.int .i64 a, .int .i64 b] 35)).cell? ⟨w.heap.size, 1, none⟩ = some (.int .i64 b)) := k1
    clear hr hq h k0 k1
    cases r
    · by_cases hb : b = -1
      · have hbe : (b == -1) = true := beq_iff_eq.2 hb
        have HBD : Hid (decide (b = -1) = true) := decide_eq_true hb
        clear hb
        go_enter Try.func19, Try.ntmps19
        go_wp2_with fail
        refine (rout_at a 0 99999 false HR.out _).mono ?_
        rintro e w1 ⟨rfl, hb1⟩
        have hw1 := hw0.trans (hb1.mono (by rw [hsz]; omega))
        have c0 := cell_keep hb1 HK0.out
        have c1 := cell_keep hb1 HK1.out
        go_wp2_with fail
        go_ret
        exact ⟨ret_bool (by rw [← HO.out, HBD.out]; rfl), hw1⟩
      · have hbe : (b == -1) = false := beq_eq_false_iff_ne.2 hb
        have HBD : Hid (decide (b = -1) = false) := decide_eq_false hb
        clear hb
        go_enter Try.func19, Try.ntmps19
        go_wp2_with fail
        refine (rout_at a 0 99999 false HR.out _).mono ?_
        rintro e w1 ⟨rfl, hb1⟩
        have hw1 := hw0.trans (hb1.mono (by rw [hsz]; omega))
        have c0 := cell_keep hb1 HK0.out
        have c1 := cell_keep hb1 HK1.out
        go_wp2_with fail
        refine (rout_at b a 99999 q HQ.out _).mono ?_
        rintro e w2 ⟨rfl, hb2⟩
        have hw2 := hw1.trans (hb2.mono hw1.size)
        go_wp2_with fail
        go_ret
        exact ⟨ret_bool (by rw [← HO.out, HBD.out]; cases q <;> rfl), hw2⟩
    · go_enter Try.func19, Try.ntmps19
      go_wp2_with fail
      refine (rout_at a 0 99999 true HR.out _).mono ?_
      rintro e w1 ⟨rfl, hb1⟩
      have hw1 := hw0.trans (hb1.mono (by rw [hsz]; omega))
      go_wp2_with fail
      go_ret
      exact ⟨ret_bool (by rw [← HO.out]; rfl), hw1⟩
theorem all_take (ls : List Wn) (k : Nat) (h : k < ls.length) (h0 : (ls.take k).all okW = true) (h1 : okW ls[k] = true) : (ls.take (k + 1)).all okW = true := by
  rw [List.take_succ_eq_append_getElem h, List.all_append, h0, List.all_cons, h1]; rfl
theorem all_dead (ls : List Wn) (k : Nat) (h : k < ls.length) (h1 : okW ls[k] = false) : ls.all okW = false := by
  rw [List.all_eq_false]
  exact ⟨ls[k], List.getElem_mem h, by rw [h1]; simp⟩
set_option maxHeartbeats 1000000 in
set_option maxRecDepth 100000 in
theorem rscheck_any (v : Value) (ls : List Wn) (w : World) (hf : Wl w v ls) :
    Calls Try.prog 13 #[v] w fun e w' => e = .returned (.int .i64 (chkW ls)) ∧ Below w.heap.size w w' := by
  have HF : Hid (Wl w v ls) := hf
  obtain ⟨ad, cap, rfl, hcap, hcm, _⟩ := id hf
  unfold maxLen at hcm
  clear hf
  go_enter Try.func13, Try.ntmps13
  go_wp2_with fail
  go_loopw [7] (fun i wr => ∃ k : Nat, k ≤ ls.length ∧ i = .int .i64 k ∧ (ls.take k).all okW = true ∧ Below w.heap.size w wr) (fun i _ => ls.length - (intOf i).toNat)
  case atStart => exact ⟨0, Nat.zero_le _, rfl, rfl, Below.refl _ _⟩
  case round =>
    obtain ⟨k, hk, rfl, hall, hw⟩ := hrel
    have HA : Hid ((ls.take k).all okW = true) := hall
    have hsz := hw.size
    clear hall
    by_cases hlt : k < ls.length
    · obtain ⟨ad', cap', hv', _, _, hc'⟩ := HF.out
      simp only [Value.slice.injEq] at hv'
      obtain ⟨rfl, _, rfl⟩ := hv'
      obtain ⟨g, off, rfl, hgs, hce⟩ := hc' (by omega)
      obtain ⟨c1, c2⟩ := hce k hlt
      obtain ⟨a, ha⟩ : ∃ a, a = (ls[k]).1 := ⟨_, rfl⟩
      obtain ⟨b, hb⟩ : ∃ b, b = (ls[k]).2 := ⟨_, rfl⟩
      have HE : Hid (ls[k] = (a, b)) := by show _ = _; rw [ha, hb]
      have d1 : wr.cell? ⟨g, off + k * 2, none⟩ = some (.int .i64 a) := by rw [hw.cell (p := ⟨g, off + k * 2, none⟩) hgs, ha]; exact c1
      have d2 : wr.cell? ⟨g, off + k * 2 + 1, none⟩ = some (.int .i64 b) := by rw [hw.cell (p := ⟨g, off + k * 2 + 1, none⟩) hgs, hb]; exact c2
      have hgr : g < wr.heap.size := by omega
      have hki : (k : Int) < (ls.length : Int) := by omega
      have hk0 : (0 : Int) ≤ (k : Int) := by omega
      clear hce c1 c2 ha hb hc'
      obtain ⟨r, hr⟩ : ∃ r, okW (a, b) = r := ⟨_, rfl⟩
      have HR : Hid (okW (a, b) = r) := hr
      clear hr
      have hw0 := hw.alloc hsz (.cells #[.int .i64 a, .int .i64 b] 35)
      cases r
      · have HD : Hid (chkW ls = 1) := by
          show _ = _
          unfold chkW
          rw [if_pos (all_dead ls k hlt (by rw [HE.out, HR.out]))]
        go_wp2_with fail
        refine (rwanted_any a b _).mono ?_
        rintro e w1 ⟨rfl, hb1⟩
        rw [HR.out]
        have hw1 := hw0.trans (hb1.mono hw0.size)
        go_wp2_with fail
        go_ret
        exact ⟨ret_int HD.out.symm, hw1⟩
      · have HN : Hid ((ls.take (k + 1)).all okW = true) := all_take ls k hlt HA.out (by rw [HE.out, HR.out])
        go_wp2_with fail
        refine (rwanted_any a b _).mono ?_
        rintro e w1 ⟨rfl, hb1⟩
        rw [HR.out]
        have hw1 := hw0.trans (hb1.mono hw0.size)
        go_wp2_with fail
        go_roundw
        case rel => exact ⟨k + 1, by omega, by go_num, HN.out, hw1⟩
        case measure => simp [intOf]; omega
    · have HAL : Hid (ls.all okW = true) := by
        show _ = _
        have := HA.out
        rwa [List.take_of_length_le (by omega)] at this
      by_cases h0 : ls.length = 0
      · have h0i : ((ls.length : Int) == 0) = true := by simp [h0]
        have HD : Hid (chkW ls = 1) := by
          show _ = _
          unfold chkW
          rw [if_neg (by rw [HAL.out]; simp), if_pos h0]
        clear h0
        go_wp2_with fail
        go_ret
        exact ⟨ret_int HD.out.symm, hw⟩
      · have h0i : ((ls.length : Int) == 0) = false := beq_eq_false_iff_ne.2 (by omega)
        by_cases h20 : 20 < ls.length
        · have h20i : (20 : Int) < (ls.length : Int) := by omega
          have HD : Hid (chkW ls = 2) := by
            show _ = _
            unfold chkW
            rw [if_neg (by rw [HAL.out]; simp), if_neg h0, if_pos h20]
          go_wp2_with fail
          go_ret
          exact ⟨ret_int HD.out.symm, hw⟩
        · have h20i : ¬ (20 : Int) < (ls.length : Int) := by omega
          have HD : Hid (chkW ls = 0) := by
            show _ = _
            unfold chkW
            rw [if_neg (by rw [HAL.out]; simp), if_neg h0, if_neg h20]
          go_wp2_with fail
          go_ret
          exact ⟨ret_int HD.out.symm, hw⟩
end Go.Proofs.Ytkmbhgbmdeoppaa
