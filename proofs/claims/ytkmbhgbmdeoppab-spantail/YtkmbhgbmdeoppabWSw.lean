/-
  What isWant, checkWants and hasBytes of package span compute; all numbers fit.
-/
import Derived.Test.YtkmbhgbmdeoppabSpecWs
import Derived.Test.YtkmbhgbmdeoppabSpecWl
import Derived.Test.YtkmbhgbmdeoppabSpecAl
import Derived.Test.YtkmbhgbmdeoppabShelf
import Derived.Test.YtkmbhgbmdeoppabRows
namespace Go.Proofs.Ytkmbhgbmdeoppab
open Go.RowKit

set_option maxHeartbeats 1000000 in
set_option maxRecDepth 100000 in
theorem swant_any (a b : Int) (w : World) :
    Calls Try.prog 20 #[.agg #[.int .i64 a, .int .i64 b]] w fun e w' => e = .returned (.bool (okW (a, b))) ∧ Below w.heap.size w w' := by
  have hw0 : Below w.heap.size w (w.alloc (.cells #[.int .i64 a, .int .i64 b] 32)) := (Below.refl _ w).alloc (Nat.le_refl _) _
  by_cases h1 : 99999 < a
  · have HO : Hid (false = okW (a, b)) := by
      show _ = _
      symm; unfold okW; rw [if_neg (show ¬ a = -1 by omega)]; simp; omega
    go_enter Try.func20, Try.ntmps20
    go_wp2_with fail
    go_ret
    exact ⟨ret_bool HO.out, hw0⟩
  · by_cases h2 : 99999 < b
    · have HO : Hid (false = okW (a, b)) := by
        show _ = _
        symm; unfold okW
        by_cases h : a = -1
        · rw [if_pos (show (a, b).1 = -1 from h)]; simp; omega
        · rw [if_neg (show ¬ (a, b).1 = -1 from h)]; simp; omega
      go_enter Try.func20, Try.ntmps20
      go_wp2_with fail
      go_ret
      exact ⟨ret_bool HO.out, hw0⟩
    · by_cases h3 : a = -1
      · have HO : Hid (decide (0 ≤ b) = okW (a, b)) := by
          show _ = _
          unfold okW
          rw [if_pos (show (a, b).1 = -1 from h3)]
          exact decide_eq_decide.2 ⟨fun h => ⟨h, by omega⟩, fun h => h.1⟩
        subst h3
        go_enter Try.func20, Try.ntmps20
        go_wp2_with fail
        go_ret
        exact ⟨ret_bool HO.out, hw0⟩
      · have h3b : (a == -1) = false := beq_eq_false_iff_ne.2 h3
        by_cases h4 : b = -1
        · have HO : Hid (decide (0 ≤ a) = okW (a, b)) := by
            show _ = _
            unfold okW
            rw [if_neg (show ¬ (a, b).1 = -1 from h3)]
            rw [decide_eq_true (show (a, b).2 = -1 from h4), Bool.true_or, Bool.and_true]
            exact decide_eq_decide.2 ⟨fun h => ⟨h, by omega⟩, fun h => h.1⟩
          subst h4
          clear h3
          go_enter Try.func20, Try.ntmps20
          go_wp2_with fail
          go_ret
          exact ⟨ret_bool HO.out, hw0⟩
        · have h4b : (b == -1) = false := beq_eq_false_iff_ne.2 h4
          have HO : Hid ((decide (0 ≤ a) && decide (a ≤ b)) = okW (a, b)) := by
            show _ = _
            unfold okW
            rw [if_neg (show ¬ (a, b).1 = -1 from h3), decide_eq_false (show ¬ (a, b).2 = -1 from h4), Bool.false_or]
            rw [Bool.eq_iff_iff]; simp; omega
          clear h3 h4
          by_cases h5 : 0 ≤ a
          · go_enter Try.func20, Try.ntmps20
            go_wp2_with fail
            go_ret
            exact ⟨ret_bool (by rw [← HO.out, decide_eq_true h5]; first | rfl | simp), hw0⟩
          · go_enter Try.func20, Try.ntmps20
            go_wp2_with fail
            go_ret
            exact ⟨ret_bool (by rw [← HO.out, decide_eq_false (show ¬ 0 ≤ a by omega)]; first | rfl | simp), hw0⟩
theorem alls_take (ls : List Wn) (k : Nat) (h : k < ls.length) (h0 : (ls.take k).all okW = true) (h1 : okW ls[k] = true) : (ls.take (k + 1)).all okW = true := by
  rw [List.take_succ_eq_append_getElem h, List.all_append, h0, List.all_cons, h1]; rfl
theorem alls_dead (ls : List Wn) (k : Nat) (h : k < ls.length) (h1 : okW ls[k] = false) : ls.all okW = false := by
  rw [List.all_eq_false]
  exact ⟨ls[k], List.getElem_mem h, by rw [h1]; simp⟩
set_option maxHeartbeats 1000000 in
set_option maxRecDepth 100000 in
theorem scheck_any (v : Value) (ls : List Wn) (w : World) (hf : Wl w v ls) :
    Calls Try.prog 13 #[v] w fun e w' => e = .returned (.int .i64 (chkW ls)) ∧ Below w.heap.size w w' := by
  have HF : Hid (Wl w v ls) := hf
  obtain ⟨ad, cap, rfl, hcap, hcm, _⟩ := id hf
  unfold maxLen at hcm
  clear hf
  go_enter Try.func13, Try.ntmps13
  go_wp2_with fail
  go_loopw [7] (fun i wr => ∃ k : Nat, k ≤ ls.length ∧ i = .int .i64 k ∧ (ls.take k).all okW = true ∧ Below w.heap.size w wr) (fun i _ => ls.length - (intOf i).toNat)
  case atStart => exact ⟨0, Nat.zero_le _, rfl, rfl, Below.refl _ _⟩
  case round =>
    obtain ⟨k, hk, rfl, hall, hw⟩ := hrel
    have HA : Hid ((ls.take k).all okW = true) := hall
    have hsz := hw.size
    clear hall
    by_cases hlt : k < ls.length
    · obtain ⟨ad', cap', hv', _, _, hc'⟩ := HF.out
      simp only [Value.slice.injEq] at hv'
      obtain ⟨rfl, _, rfl⟩ := hv'
      obtain ⟨g, off, rfl, hgs, hce⟩ := hc' (by omega)
      obtain ⟨c1, c2⟩ := hce k hlt
      obtain ⟨a, ha⟩ : ∃ a, a = (ls[k]).1 := ⟨_, rfl⟩
      obtain ⟨b, hb⟩ : ∃ b, b = (ls[k]).2 := ⟨_, rfl⟩
      have HE : Hid (ls[k] = (a, b)) := by show _ = _; rw [ha, hb]
      have d1 : wr.cell? ⟨g, off + k * 2, none⟩ = some (.int .i64 a) := by rw [hw.cell (p := ⟨g, off + k * 2, none⟩) hgs, ha]; exact c1
      have d2 : wr.cell? ⟨g, off + k * 2 + 1, none⟩ = some (.int .i64 b) := by rw [hw.cell (p := ⟨g, off + k * 2 + 1, none⟩) hgs, hb]; exact c2
      have hgr : g < wr.heap.size := by omega
      have hki : (k : Int) < (ls.length : Int) := by omega
      have hk0 : (0 : Int) ≤ (k : Int) := by omega
      clear hce c1 c2 ha hb hc'
      obtain ⟨r, hr⟩ : ∃ r, okW (a, b) = r := ⟨_, rfl⟩
      have HR : Hid (okW (a, b) = r) := hr
      clear hr
      have hw0 := hw.alloc hsz (.cells #[.int .i64 a, .int .i64 b] 32)
      cases r
      · have HD : Hid (chkW ls = 1) := by
          show _ = _
          unfold chkW
          rw [if_pos (alls_dead ls k hlt (by rw [HE.out, HR.out]))]
        go_wp2_with fail
        refine (swant_any a b _).mono ?_
        rintro e w1 ⟨rfl, hb1⟩
        rw [HR.out]
        have hw1 := hw0.trans (hb1.mono hw0.size)
        go_wp2_with fail
        go_ret
        exact ⟨ret_int HD.out.symm, hw1⟩
      · have HN : Hid ((ls.take (k + 1)).all okW = true) := alls_take ls k hlt HA.out (by rw [HE.out, HR.out])
        go_wp2_with fail
        refine (swant_any a b _).mono ?_
        rintro e w1 ⟨rfl, hb1⟩
        rw [HR.out]
        have hw1 := hw0.trans (hb1.mono hw0.size)
        go_wp2_with fail
        go_roundw
        case rel => exact ⟨k + 1, by omega, by go_num, HN.out, hw1⟩
        case measure => simp [intOf]; omega
    · have HAL : Hid (ls.all okW = true) := by
        show _ = _
        have := HA.out
        rwa [List.take_of_length_le (by omega)] at this
      by_cases h0 : ls.length = 0
      · have h0i : ((ls.length : Int) == 0) = true := by simp [h0]
        have HD : Hid (chkW ls = 1) := by
          show _ = _
          unfold chkW
          rw [if_neg (by rw [HAL.out]; simp), if_pos h0]
        clear h0
        go_wp2_with fail
        go_ret
        exact ⟨ret_int HD.out.symm, hw⟩
      · have h0i : ((ls.length : Int) == 0) = false := beq_eq_false_iff_ne.2 (by omega)
        by_cases h20 : 20 < ls.length
        · have h20i : (20 : Int) < (ls.length : Int) := by omega
          have HD : Hid (chkW ls = 2) := by
            show _ = _
            unfold chkW
            rw [if_neg (by rw [HAL.out]; simp), if_neg h0, if_pos h20]
          go_wp2_with fail
          go_ret
          exact ⟨ret_int HD.out.symm, hw⟩
        · have h20i : ¬ (20 : Int) < (ls.length : Int) := by omega
          have HD : Hid (chkW ls = 0) := by
            show _ = _
            unfold chkW
            rw [if_neg (by rw [HAL.out]; simp), if_neg h0, if_neg h20]
          go_wp2_with fail
          go_ret
          exact ⟨ret_int HD.out.symm, hw⟩
end Go.Proofs.Ytkmbhgbmdeoppab
