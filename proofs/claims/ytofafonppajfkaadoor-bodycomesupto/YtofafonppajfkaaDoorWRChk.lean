/-
  What oneField of the document's answers computes; a string is no longer than Go allows.
-/
import Derived.Test.YtofafonppajfkaaDoorSpecF
import Derived.Test.YtofafonppajfkaaDoorWRTok
import Derived.Test.YtofafonppajfkaaDoorWRPlain
import Derived.Test.YtofafonppajfkaaDoorWRTrim
import Derived.Deep.RegionHeld3
import Derived.BigQuiet
import Derived.Deep.QuietTactic
namespace Go.Proofs.YtofafonppajfkaaDoor
open Go.RowKit

theorem rplain_is (s : ByteArray) (b : Bool) (h : allPlain s.data.toList = b) (w : World) (hs : s.size ≤ maxLen) :
    Calls Tryd.prog 49 #[.string s] w fun e w' => e = .returned (.bool b) ∧ w' = w := by
  rw [← h]; exact rplain_any s w hs


set_option maxHeartbeats 1000000 in
set_option maxRecDepth 100000 in
theorem roneField_any (n v : ByteArray) (w : World) (hn : n.size ≤ maxLen) (hv : v.size ≤ maxLen) :
    Calls Tryd.prog 55 #[.agg #[.string n, .string v]] w fun e w' => e = .returned (.int .i64 (chk1 (n.data.toList, v.data.toList))) ∧ Below w.heap.size w w' := by
  have HN : Hid (n.size ≤ maxLen) := hn
  have HV : Hid (v.size ≤ maxLen) := hv
  unfold maxLen at hn hv
  cases htk : token n.data.toList
  · have HC : Hid (chk1 (n.data.toList, v.data.toList) = 3) := chk1_tok _ htk
    have HT : Hid (token n.data.toList = false) := htk
    clear htk
    go_enter Tryd.func55, Tryd.ntmps55
    go_wp2_with fail
    refine (rtoken_any _ _ HN.out).mono ?_
    rintro e w1 ⟨rfl, rfl⟩
    rw [HT.out]
    go_wp2_with fail
    go_ret
    exact ⟨ret_int HC.out.symm, (Below.refl _ w).alloc (Nat.le_refl _) _⟩
  · have HT : Hid (token n.data.toList = true) := htk
    clear htk
    by_cases h1 : 30 < (n.size : Int)
    · have HC : Hid (chk1 (n.data.toList, v.data.toList) = 2) := chk1_large _ HT.out (.inl (by rw [size_list]; omega))
      have hd : decide (30 < (n.size : Int)) = true := decide_eq_true h1
      go_enter Tryd.func55, Tryd.ntmps55
      go_wp2_with fail
      refine (rtoken_any _ _ HN.out).mono ?_
      rintro e w1 ⟨rfl, rfl⟩
      rw [HT.out]
      go_wp2_with fail
      go_ret
      exact ⟨ret_int HC.out.symm, (Below.refl _ w).alloc (Nat.le_refl _) _⟩
    · have hd : decide (30 < (n.size : Int)) = false := decide_eq_false h1
      by_cases h2 : 1000 < (v.size : Int)
      · have HC : Hid (chk1 (n.data.toList, v.data.toList) = 2) := chk1_large _ HT.out (.inr (by rw [size_list]; omega))
        have hd2 : decide (1000 < (v.size : Int)) = true := decide_eq_true h2
        go_enter Tryd.func55, Tryd.ntmps55
        go_wp2_with fail
        refine (rtoken_any _ _ HN.out).mono ?_
        rintro e w1 ⟨rfl, rfl⟩
        rw [HT.out]
        go_wp2_with fail
        go_ret
        exact ⟨ret_int HC.out.symm, (Below.refl _ w).alloc (Nat.le_refl _) _⟩
      · have hd2 : decide (1000 < (v.size : Int)) = false := decide_eq_false h2
        have HL : Hid (¬ (30 < (n.data.toList, v.data.toList).1.length ∨ 1000 < (n.data.toList, v.data.toList).2.length)) := by
          show ¬ (30 < n.data.toList.length ∨ 1000 < v.data.toList.length)
          rw [size_list, size_list]; omega
        cases hp : allPlain v.data.toList
        · have HP : Hid (allPlain v.data.toList = false) := hp
          have HC : Hid (chk1 (n.data.toList, v.data.toList) = 3) := chk1_bad _ HT.out HL.out (fun h => by rw [hp] at h; simp at h)
          clear hp
          go_enter Tryd.func55, Tryd.ntmps55
          go_wp2_with fail
          refine (rtoken_any _ _ HN.out).mono ?_
          rintro e w1 ⟨rfl, rfl⟩
          rw [HT.out]
          go_wp2_with fail
          go_quiet (first | (go_at_call 49; exact Calls.quiet_of_same (rplain_is _ false HP.out _ HV.out)))
          go_wp2_with fail
          go_ret
          exact ⟨ret_int HC.out.symm, ((Below.refl _ w).alloc (Nat.le_refl _) _).trans (drewN_below _ _ _)⟩
        · have HP : Hid (allPlain v.data.toList = true) := hp
          clear hp
          obtain ⟨t, ht⟩ : ∃ t : ByteArray, t.data.toList = trimL v.data.toList := ⟨⟨(trimL v.data.toList).toArray⟩, rfl⟩
          have HTR : Hid (t.data.toList = trimL v.data.toList) := ht
          clear ht
          cases hq : (t.toList == v.toList)
          · have HC : Hid (chk1 (n.data.toList, v.data.toList) = 3) := chk1_bad _ HT.out HL.out (fun h => by
              have h2 : trimL v.data.toList = v.data.toList := h.2
              rw [ByteArray.toList_eq, ByteArray.toList_eq, HTR.out, h2] at hq
              simp at hq)
            go_enter Tryd.func55, Tryd.ntmps55
            go_wp2_with fail
            refine (rtoken_any _ _ HN.out).mono ?_
            rintro e w1 ⟨rfl, rfl⟩
            rw [HT.out]
            go_wp2_with fail
            go_region_held3 (fun w' => w'.cell? ⟨w.heap.size, 1, none⟩ = some (.string v)) (go_keep) (first | (go_at_call 49; refine (rplain_any _ _ HV.out).mono ?_; rintro e w2 ⟨rfl, rfl⟩; rw [HP.out]) | (go_at_call 54; refine (rtrim_at v.size v t _ (Nat.le_refl _) (by omega) HTR.out).mono ?_; rintro e w3 ⟨rfl, hb⟩; have hc3 : w3.cell? ⟨w.heap.size, 1, none⟩ = some (.string v) := (hb.cell (p := ⟨w.heap.size, 1, none⟩) (by simp)).trans (by simp)))
            all_goals
              go_wp2_with fail
              go_ret
              exact ⟨ret_int HC.out.symm, ((Below.refl _ w).alloc (Nat.le_refl _) _).drew.trans (hb.mono (by simp))⟩
          · have HC : Hid (chk1 (n.data.toList, v.data.toList) = 0) := chk1_ok _ HT.out HL.out ⟨HP.out, by
              rw [ByteArray.toList_eq, ByteArray.toList_eq, HTR.out] at hq
              simpa using hq⟩
            go_enter Tryd.func55, Tryd.ntmps55
            go_wp2_with fail
            refine (rtoken_any _ _ HN.out).mono ?_
            rintro e w1 ⟨rfl, rfl⟩
            rw [HT.out]
            go_wp2_with fail
            go_region_held3 (fun w' => w'.cell? ⟨w.heap.size, 1, none⟩ = some (.string v)) (go_keep) (first | (go_at_call 49; refine (rplain_any _ _ HV.out).mono ?_; rintro e w2 ⟨rfl, rfl⟩; rw [HP.out]) | (go_at_call 54; refine (rtrim_at v.size v t _ (Nat.le_refl _) (by omega) HTR.out).mono ?_; rintro e w3 ⟨rfl, hb⟩; have hc3 : w3.cell? ⟨w.heap.size, 1, none⟩ = some (.string v) := (hb.cell (p := ⟨w.heap.size, 1, none⟩) (by simp)).trans (by simp)))
            all_goals
              go_wp2_with fail
              go_ret
              exact ⟨ret_int HC.out.symm, ((Below.refl _ w).alloc (Nat.le_refl _) _).drew.trans (hb.mono (by simp))⟩
end Go.Proofs.YtofafonppajfkaaDoor
