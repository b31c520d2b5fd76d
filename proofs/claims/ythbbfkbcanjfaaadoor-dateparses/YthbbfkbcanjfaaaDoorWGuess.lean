/-
  What number and monthNumber of package date compute, each a contract over the program's text; the tables that they read hold what the program's text lays there.
-/
import Derived.Test.YthbbfkbcanjfaaaDoorSpecGs
import Derived.Test.YthbbfkbcanjfaaaDoorWDPrint
import Derived.Test.YthbbfkbcanjfaaaDoorWDays
import Derived.Deep.QuietTactic
import Derived.BigQuiet
namespace Go.Proofs.YthbbfkbcanjfaaaDoor
open Go.RowKit

theorem ret_ib {a b : Int} {c d : Bool} (h : a = b) (h' : c = d) : Ending.returned (.tuple #[.int .i64 a, .bool c]) = .returned (.tuple #[.int .i64 b, .bool d]) := by rw [h, h']
theorem ret_i {a b : Int} (h : a = b) : Ending.returned (.int .i64 a) = .returned (.int .i64 b) := by rw [h]

theorem numb_bd (l : List UInt8) : ∀ k : Nat, k ≤ 4 → l.length = k → -53328 ≤ numb l ∧ numb l ≤ 229977 := by
  intro k hk hl
  match l, hl with
  | [], _ => exact ⟨by decide, by decide⟩
  | [a], _ =>
    have := a.toNat_lt
    show -53328 ≤ 0 * 10 + (a.toNat : Int) - 48 ∧ 0 * 10 + (a.toNat : Int) - 48 ≤ 229977
    omega
  | [a, b], _ => have := numb_bd2 (l := [a, b]) rfl; omega
  | [a, b, c], _ =>
    have := a.toNat_lt; have := b.toNat_lt; have := c.toNat_lt
    show -53328 ≤ ((0 * 10 + (a.toNat : Int) - 48) * 10 + (b.toNat : Int) - 48) * 10 + (c.toNat : Int) - 48 ∧ ((0 * 10 + (a.toNat : Int) - 48) * 10 + (b.toNat : Int) - 48) * 10 + (c.toNat : Int) - 48 ≤ 229977
    omega
  | [a, b, c, d], _ => exact numb_bd4 (l := [a, b, c, d]) rfl
  | _ :: _ :: _ :: _ :: _ :: _, h => simp at h; omega

set_option maxHeartbeats 1000000 in
theorem number_any (s : ByteArray) (w : World) (hs : s.size ≤ 4) :
    Calls Tryd.prog 33 #[.string s] w fun e w' => e = .returned (.int .i64 (numb s.data.toList)) ∧ w' = w := by
  go_enter Tryd.func33, Tryd.ntmps33
  go_wp2_with fail
  go_loop [3, 7] (fun n i => ∃ k : Nat, k ≤ s.size ∧ i = .int .i64 k ∧ n = .int .i64 (numb (s.data.toList.take k))) (fun _ i => s.size - (intOf i).toNat)
  case atStart => exact ⟨0, Nat.zero_le _, rfl, rfl⟩
  case round =>
    obtain ⟨k, hk, rfl, rfl⟩ := hrel
    have hl : (s.data.toList.take k).length = k := by rw [List.length_take, size_list]; omega
    have hb := numb_bd (s.data.toList.take k) k (by omega) hl
    clear hl
    by_cases hlt : k < s.size
    · have HS : Hid (numb (s.data.toList.take (k + 1)) = numb (s.data.toList.take k) * 10 + (s[k].toNat : Int) - 48) := by
        show numb _ = _
        rw [take_snoc s k hlt, numb_snoc]
      have hc := s[k].toNat_lt
      go_wp2_with fail
      go_round
      case rel => exact ⟨k + 1, by omega, by go_num, by rw [HS.out]⟩
      case measure => simp [intOf]; omega
    · obtain rfl : k = s.size := by omega
      go_wp2_with fail
      go_ret
      exact ⟨ret_i (by rw [take_all]), rfl⟩

set_option maxRecDepth 100000 in
theorem month_idx (k : Nat) (h : k < 12) (w : World) : Sem.run Tryd.prog (Instr.index 42 (.agg #[.string ⟨(monthS 0).toArray⟩, .string ⟨(monthS 1).toArray⟩, .string ⟨(monthS 2).toArray⟩, .string ⟨(monthS 3).toArray⟩, .string ⟨(monthS 4).toArray⟩, .string ⟨(monthS 5).toArray⟩, .string ⟨(monthS 6).toArray⟩, .string ⟨(monthS 7).toArray⟩, .string ⟨(monthS 8).toArray⟩, .string ⟨(monthS 9).toArray⟩, .string ⟨(monthS 10).toArray⟩, .string ⟨(monthS 11).toArray⟩]) (.int .i64 (k : Int))) w = .ok (.string ⟨(monthS k).toArray⟩) w := by
  have e := Tryd.underlying42
  rcases (show k = 0 ∨ k = 1 ∨ k = 2 ∨ k = 3 ∨ k = 4 ∨ k = 5 ∨ k = 6 ∨ k = 7 ∨ k = 8 ∨ k = 9 ∨ k = 10 ∨ k = 11 by omega) with rfl | rfl | rfl | rfl | rfl | rfl | rfl | rfl | rfl | rfl | rfl | rfl <;> simp [Instr.index, run_underlying e, asIntOf, go_sem]

set_option maxHeartbeats 2000000 in
set_option maxRecDepth 100000 in
theorem month_any (s : ByteArray) (w : World) (ht : DTabs w) :
    Calls Tryd.prog 34 #[.string s] w fun e w' => e = .returned (.int .i64 (mnum s.data.toList)) ∧ w' = w := by
  have h0 := ht.month 0 (by omega)
  have h1 := ht.month 1 (by omega)
  have h2 := ht.month 2 (by omega)
  have h3 := ht.month 3 (by omega)
  have h4 := ht.month 4 (by omega)
  have h5 := ht.month 5 (by omega)
  have h6 := ht.month 6 (by omega)
  have h7 := ht.month 7 (by omega)
  have h8 := ht.month 8 (by omega)
  have h9 := ht.month 9 (by omega)
  have h10 := ht.month 10 (by omega)
  have h11 := ht.month 11 (by omega)
  clear ht
  go_enter Tryd.func34, Tryd.ntmps34
  go_wp2_with fail
  go_loop [6] (fun i => ∃ k : Nat, k ≤ 12 ∧ i = .int .i64 k ∧ mnum s.data.toList = mnumAt s.data.toList k) (fun i => 12 - (intOf i).toNat)
  case atStart => exact ⟨0, by omega, rfl, rfl⟩
  case round =>
    obtain ⟨k, hk, rfl, hm⟩ := hrel
    have HM : Hid (mnum s.data.toList = mnumAt s.data.toList k) := hm
    clear hm
    by_cases hlt : k < 12
    · clear h0 h1 h2 h3 h4 h5 h6 h7 h8 h9 h10 h11
      have hi := month_idx k hlt w
      obtain ⟨a, ha⟩ : ∃ a : ByteArray, a = ⟨(monthS k).toArray⟩ := ⟨_, rfl⟩
      rw [← ha] at hi
      have HA : Hid (a.data.toList = monthS k) := by show a.data.toList = _; rw [ha]
      clear ha
      by_cases he : a = s
      · subst he
        go_wp2_with fail
        go_ret
        exact ⟨ret_i (by rw [HM.out, mnum_hit _ k hlt HA.out.symm]), rfl⟩
      · have HE : Hid (monthS k ≠ s.data.toList) := fun h => he (ByteArray.ext (Array.toList_inj.1 (HA.out.trans h)))
        have hq : (a.toList == s.toList) = false := by
          rw [ByteArray.toList_eq, ByteArray.toList_eq, beq_eq_false_iff_ne]
          exact fun h => he (ByteArray.ext (Array.toList_inj.1 h))
        clear he
        go_wp2_with fail
        go_round
        case rel => exact ⟨k + 1, by omega, by go_num, by rw [HM.out, mnum_miss _ k hlt HE.out]⟩
        case measure => simp [intOf]; omega
    · obtain rfl : k = 12 := by omega
      go_wp2_with fail
      go_ret
      exact ⟨ret_i (by rw [HM.out, mnum_end]), rfl⟩

theorem ext_list (s : ByteArray) (i j : Nat) : (s.extract i j).data.toList = sl s.data.toList i j := by
  rw [ByteArray.data_extract, Array.toList_extract]
  rfl

set_option maxHeartbeats 2000000 in
set_option maxRecDepth 100000 in
theorem guess_short (s : ByteArray) (w : World) (hs : s.size ≠ 29) :
    Calls Tryd.prog 17 #[.string s] w fun e w' => e = .returned (.tuple #[.int .i64 0, .bool false]) ∧ w' = w := by
  have hn : ((s.size : Int) == 29) = false := by rw [beq_eq_false_iff_ne]; omega
  clear hs
  go_enter Tryd.func17, Tryd.ntmps17
  go_wp2_with fail
  go_ret2
  exact ⟨rfl, rfl⟩

theorem num_at (s : ByteArray) (i j : Nat) (w : World) (h : j - i ≤ 4) :
    Calls Tryd.prog 33 #[.string (s.extract i j)] w fun e w' => e = .returned (.int .i64 (numb (sl s.data.toList i j))) ∧ w' = w := by
  have hz : (s.extract i j).size ≤ 4 := by rw [ByteArray.size_extract]; omega
  have c := number_any (s.extract i j) w hz
  rw [ext_list] at c
  exact c
theorem mon_at (s : ByteArray) (i j : Nat) (w : World) (ht : DTabs w) :
    Calls Tryd.prog 34 #[.string (s.extract i j)] w fun e w' => e = .returned (.int .i64 (mnum (sl s.data.toList i j))) ∧ w' = w := by
  have c := month_any (s.extract i j) w ht
  rw [ext_list] at c
  exact c

set_option maxHeartbeats 1000000 in
set_option maxRecDepth 100000 in
theorem guess_no (s : ByteArray) (w : World) (hs : s.size = 29) (ht : DTabs w) (hv : vldB (gY s.data.toList) (gM s.data.toList) (gD s.data.toList) = false) :
    Calls Tryd.prog 17 #[.string s] w fun e w' => e = .returned (.tuple #[.int .i64 0, .bool false]) ∧ ∃ k, w' = w.drewN k := by
  have HT : Hid (DTabs w) := ht
  have HV : Hid (vldB (numb (sl s.data.toList 12 16)) (mnum (sl s.data.toList 8 11)) (numb (sl s.data.toList 5 7)) = false) := hv
  clear hv ht
  go_enter Tryd.func17, Tryd.ntmps17
  go_wp2_with fail
  go_quiet (first | (go_at_call 33; exact Calls.quiet_of_same (num_at _ _ _ _ (by decide))) | (go_at_call 34; exact Calls.quiet_of_same (mon_at _ _ _ _ (HT.out.below (drewN_belowD _ _ _)))) | (go_at_call 32; exact Calls.quiet_of_same (days_no _ _ _ _ HV.out)))
  go_wp2_with fail
  go_ret2
  exact ⟨rfl, _, rfl⟩

set_option maxHeartbeats 1000000 in
set_option maxRecDepth 100000 in
theorem guess_yes (s : ByteArray) (w : World) (hs : s.size = 29) (ht : DTabs w) (hv : vldB (gY s.data.toList) (gM s.data.toList) (gD s.data.toList) = true) :
    Calls Tryd.prog 17 #[.string s] w fun e w' => e = .returned (.tuple #[.int .i64 (gss s.data.toList), .bool true]) ∧ ∃ k, w' = w.drewN k := by
  have HT : Hid (DTabs w) := ht
  have hb : 0 ≤ num (numb (sl s.data.toList 12 16)) (mnum (sl s.data.toList 8 11)) (numb (sl s.data.toList 5 7)) ∧ num (numb (sl s.data.toList 12 16)) (mnum (sl s.data.toList 8 11)) (numb (sl s.data.toList 5 7)) ≤ 2932896 := num_bd hv
  have hl : s.data.toList.length = 29 := by rw [size_list]; exact hs
  have b1 := numb_bd2 (sl_len _ 17 19 hl (by decide) (by decide))
  have b2 := numb_bd2 (sl_len _ 20 22 hl (by decide) (by decide))
  have b3 := numb_bd2 (sl_len _ 23 25 hl (by decide) (by decide))
  have HG : Hid (gss s.data.toList = num (numb (sl s.data.toList 12 16)) (mnum (sl s.data.toList 8 11)) (numb (sl s.data.toList 5 7)) * 86400 + (numb (sl s.data.toList 17 19) * 3600 + numb (sl s.data.toList 20 22) * 60 + numb (sl s.data.toList 23 25))) := rfl
  have HV : Hid (vldB (numb (sl s.data.toList 12 16)) (mnum (sl s.data.toList 8 11)) (numb (sl s.data.toList 5 7)) = true) := hv
  clear hv ht hl
  go_enter Tryd.func17, Tryd.ntmps17
  go_wp2_with fail
  go_quiet (first | (go_at_call 33; exact Calls.quiet_of_same (num_at _ _ _ _ (by decide))) | (go_at_call 34; exact Calls.quiet_of_same (mon_at _ _ _ _ (HT.out.below (drewN_belowD _ _ _)))) | (go_at_call 32; exact Calls.quiet_of_same (days_yes _ _ _ _ HV.out)))
  generalize hq : w.drewN _ = wq
  have HQ : Hid (∃ n, wq = w.drewN n) := ⟨_, hq.symm⟩
  clear hq
  go_wp2_with fail
  go_quiet (first | (go_at_call 33; exact Calls.quiet_of_same (num_at _ _ _ _ (by decide))))
  go_wp2_with fail
  go_ret2
  obtain ⟨n, hn⟩ := HQ.out
  exact ⟨ret_ib HG.out.symm rfl, _, by rw [hn, World.drewN_drewN]⟩
end Go.Proofs.YthbbfkbcanjfaaaDoor
