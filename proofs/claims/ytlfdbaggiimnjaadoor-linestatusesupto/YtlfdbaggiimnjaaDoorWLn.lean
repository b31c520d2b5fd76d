/-
  What isMethod, isTarget, PrintRequest, readRequest and ParseRequest of package line compute; a text that is parsed has less than 2^32 - 15 bytes (or its line ends early), and the package variable that the library reads holds some number.
-/
import Derived.Test.YtlfdbaggiimnjaaDoorSpecLn
import Derived.Test.YtlfdbaggiimnjaaDoorSpecF
import Derived.Test.YtlfdbaggiimnjaaDoorWTok
import Derived.Test.YtlfdbaggiimnjaaDoorWCutT
import Derived.Test.YtlfdbaggiimnjaaDoorWSClone
namespace Go.Proofs.YtlfdbaggiimnjaaDoor
open Go.RowKit

set_option maxRecDepth 100000 in
theorem isMethod_any (s : ByteArray) (w : World) (hs : s.size ≤ maxLen) :
    Calls Tryd.prog 14 #[.string s] w fun e w' => e = .returned (.bool (meth s.data.toList)) ∧ w' = w := by
  have HS : Hid (s.size ≤ maxLen) := hs
  clear hs
  cases ht : token s.data.toList
  · have HT : Hid (token s.data.toList = false) := ht
    clear ht
    go_enter Tryd.func14, Tryd.ntmps14
    go_wp2_with fail
    refine (isToken_any _ _ HS.out).mono ?_
    rintro e w' ⟨rfl, rfl⟩
    rw [HT.out]
    go_wp2_with fail
    go_ret
    refine ⟨ret_bool ?_, rfl⟩
    unfold meth; rw [HT.out, Bool.false_and]
  · have HT : Hid (token s.data.toList = true) := ht
    clear ht
    go_enter Tryd.func14, Tryd.ntmps14
    go_wp2_with fail
    refine (isToken_any _ _ HS.out).mono ?_
    rintro e w' ⟨rfl, rfl⟩
    rw [HT.out]
    go_wp2_with fail
    go_ret
    refine ⟨ret_bool ?_, rfl⟩
    unfold meth; rw [HT.out, Bool.true_and, size_list, decide_eq_decide]; omega

theorem isTgt_yes (c : UInt8) (h1 : 33 ≤ (c.toNat : Int)) (h2 : (c.toNat : Int) ≤ 126) : isTgt c = true := by
  unfold isTgt; simp [UInt8.le_iff_toNat_le]; omega
theorem isTgt_no (c : UInt8) (h : (c.toNat : Int) < 33 ∨ 126 < (c.toNat : Int)) : isTgt c = false := by
  unfold isTgt; rw [Bool.eq_false_iff]; simp [UInt8.le_iff_toNat_le]; omega

set_option maxHeartbeats 400000 in
set_option maxRecDepth 100000 in
theorem isTarget_any (s : ByteArray) (w : World) (hs : s.size ≤ maxLen) :
    Calls Tryd.prog 15 #[.string s] w fun e w' => e = .returned (.bool (targ s.data.toList)) ∧ w' = w := by
  unfold maxLen at hs
  go_enter Tryd.func15, Tryd.ntmps15
  go_wp2_with fail
  go_loop [6] (fun i => ∃ k : Nat, k ≤ s.size ∧ i = .int .i64 k ∧ (s.data.toList.take k).all isTgt = true) (fun i => s.size - (intOf i).toNat)
  case atStart => exact ⟨0, Nat.zero_le _, rfl, rfl⟩
  case round =>
    obtain ⟨k, hk, rfl, hall⟩ := hrel
    have HA : Hid ((s.data.toList.take k).all isTgt = true) := hall
    clear hall
    by_cases hlt : k < s.size
    · rcases (show (s[k].toNat : Int) < 33 ∨ (33 ≤ (s[k].toNat : Int) ∧ (s[k].toNat : Int) ≤ 126) ∨ 126 < (s[k].toNat : Int) from by omega) with h | ⟨h, h'⟩ | h
      · have HT : Hid (isTgt s[k] = false) := isTgt_no _ (.inl h)
        go_wp2_with fail
        go_ret
        refine ⟨ret_bool ?_, rfl⟩
        rw [targ, all_false s isTgt k hlt HT.out, Bool.false_and]
      · have HT : Hid (isTgt s[k] = true) := isTgt_yes _ h h'
        go_wp2_with fail
        go_round
        case rel => exact ⟨k + 1, by omega, by go_num, by rw [take_snoc s k hlt, List.all_append, HA.out]; simp [HT.out]⟩
        case measure => simp [intOf]; omega
      · have HT : Hid (isTgt s[k] = false) := isTgt_no _ (.inr h)
        have h' : ¬ (s[k].toNat : Int) < 33 := by omega
        go_wp2_with fail
        go_ret
        refine ⟨ret_bool ?_, rfl⟩
        rw [targ, all_false s isTgt k hlt HT.out, Bool.false_and]
    · obtain rfl : k = s.size := by omega
      have h := HA.out
      rw [take_all] at h
      have HB : Hid (s.data.toList.all isTgt = true) := h
      clear h
      cases hem : s.toList.isEmpty
      · have HE : Hid (s.data.toList.isEmpty = false) := by rw [ByteArray.toList_eq] at hem; exact hem
        go_wp2_with fail
        go_ret
        refine ⟨ret_bool ?_, rfl⟩
        rw [targ, HB.out, HE.out, Bool.true_and, size_list, Bool.not_false, Bool.true_and, decide_eq_decide]; omega
      · have HE : Hid (s.data.toList.isEmpty = true) := by rw [ByteArray.toList_eq] at hem; exact hem
        go_wp2_with fail
        go_ret
        refine ⟨ret_bool ?_, rfl⟩
        rw [targ, HB.out, HE.out]; rfl

theorem ret_sv {a b : ByteArray} {v : Value} (h : a = b) : Ending.returned (.tuple #[.string a, v]) = .returned (.tuple #[.string b, v]) := by rw [h]

set_option maxHeartbeats 1000000 in
set_option maxRecDepth 100000 in
theorem printR_at (m t x : ByteArray) (c : Int) (h : prR m.data.toList t.data.toList = (x.data.toList, c)) (w : World) (hm : m.size ≤ maxLen) (ht : t.size ≤ maxLen) :
    Calls Tryd.prog 6 #[.string m, .string t] w fun e w' => e = .returned (.tuple #[.string x, .int .i64 c]) ∧ w' = w := by
  have HS : Hid (m.size ≤ maxLen) := hm
  have HT : Hid (t.size ≤ maxLen) := ht
  clear hm ht
  cases h1 : meth m.data.toList
  · rw [prR_no _ _ (by rw [h1]; rfl)] at h
    simp only [Prod.mk.injEq] at h
    obtain ⟨h2, rfl⟩ := h
    obtain rfl : (⟨#[]⟩ : ByteArray) = x := mk_self x [] h2.symm
    have H1 : Hid (meth m.data.toList = false) := h1
    clear h1 h2
    go_enter Tryd.func6, Tryd.ntmps6
    go_wp2_with fail
    refine (isMethod_any _ _ HS.out).mono ?_
    rintro e w' ⟨rfl, rfl⟩
    rw [H1.out]
    go_wp2_with fail
    go_ret2
    exact ⟨rfl, rfl⟩
  · have H1 : Hid (meth m.data.toList = true) := h1
    have hms : m.size ≤ 30 := by rw [← size_list]; exact (meth_is _ h1).2
    cases h2 : targ t.data.toList
    · rw [prR_no _ _ (by rw [h1, h2]; rfl)] at h
      simp only [Prod.mk.injEq] at h
      obtain ⟨h3, rfl⟩ := h
      obtain rfl : (⟨#[]⟩ : ByteArray) = x := mk_self x [] h3.symm
      have H2 : Hid (targ t.data.toList = false) := h2
      clear h1 h2 h3
      go_enter Tryd.func6, Tryd.ntmps6
      go_wp2_with fail
      refine (isMethod_any _ _ HS.out).mono ?_
      rintro e w' ⟨rfl, rfl⟩
      rw [H1.out]
      go_wp2_with fail
      refine (isTarget_any _ _ HT.out).mono ?_
      rintro e w' ⟨rfl, rfl⟩
      rw [H2.out]
      go_wp2_with fail
      go_ret2
      exact ⟨rfl, rfl⟩
    · have H2 : Hid (targ t.data.toList = true) := h2
      have hts : t.size ≤ 200 := by rw [← size_list]; exact (targ_is _ h2).2.2
      rw [prR_ok _ _ h1 h2] at h
      simp only [Prod.mk.injEq] at h
      obtain ⟨h3, rfl⟩ := h
      have HX : Hid (reqB m.data.toList t.data.toList ++ [13, 10] = x.data.toList) := h3
      clear h1 h2 h3
      go_enter Tryd.func6, Tryd.ntmps6
      go_wp2_with fail
      refine (isMethod_any _ _ HS.out).mono ?_
      rintro e w' ⟨rfl, rfl⟩
      rw [H1.out]
      go_wp2_with fail
      refine (isTarget_any _ _ HT.out).mono ?_
      rintro e w' ⟨rfl, rfl⟩
      rw [H2.out]
      go_wp2_with fail
      go_ret2
      refine ⟨ret_sv ?_, rfl⟩
      apply ByteArray.ext; apply Array.ext'
      rw [← HX.out]
      simp [reqB, verB]
end Go.Proofs.YtlfdbaggiimnjaaDoor
