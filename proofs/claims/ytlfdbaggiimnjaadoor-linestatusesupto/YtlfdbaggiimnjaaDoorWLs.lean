/-
  What isCode, isReason, PrintStatus and readCode of package line compute; a string is no longer than Go allows, and the listed variables of package strconv hold what their text lays.
-/
import Derived.Test.YtlfdbaggiimnjaaDoorSpecLs
import Derived.Test.YtlfdbaggiimnjaaDoorSpecF
import Derived.Test.YtlfdbaggiimnjaaDoorWSTabs
import Derived.Test.YtlfdbaggiimnjaaDoorWPlainS
import Derived.Test.YtlfdbaggiimnjaaDoorWCutT
import Derived.Test.YtlfdbaggiimnjaaDoorWSClone
import Derived.Lib.AtoiErrMem
namespace Go.Proofs.YtlfdbaggiimnjaaDoor
open Go.RowKit

set_option maxRecDepth 100000 in
theorem isCode_any (n : Int) (w : World) :
    Calls Tryd.prog 24 #[.int .i64 n] w fun e w' => e = .returned (.bool (codeB n)) ∧ w' = w := by
  unfold codeB
  rcases (show n < 100 ∨ (100 ≤ n ∧ n ≤ 599) ∨ (100 ≤ n ∧ 599 < n) by omega) with h | ⟨h, h'⟩ | ⟨h, h'⟩
  · rw [decide_eq_false (by omega)]
    have hd : decide (100 ≤ n) = false := decide_eq_false (by omega)
    go_enter Tryd.func24, Tryd.ntmps24
    go_wp2
    go_ret
    exact ⟨ret_bool (by simp), rfl⟩
  · rw [decide_eq_true (by omega)]
    go_enter Tryd.func24, Tryd.ntmps24
    go_wp2
    go_ret
    exact ⟨ret_bool (by first | (simp; done) | (simp; omega)), rfl⟩
  · rw [decide_eq_false (by omega)]
    go_enter Tryd.func24, Tryd.ntmps24
    go_wp2
    go_ret
    exact ⟨ret_bool (by first | (simp; done) | (simp; omega)), rfl⟩

set_option maxRecDepth 100000 in
theorem isReason_any (s : ByteArray) (w : World) (hs : s.size ≤ maxLen) :
    Calls Tryd.prog 25 #[.string s] w fun e w' => e = .returned (.bool (reas s.data.toList)) ∧ w' = w := by
  have HS : Hid (s.size ≤ maxLen) := hs
  clear hs
  cases ht : allPlain s.data.toList
  · have HT : Hid (allPlain s.data.toList = false) := ht
    clear ht
    go_enter Tryd.func25, Tryd.ntmps25
    go_wp2_with fail
    refine (isPlainS_any _ _ HS.out).mono ?_
    rintro e w' ⟨rfl, rfl⟩
    rw [HT.out]
    go_wp2_with fail
    go_ret
    refine ⟨ret_bool ?_, rfl⟩
    unfold reas; rw [HT.out, Bool.false_and]
  · have HT : Hid (allPlain s.data.toList = true) := ht
    clear ht
    go_enter Tryd.func25, Tryd.ntmps25
    go_wp2_with fail
    refine (isPlainS_any _ _ HS.out).mono ?_
    rintro e w' ⟨rfl, rfl⟩
    rw [HT.out]
    go_wp2_with fail
    go_ret
    refine ⟨ret_bool ?_, rfl⟩
    unfold reas; rw [HT.out, Bool.true_and, size_list, decide_eq_decide]; omega

theorem grow_belowS (w : World) (k : Nat) (os : Array Obj) : Below w.heap.size w (Sort.grow (w.drewN k) os) := by
  have h1 := drewN_below w.heap.size w k
  refine ⟨h1.os, h1.tape, h1.output, ?_, fun j hj => ?_⟩
  · rw [Sort.size_grow]; have := h1.size; omega
  · rw [Sort.heap_grow_old _ _ (by have := h1.size; omega)]
    exact h1.block j hj
theorem itoa_at (n : Int) (t : ByteArray) (hn : codeB n = true) (ht : t.data.toList = dig3 n.toNat) (w : World) (hT : STabs w) :
    Calls Tryd.prog 26 #[.int .i64 n] w fun e w' => e = .returned (.string t) ∧ Below w.heap.size w w' := by
  obtain ⟨h1, h2⟩ := code_is n hn
  refine (Tryd.strconv_Itoa n (by omega) (by omega) w hT.pow).mono ?_
  rintro e w' ⟨rfl, k, os, rfl⟩
  refine ⟨ret_str ?_, grow_belowS w k os⟩
  rw [itoa_3 n hn]
  exact mk_self t _ ht

theorem ret_sw {a b : ByteArray} {v : Value} (h : a = b) : Ending.returned (.tuple #[.string a, v]) = .returned (.tuple #[.string b, v]) := by rw [h]

set_option maxHeartbeats 1000000 in
set_option maxRecDepth 100000 in
theorem printS_at (n : Int) (r x : ByteArray) (c : Int) (h : prS n r.data.toList = (x.data.toList, c)) (w : World) (hr : r.size ≤ maxLen) (hT : STabs w) :
    Calls Tryd.prog 10 #[.int .i64 n, .string r] w fun e w' => e = .returned (.tuple #[.string x, .int .i64 c]) ∧ Below w.heap.size w w' := by
  have HR : Hid (r.size ≤ maxLen) := hr
  have HT : Hid (STabs w) := hT
  clear hr hT
  cases h1 : codeB n
  · rw [prS_arg _ _ h1] at h
    simp only [Prod.mk.injEq] at h
    obtain ⟨h2, rfl⟩ := h
    obtain rfl : (⟨#[]⟩ : ByteArray) = x := mk_self x [] h2.symm
    have H1 : Hid (codeB n = false) := h1
    clear h1 h2
    go_enter Tryd.func10, Tryd.ntmps10
    go_wp2_with fail
    refine (isCode_any _ _).mono ?_
    rintro e w' ⟨rfl, rfl⟩
    rw [H1.out]
    go_wp2_with fail
    go_ret2
    exact ⟨rfl, Below.refl _ _⟩
  · have H1 : Hid (codeB n = true) := h1
    cases h2 : reas r.data.toList
    · rw [prS_syn _ _ h1 h2] at h
      simp only [Prod.mk.injEq] at h
      obtain ⟨h3, rfl⟩ := h
      obtain rfl : (⟨#[]⟩ : ByteArray) = x := mk_self x [] h3.symm
      have H2 : Hid (reas r.data.toList = false) := h2
      clear h1 h2 h3
      go_enter Tryd.func10, Tryd.ntmps10
      go_wp2_with fail
      refine (isCode_any _ _).mono ?_
      rintro e w' ⟨rfl, rfl⟩
      rw [H1.out]
      go_wp2_with fail
      refine (isReason_any _ _ HR.out).mono ?_
      rintro e w' ⟨rfl, rfl⟩
      rw [H2.out]
      go_wp2_with fail
      go_ret2
      exact ⟨rfl, Below.refl _ _⟩
    · rw [prS_ok _ _ h1 h2] at h
      simp only [Prod.mk.injEq] at h
      obtain ⟨h3, rfl⟩ := h
      have HX : Hid (stB n r.data.toList ++ [13, 10] = x.data.toList) := h3
      have H2 : Hid (reas r.data.toList = true) := h2
      have hrs : r.size ≤ 100 := by rw [← size_list]; exact (reas_is _ h2).2
      obtain ⟨t, ht⟩ : ∃ t : ByteArray, t.data.toList = dig3 n.toNat := ⟨⟨(dig3 n.toNat).toArray⟩, rfl⟩
      have HD : Hid (t.data.toList = dig3 n.toNat) := ht
      have hts : t.size = 3 := by rw [← size_list, ht]; rfl
      clear h1 h2 h3 ht
      go_enter Tryd.func10, Tryd.ntmps10
      go_wp2_with fail
      refine (isCode_any _ _).mono ?_
      rintro e w' ⟨rfl, rfl⟩
      rw [H1.out]
      go_wp2_with fail
      refine (isReason_any _ _ HR.out).mono ?_
      rintro e w' ⟨rfl, rfl⟩
      rw [H2.out]
      go_wp2_with fail
      refine (itoa_at n t H1.out HD.out _ HT.out).mono ?_
      rintro e w' ⟨rfl, hb⟩
      go_wp2_with fail
      go_ret2
      refine ⟨ret_sw ?_, hb⟩
      apply ByteArray.ext; apply Array.ext'
      rw [← HX.out]
      simp [stB, verP, HD.out]

set_option maxHeartbeats 1000000 in
set_option maxRecDepth 100000 in
theorem readCode_at (s : ByteArray) (v : Int) (b : Bool) (h : rdC s.data.toList = (v, b)) (w : World) (hs : s.size ≤ 100000) (hT : STabs w) :
    Calls Tryd.prog 43 #[.string s] w fun e w' => e = .returned (.tuple #[.int .i64 v, .bool b]) ∧ Below w.heap.size w w' := by
  have HT : Hid (STabs w) := hT
  clear hT
  unfold rdC at h
  split at h
  · rename_i u hu
    simp only [Prod.mk.injEq] at h
    obtain ⟨rfl, hb⟩ := h
    have HU : Hid (Lib.atoiAll s.data.toList = .ok u) := hu
    cases hc : codeB u
    · rw [hc, Bool.false_and] at hb
      subst hb
      have HC : Hid (codeB u = false) := hc
      clear hu hc
      go_enter Tryd.func43, Tryd.ntmps43
      go_wp2_with fail
      refine (Tryd.strconv_Atoi_ok s (by omega) u HU.out _).mono ?_
      rintro e w1 ⟨rfl, hw1⟩
      have hb1 : Below w.heap.size w w1 := by
        rcases hw1 with rfl | ⟨t, rfl⟩
        · exact Below.refl _ _
        · exact Lib.bytesWorld_below _ _ _
      clear hw1
      go_wp2_with fail
      refine (isCode_any _ _).mono ?_
      rintro e w' ⟨rfl, rfl⟩
      rw [HC.out]
      go_wp2_with fail
      go_ret2
      exact ⟨rfl, hb1⟩
    · rw [hc, Bool.true_and] at hb
      have HC : Hid (codeB u = true) := hc
      obtain ⟨t, ht⟩ : ∃ t : ByteArray, t.data.toList = dig3 u.toNat := ⟨⟨(dig3 u.toNat).toArray⟩, rfl⟩
      have HD : Hid (t.data.toList = dig3 u.toNat) := ht
      have heq : (t.toList == s.toList) = b := by
        rw [← hb, itoa_3 u hc, ← ht, ByteArray.toList_eq, ByteArray.toList_eq, Bool.eq_iff_iff]; simp
      clear hu hc hb ht
      go_enter Tryd.func43, Tryd.ntmps43
      go_wp2_with fail
      refine (Tryd.strconv_Atoi_ok s (by omega) u HU.out _).mono ?_
      rintro e w1 ⟨rfl, hw1⟩
      have hb1 : Below w.heap.size w w1 := by
        rcases hw1 with rfl | ⟨t, rfl⟩
        · exact Below.refl _ _
        · exact Lib.bytesWorld_below _ _ _
      clear hw1
      go_wp2_with fail
      refine (isCode_any _ _).mono ?_
      rintro e w' ⟨rfl, rfl⟩
      rw [HC.out]
      go_wp2_with fail
      refine (itoa_at u t HC.out HD.out _ (HT.out.below hb1)).mono ?_
      rintro e w2 ⟨rfl, hb2⟩
      have hb3 := hb1.trans (hb2.mono hb1.size)
      clear hb1 hb2
      go_wp2_with fail
      go_ret2
      exact ⟨rfl, hb3⟩
  · rename_i hu
    simp only [Prod.mk.injEq] at h
    obtain ⟨rfl, rfl⟩ := h
    have HU : Hid (Lib.atoiAll s.data.toList = .«syntax») := hu
    obtain ⟨te, pe, hev⟩ := HT.out.syn
    have HV : Hid (w.cell? ⟨4, 0, none⟩ = some (.iface te pe)) := hev
    clear hu hev
    go_enter Tryd.func43, Tryd.ntmps43
    go_wp2_with fail
    refine (Tryd.strconv_Atoi_syntax s (by omega) HU.out _ _ HV.out (.inr ⟨_, _, rfl⟩)).mono ?_
    rintro e w1 ⟨N, rfl, _, _, hb⟩
    go_wp2_with fail
    go_ret2
    exact ⟨rfl, hb⟩
  · rename_i hu
    simp only [Prod.mk.injEq] at h
    obtain ⟨rfl, rfl⟩ := h
    have HU : Hid (Lib.atoiAll s.data.toList = .range) := hu
    obtain ⟨te, pe, hev⟩ := HT.out.rng
    have HV : Hid (w.cell? ⟨5, 0, none⟩ = some (.iface te pe)) := hev
    clear hu hev
    go_enter Tryd.func43, Tryd.ntmps43
    go_wp2_with fail
    refine (Tryd.strconv_Atoi_range s (by omega) HU.out _ _ HV.out (.inr ⟨_, _, rfl⟩)).mono ?_
    rintro e w1 ⟨N, rfl, _, _, hb⟩
    go_wp2_with fail
    go_ret2
    exact ⟨rfl, hb⟩
end Go.Proofs.YtlfdbaggiimnjaaDoor
