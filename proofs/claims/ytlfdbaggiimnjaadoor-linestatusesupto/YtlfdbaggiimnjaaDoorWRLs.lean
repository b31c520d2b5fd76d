/-
  What LineStatus and LineStatusOf of the document's answers compute; a text that is parsed has less than 2^32 - 15 bytes, and the package variable that the library's search reads holds some number.
-/
import Derived.Test.YtlfdbaggiimnjaaDoorWLs3
import Derived.Test.YtlfdbaggiimnjaaDoorWRDg
import Derived.Test.YtlfdbaggiimnjaaDoorWRPlain
import Derived.Test.YtlfdbaggiimnjaaDoorWRCount
import Derived.Test.YtlfdbaggiimnjaaDoorWRLine
namespace Go.Proofs.YtlfdbaggiimnjaaDoor
open Go.RowKit

theorem digits_at (n : Int) (t : ByteArray) (hn : codeB n = true) (ht : t.data.toList = dig3 n.toNat) (w : World) :
    Calls Tryd.prog 28 #[.int .i64 n] w fun e w' => e = .returned (.string t) ∧ Below w.heap.size w w' := by
  obtain ⟨h1, h2⟩ := code_is n hn
  obtain ⟨u, rfl⟩ := Int.eq_ofNat_of_zero_le (show 0 ≤ n by omega)
  refine (rdigits_any u u (Nat.le_refl _) (by omega) w).mono ?_
  rintro e w' ⟨rfl, hb⟩
  refine ⟨ret_str ?_, hb⟩
  rw [dec_3 u (by omega) (by omega)]
  exact mk_self t _ ht
theorem code_out (n : Int) : decide (n < 100 ∨ 599 < n) = !codeB n := by
  unfold codeB
  rw [Bool.eq_iff_iff]; simp

set_option maxHeartbeats 1000000 in
set_option maxRecDepth 100000 in
theorem rprintS_at (n : Int) (r x : ByteArray) (c : Int) (h : prS n r.data.toList = (x.data.toList, c)) (w : World) (hr : r.size ≤ maxLen) :
    Calls Tryd.prog 11 #[.int .i64 n, .string r] w fun e w' => e = .returned (.tuple #[.string x, .int .i64 c]) ∧ Below w.heap.size w w' := by
  have HR : Hid (r.size ≤ maxLen) := hr
  have hrl := size_list r
  clear hr
  cases h1 : codeB n
  · rw [prS_arg _ _ h1] at h
    simp only [Prod.mk.injEq] at h
    obtain ⟨h2, rfl⟩ := h
    obtain rfl : (⟨#[]⟩ : ByteArray) = x := mk_self x [] h2.symm
    have H1 : Hid (decide (n < 100 ∨ 599 < n) = true) := by show _ = _; rw [code_out, h1]; rfl
    clear h1 h2 hrl
    go_enter Tryd.func11, Tryd.ntmps11
    go_wp2_with fail
    refine (outside_any _ _ _ _).mono ?_
    rintro e w' ⟨rfl, rfl⟩
    rw [H1.out]
    go_wp2_with fail
    go_ret2
    exact ⟨rfl, Below.refl _ _⟩
  · have H1 : Hid (decide (n < 100 ∨ 599 < n) = false) := by show _ = _; rw [code_out, h1]; rfl
    have HC : Hid (codeB n = true) := h1
    by_cases h100 : 100 < (r.size : Int)
    · rw [prS_syn _ _ h1 (by unfold reas; rw [decide_eq_false (by omega), Bool.and_false])] at h
      simp only [Prod.mk.injEq] at h
      obtain ⟨h3, rfl⟩ := h
      obtain rfl : (⟨#[]⟩ : ByteArray) = x := mk_self x [] h3.symm
      clear h1 h3 hrl
      go_enter Tryd.func11, Tryd.ntmps11
      go_wp2_with fail
      refine (outside_any _ _ _ _).mono ?_
      rintro e w' ⟨rfl, rfl⟩
      rw [H1.out]
      go_wp2_with fail
      go_ret2
      exact ⟨rfl, Below.refl _ _⟩
    · have hd : decide (100 < (r.size : Int)) = false := decide_eq_false h100
      cases h2 : allPlain r.data.toList
      · rw [prS_syn _ _ h1 (by unfold reas; rw [h2]; rfl)] at h
        simp only [Prod.mk.injEq] at h
        obtain ⟨h3, rfl⟩ := h
        obtain rfl : (⟨#[]⟩ : ByteArray) = x := mk_self x [] h3.symm
        have H2 : Hid (allPlain r.data.toList = false) := h2
        clear h1 h2 h3 hrl
        go_enter Tryd.func11, Tryd.ntmps11
        go_wp2_with fail
        refine (outside_any _ _ _ _).mono ?_
        rintro e w' ⟨rfl, rfl⟩
        rw [H1.out]
        go_wp2_with fail
        refine (rplain_any _ _ HR.out).mono ?_
        rintro e w' ⟨rfl, rfl⟩
        rw [H2.out]
        go_wp2_with fail
        go_ret2
        exact ⟨rfl, Below.refl _ _⟩
      · rw [prS_ok _ _ h1 (by unfold reas; rw [h2, decide_eq_true (by omega)]; rfl)] at h
        simp only [Prod.mk.injEq] at h
        obtain ⟨h3, rfl⟩ := h
        have HX : Hid (stB n r.data.toList ++ [13, 10] = x.data.toList) := h3
        have H2 : Hid (allPlain r.data.toList = true) := h2
        have hrs : r.size ≤ 100 := by omega
        obtain ⟨t, ht⟩ := ba (dig3 n.toNat)
        have HD : Hid (t.data.toList = dig3 n.toNat) := ht
        have hts : t.size = 3 := by rw [← size_list, ht]; rfl
        clear h1 h2 h3 ht hrl
        go_enter Tryd.func11, Tryd.ntmps11
        go_wp2_with fail
        refine (outside_any _ _ _ _).mono ?_
        rintro e w' ⟨rfl, rfl⟩
        rw [H1.out]
        go_wp2_with fail
        refine (rplain_any _ _ HR.out).mono ?_
        rintro e w' ⟨rfl, rfl⟩
        rw [H2.out]
        go_wp2_with fail
        refine (digits_at n t HC.out HD.out _).mono ?_
        rintro e w' ⟨rfl, hb⟩
        go_wp2_with fail
        go_ret2
        refine ⟨ret_sw ?_, hb⟩
        apply ByteArray.ext; apply Array.ext'
        rw [← HX.out]
        simp [stB, verP, HD.out]

theorem ret_vs {v u z : Value} {a b : ByteArray} (h : a = b) : Ending.returned (.tuple #[v, .string a, u, z]) = .returned (.tuple #[v, .string b, u, z]) := by rw [h]
theorem cnt_3 (n : Int) (h : codeB n = true) : cnt (dig3 n.toNat) 999 = n := by
  obtain ⟨h1, h2⟩ := code_is n h
  have hd : isDig (dg (n.toNat / 100)) = true := (dig_iff _).2 (by rw [dg_nat _ (by omega)]; omega)
  have hh : dg (n.toNat / 100) ≠ 48 := by
    intro e
    have := congrArg UInt8.toNat e
    rw [dg_nat _ (by omega)] at this
    have e2 : (48 : UInt8).toNat = 48 := rfl
    omega
  have hn := numb_3 n.toNat (by omega)
  rw [cnt_yes]
  · rw [hn]; omega
  · rintro (g | g | g | g)
    · simp [dig3] at g
    · simp [dig3] at g
    · exact hh (by simpa [dig3] using g.2)
    · rw [dig3_dig _ (by omega)] at g; cases g
  · rw [hn]; omega

set_option maxHeartbeats 2000000 in
set_option maxRecDepth 100000 in
/-- A line that is cut off, of 13 bytes at least: what its places say. -/
theorem rparseS_line (s l q r z : ByteArray) (k : Nat) (v d : Int) (hix : Lib.index s.data.toList [13, 10] = k) (hk : k ≤ 300) (hks : k + 2 ≤ s.size) (hl : l.data.toList = s.data.toList.take k) (hl13 : 13 ≤ l.size)
    (hq : q.data.toList = (l.data.toList.drop 9).take 3) (hr : r.data.toList = l.data.toList.drop 13) (hv : cnt q.data.toList 999 = v) (hz : prS v r.data.toList = (z.data.toList, d)) (X : ByteArray) (V n c : Int)
    (hp : (d = 0 ∧ z.data.toList = l.data.toList ++ [13, 10] ∧ X = r ∧ V = v ∧ n = k + 2 ∧ c = 0) ∨ ((d ≠ 0 ∨ z.data.toList ≠ l.data.toList ++ [13, 10]) ∧ X = ⟨#[]⟩ ∧ V = 0 ∧ n = 0 ∧ c = 3))
    (m : Int) (w : World) (hm : w.cell? ⟨0, 0, none⟩ = some (.int .i64 m)) (hs : s.size < 4294967281) :
    Calls Tryd.prog 13 #[.string s] w fun e w' => e = .returned (.tuple #[.int .i64 V, .string X, .int .i64 n, .int .i64 c]) ∧ Below w.heap.size w w' := by
  have hls : l.size ≤ 300 := by rw [← size_list, hl, List.length_take]; omega
  have hll := size_list l
  have eq : l.extract 9 12 = q := by
    apply ByteArray.ext; apply Array.ext'
    rw [hq, Lib.extract_data]
  have er : l.extract 13 l.size = r := by
    apply ByteArray.ext; apply Array.ext'
    rw [hr, Lib.extract_data, List.take_of_length_le (by rw [List.length_drop]; omega)]
  have hqs : q.size ≤ 300 := by rw [← size_list, hq, List.length_take]; omega
  have hrs : r.size ≤ 300 := by rw [← size_list, hr, List.length_drop]; omega
  have HQ : Hid (l.extract 9 12 = q) := eq
  have HR : Hid (l.extract 13 l.size = r) := er
  have HQS : Hid (q.size ≤ maxLen) := by show _ ≤ _; unfold maxLen; omega
  have HRS : Hid (r.size ≤ maxLen) := by show _ ≤ _; unfold maxLen; omega
  have HIX : Hid (Lib.index s.data.toList [13, 10] = k) := hix
  have HL : Hid (l.data.toList = s.data.toList.take k) := hl
  have HM : Hid (w.cell? ⟨0, 0, none⟩ = some (.int .i64 m)) := hm
  have HZ : Hid (prS v r.data.toList = (z.data.toList, d)) := hz
  have HV : Hid (cnt q.data.toList 999 = v) := hv
  have HC : Hid ((d = 0 ∧ z.data.toList = l.data.toList ++ [13, 10] ∧ X = r ∧ V = v ∧ n = k + 2 ∧ c = 0) ∨ ((d ≠ 0 ∨ z.data.toList ≠ l.data.toList ++ [13, 10]) ∧ X = ⟨#[]⟩ ∧ V = 0 ∧ n = 0 ∧ c = 3)) := hp
  have heq : (z.toList == (l ++ ⟨#[13, 10]⟩ : ByteArray).toList) = decide (z.data.toList = l.data.toList ++ [13, 10]) := by
    rw [ByteArray.toList_eq, ByteArray.toList_eq, ByteArray.data_append, Array.toList_append, Bool.eq_iff_iff]; simp
  have HE : Hid ((z.toList == (l ++ ⟨#[13, 10]⟩ : ByteArray).toList) = decide (z.data.toList = l.data.toList ++ [13, 10])) := heq
  have g1 : ¬ (l.size : Int) < 13 := by omega
  have g2 : (12 : Int) ≤ (l.size : Int) := by omega
  have g3 : (13 : Int) ≤ (l.size : Int) := by omega
  have mixed : Tryd.prog.follows Departure.mixedOrders = true := by kernel_rfl
  clear hix hl hm hz hv hp heq eq er hq hr hll
  go_enter Tryd.func13, Tryd.ntmps13
  go_wp2_with fail
  refine (lineOf_yes s l 300 k HIX.out hk hks HL.out m _ HM.out hs).mono ?_
  rintro e w1 ⟨rfl, rfl⟩
  go_wp2_with fail
  rw [HQ.out]
  refine (count_any q 999 _ HQS.out).mono ?_
  rintro e w2 ⟨rfl, rfl⟩
  rw [HV.out]
  go_wp2_with fail
  rw [HR.out]
  refine (rprintS_at v r z d HZ.out _ HRS.out).mono ?_
  rintro e w3 ⟨rfl, hb3⟩
  rcases HC.out with ⟨hd, hz, hX, hV, hn, hc⟩ | ⟨hd, hX, hV, hn, hc⟩
  · have hq1 : (z.toList == (l ++ ⟨#[13, 10]⟩ : ByteArray).toList) = true := by rw [HE.out]; exact decide_eq_true hz
    subst hd hX hV hn hc
    clear hz
    go_wp2_with fail
    go_region_o
    all_goals go_wp2
    all_goals (try simp only [Exit.inBlock, Exit.then])
    all_goals refine bodyPost_ret (results_four rfl _ _ _) rfl ?_
    all_goals refine ⟨?_, hb3.drew⟩
    all_goals exact ret_vs HR.out
  · subst hX hV hn hc
    by_cases hd0 : d = 0
    · have hz : z.data.toList ≠ l.data.toList ++ [13, 10] := by rcases hd with h | h; exact absurd hd0 h; exact h
      have hq1 : (z.toList == (l ++ ⟨#[13, 10]⟩ : ByteArray).toList) = false := by rw [HE.out]; exact decide_eq_false hz
      subst hd0
      clear hd hz
      go_wp2_with fail
      (try simp only [Exit.inBlock, Exit.then])
      refine bodyPost_ret (results_four rfl _ _ _) rfl ?_
      exact ⟨rfl, hb3⟩
    · have hcb : (d != 0) = true := by simpa using hd0
      clear hd hd0
      go_wp2_with fail
      (try simp only [Exit.inBlock, Exit.then])
      refine bodyPost_ret (results_four rfl _ _ _) rfl ?_
      exact ⟨rfl, hb3⟩
end Go.Proofs.YtlfdbaggiimnjaaDoor
