/-
  What LineStatus and LineStatusOf of the document's answers compute; a text that is parsed has less than 2^32 - 15 bytes, and the package variable that the library's search reads holds some number.
-/
import Derived.Test.YtipfjpihciiikaaGreatDoorMg
import Derived.Test.YtipfjpihciiikaaGreatDoorRows
import Derived.Test.YtipfjpihciiikaaGreatDoorShelf
import Derived.Lib.OthersKept
import Derived.Deep.RegionHeld3
import Derived.Lib.SlBytesConst
import Derived.Lib.Bytes
namespace Go.Proofs.YtipfjpihciiikaaGreatDoor
open Go.RowKit

theorem digits_at (n : Int) (t : ByteArray) (hn : codeB n = true) (ht : t.data.toList = dig3 n.toNat) (w : World) :
    Calls Tryz.prog 61 #[.int .i64 n] w fun e w' => e = .returned (.string t) ∧ Below w.heap.size w w' := by
  obtain ⟨h1, h2⟩ := code_is n hn
  obtain ⟨u, rfl⟩ := Int.eq_ofNat_of_zero_le (show 0 ≤ n by omega)
  refine (rdigits_any u u (Nat.le_refl _) (by omega) w).mono ?_
  rintro e w' ⟨rfl, hb⟩
  refine ⟨ret_str ?_, hb⟩
  rw [dec_3 u (by omega) (by omega)]
  exact mk_self t _ ht
theorem code_out (n : Int) : decide (n < 100 ∨ 599 < n) = !codeB n := by
  unfold codeB
  rw [Bool.eq_iff_iff]; simp

set_option maxHeartbeats 1000000 in
set_option maxRecDepth 100000 in
theorem rprintS_at (n : Int) (r x : ByteArray) (c : Int) (h : prS n r.data.toList = (x.data.toList, c)) (w : World) (hr : r.size ≤ maxLen) :
    Calls Tryz.prog 30 #[.int .i64 n, .string r] w fun e w' => e = .returned (.tuple #[.string x, .int .i64 c]) ∧ Below w.heap.size w w' := by
  have HR : Hid (r.size ≤ maxLen) := hr
  have hrl := size_list r
  clear hr
  cases h1 : codeB n
  · rw [prS_arg _ _ h1] at h
    simp only [Prod.mk.injEq] at h
    obtain ⟨h2, rfl⟩ := h
    obtain rfl : (⟨#[]⟩ : ByteArray) = x := mk_self x [] h2.symm
    have H1 : Hid (decide (n < 100 ∨ 599 < n) = true) := by show _ = _; rw [code_out, h1]; rfl
    clear h1 h2 hrl
    go_enter Tryz.func30, Tryz.ntmps30
    go_wp2_with fail
    refine (outside_any _ _ _ _).mono ?_
    rintro e w' ⟨rfl, rfl⟩
    rw [H1.out]
    go_wp2_with fail
    go_ret2
    exact ⟨rfl, Below.refl _ _⟩
  · have H1 : Hid (decide (n < 100 ∨ 599 < n) = false) := by show _ = _; rw [code_out, h1]; rfl
    have HC : Hid (codeB n = true) := h1
    by_cases h100 : 100 < (r.size : Int)
    · rw [prS_syn _ _ h1 (by unfold reas; rw [decide_eq_false (by omega), Bool.and_false])] at h
      simp only [Prod.mk.injEq] at h
      obtain ⟨h3, rfl⟩ := h
      obtain rfl : (⟨#[]⟩ : ByteArray) = x := mk_self x [] h3.symm
      clear h1 h3 hrl
      go_enter Tryz.func30, Tryz.ntmps30
      go_wp2_with fail
      refine (outside_any _ _ _ _).mono ?_
      rintro e w' ⟨rfl, rfl⟩
      rw [H1.out]
      go_wp2_with fail
      go_ret2
      exact ⟨rfl, Below.refl _ _⟩
    · have hd : decide (100 < (r.size : Int)) = false := decide_eq_false h100
      cases h2 : allPlain r.data.toList
      · rw [prS_syn _ _ h1 (by unfold reas; rw [h2]; rfl)] at h
        simp only [Prod.mk.injEq] at h
        obtain ⟨h3, rfl⟩ := h
        obtain rfl : (⟨#[]⟩ : ByteArray) = x := mk_self x [] h3.symm
        have H2 : Hid (allPlain r.data.toList = false) := h2
        clear h1 h2 h3 hrl
        go_enter Tryz.func30, Tryz.ntmps30
        go_wp2_with fail
        refine (outside_any _ _ _ _).mono ?_
        rintro e w' ⟨rfl, rfl⟩
        rw [H1.out]
        go_wp2_with fail
        refine (rplain_any _ _ HR.out).mono ?_
        rintro e w' ⟨rfl, rfl⟩
        rw [H2.out]
        go_wp2_with fail
        go_ret2
        exact ⟨rfl, Below.refl _ _⟩
      · rw [prS_ok _ _ h1 (by unfold reas; rw [h2, decide_eq_true (by omega)]; rfl)] at h
        simp only [Prod.mk.injEq] at h
        obtain ⟨h3, rfl⟩ := h
        have HX : Hid (stB n r.data.toList ++ [13, 10] = x.data.toList) := h3
        have H2 : Hid (allPlain r.data.toList = true) := h2
        have hrs : r.size ≤ 100 := by omega
        obtain ⟨t, ht⟩ := ba (dig3 n.toNat)
        have HD : Hid (t.data.toList = dig3 n.toNat) := ht
        have hts : t.size = 3 := by rw [← size_list, ht]; rfl
        clear h1 h2 h3 ht hrl
        go_enter Tryz.func30, Tryz.ntmps30
        go_wp2_with fail
        refine (outside_any _ _ _ _).mono ?_
        rintro e w' ⟨rfl, rfl⟩
        rw [H1.out]
        go_wp2_with fail
        refine (rplain_any _ _ HR.out).mono ?_
        rintro e w' ⟨rfl, rfl⟩
        rw [H2.out]
        go_wp2_with fail
        refine (digits_at n t HC.out HD.out _).mono ?_
        rintro e w' ⟨rfl, hb⟩
        go_wp2_with fail
        go_ret2
        refine ⟨ret_sw ?_, hb⟩
        apply ByteArray.ext; apply Array.ext'
        rw [← HX.out]
        simp [stB, verP, HD.out]

theorem ret_vs {v u z : Value} {a b : ByteArray} (h : a = b) : Ending.returned (.tuple #[v, .string a, u, z]) = .returned (.tuple #[v, .string b, u, z]) := by rw [h]
theorem cnt_3 (n : Int) (h : codeB n = true) : cnt (dig3 n.toNat) 999 = n := by
  obtain ⟨h1, h2⟩ := code_is n h
  have hd : isDig (dg (n.toNat / 100)) = true := (dig_iff _).2 (by rw [dg_nat _ (by omega)]; omega)
  have hh : dg (n.toNat / 100) ≠ 48 := by
    intro e
    have := congrArg UInt8.toNat e
    rw [dg_nat _ (by omega)] at this
    have e2 : (48 : UInt8).toNat = 48 := rfl
    omega
  have hn := numb_3 n.toNat (by omega)
  rw [cnt_yes]
  · rw [hn]; omega
  · rintro (g | g | g | g)
    · simp [dig3] at g
    · simp [dig3] at g
    · exact hh (by simpa [dig3] using g.2)
    · rw [dig3_dig _ (by omega)] at g; cases g
  · rw [hn]; omega

set_option maxHeartbeats 2000000 in
set_option maxRecDepth 100000 in
/-- A line that is cut off, of 13 bytes at least: what its places say. -/
theorem rparseS_line (s l q r z : ByteArray) (k : Nat) (v d : Int) (hix : Lib.index s.data.toList [13, 10] = k) (hk : k ≤ 300) (hks : k + 2 ≤ s.size) (hl : l.data.toList = s.data.toList.take k) (hl13 : 13 ≤ l.size)
    (hq : q.data.toList = (l.data.toList.drop 9).take 3) (hr : r.data.toList = l.data.toList.drop 13) (hv : cnt q.data.toList 999 = v) (hz : prS v r.data.toList = (z.data.toList, d)) (X : ByteArray) (V n c : Int)
    (hp : (d = 0 ∧ z.data.toList = l.data.toList ++ [13, 10] ∧ X = r ∧ V = v ∧ n = k + 2 ∧ c = 0) ∨ ((d ≠ 0 ∨ z.data.toList ≠ l.data.toList ++ [13, 10]) ∧ X = ⟨#[]⟩ ∧ V = 0 ∧ n = 0 ∧ c = 3))
    (m : Int) (w : World) (hm : w.cell? ⟨0, 0, none⟩ = some (.int .i64 m)) (hs : s.size < 4294967281) :
    Calls Tryz.prog 32 #[.string s] w fun e w' => e = .returned (.tuple #[.int .i64 V, .string X, .int .i64 n, .int .i64 c]) ∧ Below w.heap.size w w' := by
  have hls : l.size ≤ 300 := by rw [← size_list, hl, List.length_take]; omega
  have hll := size_list l
  have eq : l.extract 9 12 = q := by
    apply ByteArray.ext; apply Array.ext'
    rw [hq, Lib.extract_data]
  have er : l.extract 13 l.size = r := by
    apply ByteArray.ext; apply Array.ext'
    rw [hr, Lib.extract_data, List.take_of_length_le (by rw [List.length_drop]; omega)]
  have hqs : q.size ≤ 300 := by rw [← size_list, hq, List.length_take]; omega
  have hrs : r.size ≤ 300 := by rw [← size_list, hr, List.length_drop]; omega
  have HQ : Hid (l.extract 9 12 = q) := eq
  have HR : Hid (l.extract 13 l.size = r) := er
  have HQS : Hid (q.size ≤ maxLen) := by show _ ≤ _; unfold maxLen; omega
  have HRS : Hid (r.size ≤ maxLen) := by show _ ≤ _; unfold maxLen; omega
  have HIX : Hid (Lib.index s.data.toList [13, 10] = k) := hix
  have HL : Hid (l.data.toList = s.data.toList.take k) := hl
  have HM : Hid (w.cell? ⟨0, 0, none⟩ = some (.int .i64 m)) := hm
  have HZ : Hid (prS v r.data.toList = (z.data.toList, d)) := hz
  have HV : Hid (cnt q.data.toList 999 = v) := hv
  have HC : Hid ((d = 0 ∧ z.data.toList = l.data.toList ++ [13, 10] ∧ X = r ∧ V = v ∧ n = k + 2 ∧ c = 0) ∨ ((d ≠ 0 ∨ z.data.toList ≠ l.data.toList ++ [13, 10]) ∧ X = ⟨#[]⟩ ∧ V = 0 ∧ n = 0 ∧ c = 3)) := hp
  have heq : (z.toList == (l ++ ⟨#[13, 10]⟩ : ByteArray).toList) = decide (z.data.toList = l.data.toList ++ [13, 10]) := by
    rw [ByteArray.toList_eq, ByteArray.toList_eq, ByteArray.data_append, Array.toList_append, Bool.eq_iff_iff]; simp
  have HE : Hid ((z.toList == (l ++ ⟨#[13, 10]⟩ : ByteArray).toList) = decide (z.data.toList = l.data.toList ++ [13, 10])) := heq
  have g1 : ¬ (l.size : Int) < 13 := by omega
  have g2 : (12 : Int) ≤ (l.size : Int) := by omega
  have g3 : (13 : Int) ≤ (l.size : Int) := by omega
  have mixed : Tryz.prog.follows Departure.mixedOrders = true := by kernel_rfl
  clear hix hl hm hz hv hp heq eq er hq hr hll
  go_enter Tryz.func32, Tryz.ntmps32
  go_wp2_with fail
  refine (lineOf_yes s l 300 k HIX.out hk hks HL.out m _ HM.out hs).mono ?_
  rintro e w1 ⟨rfl, rfl⟩
  go_wp2_with fail
  rw [HQ.out]
  refine (count_any q 999 _ HQS.out).mono ?_
  rintro e w2 ⟨rfl, rfl⟩
  rw [HV.out]
  go_wp2_with fail
  rw [HR.out]
  refine (rprintS_at v r z d HZ.out _ HRS.out).mono ?_
  rintro e w3 ⟨rfl, hb3⟩
  rcases HC.out with ⟨hd, hz, hX, hV, hn, hc⟩ | ⟨hd, hX, hV, hn, hc⟩
  · have hq1 : (z.toList == (l ++ ⟨#[13, 10]⟩ : ByteArray).toList) = true := by rw [HE.out]; exact decide_eq_true hz
    subst hd hX hV hn hc
    clear hz
    go_wp2_with fail
    go_region_o
    all_goals go_wp2
    all_goals (try simp only [Exit.inBlock, Exit.then])
    all_goals refine bodyPost_ret (results_four rfl _ _ _) rfl ?_
    all_goals refine ⟨?_, hb3.drew⟩
    all_goals exact ret_vs HR.out
  · subst hX hV hn hc
    by_cases hd0 : d = 0
    · have hz : z.data.toList ≠ l.data.toList ++ [13, 10] := by rcases hd with h | h; exact absurd hd0 h; exact h
      have hq1 : (z.toList == (l ++ ⟨#[13, 10]⟩ : ByteArray).toList) = false := by rw [HE.out]; exact decide_eq_false hz
      subst hd0
      clear hd hz
      go_wp2_with fail
      (try simp only [Exit.inBlock, Exit.then])
      refine bodyPost_ret (results_four rfl _ _ _) rfl ?_
      exact ⟨rfl, hb3⟩
    · have hcb : (d != 0) = true := by simpa using hd0
      clear hd hd0
      go_wp2_with fail
      (try simp only [Exit.inBlock, Exit.then])
      refine bodyPost_ret (results_four rfl _ _ _) rfl ?_
      exact ⟨rfl, hb3⟩
end Go.Proofs.YtipfjpihciiikaaGreatDoor

/-
  What MsgResponse of the document's answers computes.
-/
namespace Go.Proofs.YtipfjpihciiikaaGreatDoor
open Go.RowKit

set_option maxHeartbeats 2000000 in
set_option maxRecDepth 100000 in
theorem rwriteP_at (m : ByteArray) (code : Int) (t : ByteArray) (v : Value) (ls : List Fld) (b x : ByteArray) (c : Int) (h : wrP (kd false m.data.toList code) code t.data.toList ls b.data.toList = (x.data.toList, c)) (w : World) (hf : Fl w v ls) (hm : Most maxLen ls) (z2 : t.size ≤ maxLen) :
    Calls Tryz.prog 15 #[.string m, .agg #[.int .i64 code, .string t, v, .string b]] w fun e w' => e = .returned (.tuple #[.string x, .int .i64 c]) ∧ Below w.heap.size w w' := by
  have HF : Hid (Fl w v ls) := hf
  have HM : Hid (Most maxLen ls) := hm
  have H2 : Hid (t.size ≤ maxLen) := z2
  clear hf hm z2
  obtain ⟨p, d, hp⟩ : ∃ (p : ByteArray) (d : Int), prS code t.data.toList = (p.data.toList, d) := ⟨⟨(prS code t.data.toList).1.toArray⟩, _, rfl⟩
  have HP : Hid (prS code t.data.toList = (p.data.toList, d)) := hp
  obtain ⟨u, f, hu⟩ : ∃ (u : ByteArray) (f : Int), wrB (kd false m.data.toList code) ls b.data.toList = (u.data.toList, f) := ⟨⟨(wrB (kd false m.data.toList code) ls b.data.toList).1.toArray⟩, _, rfl⟩
  have HU : Hid (wrB (kd false m.data.toList code) ls b.data.toList = (u.data.toList, f)) := hu
  unfold wrP at h
  rw [hp, hu] at h
  simp only at h
  by_cases hd : d = 0
  · subst hd
    rw [if_neg (by simp)] at h
    have HX : Hid ((if f = 0 then p ++ u else ⟨#[]⟩) = x) := by
      show _ = _
      by_cases hf0 : f = 0
      · rw [if_neg (by simpa using hf0), Prod.mk.injEq] at h
        rw [if_pos hf0]
        exact ba_app _ _ _ h.1.symm
      · rw [if_pos hf0, Prod.mk.injEq] at h
        rw [if_neg hf0]
        exact (ba_nil x h.1.symm).symm
    have hcf : c = f := by
      by_cases hf0 : f = 0
      · rw [if_neg (by simpa using hf0), Prod.mk.injEq] at h
        rw [hf0]; exact h.2.symm
      · rw [if_pos hf0, Prod.mk.injEq] at h
        exact h.2.symm
    subst hcf
    have HPS : Hid (p.size ≤ 300) := by
      show _ ≤ _
      cases h1 : codeB code
      · rw [prS_arg _ _ h1] at hp; simp at hp
      · cases h2 : reas t.data.toList
        · rw [prS_syn _ _ h1 h2] at hp; simp at hp
        · rw [prS_ok _ _ h1 h2, Prod.mk.injEq] at hp
          rw [← size_list, ← hp.1, List.length_append]
          have := (stB_le code _ h2).1
          simp; omega
    clear hp hu h
    go_enter Tryz.func15, Tryz.ntmps15
    go_wp2_with fail
    refine (rprintS_at code t p 0 HP.out _ H2.out).mono ?_
    rintro e w1 ⟨rfl, hb0⟩
    have c0 : w1.cell? ⟨w.heap.size, 0, none⟩ = some (.int .i64 code) := new_cell hb0 0
    have c2 : w1.cell? ⟨w.heap.size, 2, none⟩ = some v := new_cell hb0 2
    have c3 : w1.cell? ⟨w.heap.size, 3, none⟩ = some (.string b) := new_cell hb0 3
    have hb1 := below_new hb0
    clear hb0
    go_wp2_with fail
    refine (rmsg_at p false m code v ls b u c HU.out x HX.out _ (HF.out.below hb1) HM.out HPS.out).mono ?_
    rintro e w2 ⟨rfl, hb2⟩
    have hw2 := hb1.trans (hb2.mono hb1.size)
    clear hb1 hb2
    go_wp2_with fail
    go_ret2
    exact ⟨rfl, hw2⟩
  · rw [if_pos hd, Prod.mk.injEq] at h
    obtain ⟨h1, rfl⟩ := h
    obtain rfl := ba_nil x h1.symm
    have hdb : (d != 0) = true := by simpa using hd
    clear hp hu HU h1 hd
    go_enter Tryz.func15, Tryz.ntmps15
    go_wp2_with fail
    refine (rprintS_at code t p d HP.out _ H2.out).mono ?_
    rintro e w1 ⟨rfl, hb0⟩
    have hb1 := below_new hb0
    clear hb0
    go_wp2_with fail
    go_ret2
    exact ⟨rfl, hb1⟩
end Go.Proofs.YtipfjpihciiikaaGreatDoor

/-
  The walk through MsgWritesResponse: it answers true and turns nothing that was there; the listed variables that the library reads hold what their text lays.
-/
namespace Go.Proofs.YtipfjpihciiikaaGreatDoor
open Go.RowKit

set_option maxHeartbeats 2000000 in
set_option maxRecDepth 100000 in
theorem walkMsgWritesResponse (a0 : ByteArray) (c1 : Int) (a1t : ByteArray) (a1v : Value) (l1 : List Fld) (a1b : ByteArray) (w : World) (_z0 : a0.size ≤ 140737488351232) (z1 : Fl w a1v l1) (m1 : Most maxLen l1) (y1 : a1t.size ≤ maxLen) (_u1 : a1b.size ≤ maxLen) (hT : STabs w) (hH : HTab w) :
    Calls Tryz.prog 5 #[.string a0, .agg #[.int .i64 c1, .string a1t, a1v, .string a1b]] w fun e w' => e = .returned (.bool true) ∧ Below w.heap.size w w' := by
  have HF : Hid (Fl w a1v l1) := z1
  have HM : Hid (Most maxLen l1) := m1
  have HS : Hid (STabs w) := hT
  have HT : Hid (HTab w) := hH
  have H2 : Hid (a1t.size ≤ maxLen) := y1
  clear z1 m1 y1 _u1 hT hH _z0
  obtain ⟨x, c, hx⟩ : ∃ (x : ByteArray) (c : Int), wrP (kd false a0.data.toList c1) c1 a1t.data.toList l1 a1b.data.toList = (x.data.toList, c) := ⟨⟨(wrP (kd false a0.data.toList c1) c1 a1t.data.toList l1 a1b.data.toList).1.toArray⟩, _, rfl⟩
  have HX : Hid (wrP (kd false a0.data.toList c1) c1 a1t.data.toList l1 a1b.data.toList = (x.data.toList, c)) := hx
  clear hx
  go_enter Tryz.func5, Tryz.ntmps5
  go_wp2_with fail
  refine (writeP_at a0 c1 a1t a1v l1 a1b x c HX.out _ (HF.out.below (below_alloc _ _)) HM.out (HS.out.below (below_alloc _ _)) (HT.out.below (below_alloc _ _)) H2.out).mono ?_
  rintro e w1 ⟨rfl, hb0⟩
  have e0 : w1.cell? ⟨w.heap.size, 0, none⟩ = some (.int .i64 c1) := new_cell hb0 0
  have e1 : w1.cell? ⟨w.heap.size, 1, none⟩ = some (.string a1t) := new_cell hb0 1
  have e2 : w1.cell? ⟨w.heap.size, 2, none⟩ = some a1v := new_cell hb0 2
  have e3 : w1.cell? ⟨w.heap.size, 3, none⟩ = some (.string a1b) := new_cell hb0 3
  have hb1 := below_new hb0
  clear hb0
  go_wp2_with fail
  refine (rwriteP_at a0 c1 a1t a1v l1 a1b x c HX.out _ (HF.out.below hb1) HM.out H2.out).mono ?_
  rintro e w2 ⟨rfl, hb2⟩
  have hw2 := hb1.trans (hb2.mono hb1.size)
  clear hb1 hb2
  go_wp2_with fail
  go_ret
  exact ⟨ret_bool (by simp), hw2⟩
end Go.Proofs.YtipfjpihciiikaaGreatDoor

/-
  What hexDigit of package body computes, and the functions that takeNumber, takeExtra, endNumber, takeBytes and takeFields hand back: what they hold of what came.
-/
namespace Go.Proofs.YtipfjpihciiikaaGreatDoor
open Go.RowKit

theorem ret_ib {a b : Int} {c d : Bool} (h : a = b) (h' : c = d) : Ending.returned (.tuple #[.int .i64 a, .bool c]) = .returned (.tuple #[.int .i64 b, .bool d]) := by rw [h, h']
set_option maxHeartbeats 1000000 in
set_option maxRecDepth 100000 in
theorem hexDigit_any (c : UInt8) (w : World) :
    Calls Tryz.prog 163 #[.int .u8 (c.toNat : Int)] w fun e w' => e = .returned (.tuple #[.int .i64 (((hv c).getD 0 : Nat) : Int), .bool (hv c).isSome]) ∧ w' = w := by
  have hc : c.toNat < 256 := c.toNat_lt
  rcases (show (48 ≤ (c.toNat : Int) ∧ (c.toNat : Int) ≤ 57) ∨ (97 ≤ (c.toNat : Int) ∧ (c.toNat : Int) ≤ 102) ∨ (65 ≤ (c.toNat : Int) ∧ (c.toNat : Int) ≤ 70) ∨ ((c.toNat : Int) < 48 ∨ (57 < (c.toNat : Int) ∧ (c.toNat : Int) < 65) ∨ (70 < (c.toNat : Int) ∧ (c.toNat : Int) < 97) ∨ 102 < (c.toNat : Int)) by omega) with ⟨h1, h2⟩ | ⟨h1, h2⟩ | ⟨h1, h2⟩ | h
  · have HV : Hid (hv c = some (c.toNat - 48)) := by show _ = _; unfold hv; rw [if_pos (by omega)]
    go_enter Tryz.func163, Tryz.ntmps163
    go_wp2
    all_goals
      go_ret2
      refine ⟨ret_ib ?_ (by rw [HV.out]; rfl), rfl⟩
      rw [HV.out]; simp; try omega
  · have HV : Hid (hv c = some (c.toNat - 87)) := by show _ = _; unfold hv; rw [if_neg (by omega), if_pos (by omega)]
    go_enter Tryz.func163, Tryz.ntmps163
    go_wp2
    all_goals
      go_ret2
      refine ⟨ret_ib ?_ (by rw [HV.out]; rfl), rfl⟩
      rw [HV.out]; simp; try omega
  · have HV : Hid (hv c = some (c.toNat - 55)) := by show _ = _; unfold hv; rw [if_neg (by omega), if_neg (by omega), if_pos (by omega)]
    go_enter Tryz.func163, Tryz.ntmps163
    go_wp2
    all_goals
      go_ret2
      refine ⟨ret_ib ?_ (by rw [HV.out]; rfl), rfl⟩
      rw [HV.out]; simp; try omega
  · have HV : Hid (hv c = none) := by show _ = _; unfold hv; rw [if_neg (by omega), if_neg (by omega), if_neg (by omega)]
    rcases h with h | ⟨h, h'⟩ | ⟨h, h'⟩ | h
    all_goals
      go_enter Tryz.func163, Tryz.ntmps163
      go_wp2
      all_goals
        go_ret2
        exact ⟨ret_ib (by rw [HV.out]; rfl) (by rw [HV.out]; rfl), rfl⟩
end Go.Proofs.YtipfjpihciiikaaGreatDoor

/-
  How a Decoder of package body lies in memory: its cells, its two rows of bytes, and the function value that says what may come next.
-/
namespace Go.Proofs.YtipfjpihciiikaaGreatDoor
open Go.RowKit

def u8s (l : List UInt8) : List Value := l.map fun c => .int .u8 (c.toNat : Int)
theorem u8s_len (l : List UInt8) : (u8s l).length = l.length := by simp [u8s]
theorem u8s_snoc (l : List UInt8) (c : UInt8) : u8s (l ++ [c]) = u8s l ++ [.int .u8 (c.toNat : Int)] := by simp [u8s]

/-- The cells that function values hold stay. -/
def KeepC (w w' : World) : Prop := ∀ (a : Nat) (v : Value) (t : TypeId), (t = 3 ∨ t = 9 ∨ t = 145) → w.heap[a]? = some (.cells #[v] t) → w'.heap[a]? = some (.cells #[v] t)
theorem KeepC.refl (w : World) : KeepC w w := fun _ _ _ _ h => h
theorem KeepC.trans {a b c : World} (h : KeepC a b) (k : KeepC b c) : KeepC a c := fun i v t ht hi => k i v t ht (h i v t ht hi)
theorem KeepC.below {w w' : World} (h : Below w.heap.size w w') : KeepC w w' := fun a _ _ _ hi => (h.block a (Array.getElem?_eq_some_iff.1 hi).1).trans hi
theorem KeepC.set {w : World} {bd : Nat} {cs : Array Value} (hb : w.heap[bd]? = some (.cells cs 148)) (i : Nat) (v : Value) : KeepC w (w.setCell ⟨bd, i, none⟩ v) := by
  intro a u t ht hi
  have hne : a ≠ bd := by
    rintro rfl
    rw [hb] at hi
    have h := Option.some.inj hi
    injection h with h1 h2
    rcases ht with h | h | h <;> rw [h] at h2 <;> exact absurd h2 (by decide)
  rw [Below.heap_setCell _ _ _ _ (fun e => hne e)]
  exact hi
theorem KeepC.grown {w w' : World} {row : Option Nat} (hg : w.grownBy w' row) (hrow : ∀ g, row = some g → ∃ c, w.heap[g]? = some (.cells c 5)) : KeepC w w' := by
  intro a u t ht hi
  rw [hg.block a (Array.getElem?_eq_some_iff.1 hi).1 ?_]
  · exact hi
  · intro h
    obtain ⟨c, hc⟩ := hrow a h.symm
    rw [hi] at hc
    have h := Option.some.inj hc
    injection h with h1 h2
    rcases ht with h | h | h <;> rw [h] at h2 <;> exact absurd h2 (by decide)
theorem own5 {w : World} {B n : Nat} {v : Value} {xs : List Value} (h : w.ownsRow B 5 1 v n xs) : ∀ g, v.ownBlock = some g → ∃ c, w.heap[g]? = some (.cells c 5) := by
  intro g hg
  rcases h.2 with ⟨rfl, _⟩ | ⟨g', cap, cur, rfl, _, hgg, _⟩
  · simp [Value.ownBlock] at hg
  · simp [Value.ownBlock] at hg
    subst hg
    exact ⟨cur, hgg⟩
theorem cellH {w : World} {a : Nat} {v : Value} {t : TypeId} (h : w.heap[a]? = some (.cells #[v] t)) : w.cell? ⟨a, 0, none⟩ = some v := by simp [World.cell?, h]

abbrev ptr (a : Nat) : Value := .pointer (some ⟨a, 0, none⟩)
/-- The function value takes what may come next. -/
def StepV (w : World) (f : Value) : St → Prop
  | .num d n => ∃ a b, f = .func (.func 162) #[] #[ptr a, ptr b] ∧ w.heap[a]? = some (.cells #[.int .i64 (d : Int)] 3) ∧ w.heap[b]? = some (.cells #[.int .i64 (n : Int)] 3)
  | .ext k n => ∃ a b, f = .func (.func 177) #[] #[ptr a, ptr b] ∧ w.heap[a]? = some (.cells #[.int .i64 (n : Int)] 3) ∧ w.heap[b]? = some (.cells #[.int .i64 (k : Int)] 3)
  | .endn n => ∃ a, f = .func (.func 178) #[] #[ptr a] ∧ w.heap[a]? = some (.cells #[.int .i64 (n : Int)] 3)
  | .byt n => ∃ a, f = .func (.func 188) #[] #[ptr a] ∧ w.heap[a]? = some (.cells #[.int .i64 (n : Int)] 3)
  | .crlf => ∃ a b c d, f = .func (.func 191) #[] #[ptr a, ptr b] ∧ w.heap[a]? = some (.cells #[.string ⟨#[13, 10]⟩] 9) ∧
      w.heap[b]? = some (.cells #[.func (.func 162) #[] #[ptr c, ptr d]] 145) ∧ w.heap[c]? = some (.cells #[.int .i64 0] 3) ∧ w.heap[d]? = some (.cells #[.int .i64 0] 3)
  | .lf => ∃ a b c d, f = .func (.func 191) #[] #[ptr a, ptr b] ∧ w.heap[a]? = some (.cells #[.string ⟨#[10]⟩] 9) ∧
      w.heap[b]? = some (.cells #[.func (.func 162) #[] #[ptr c, ptr d]] 145) ∧ w.heap[c]? = some (.cells #[.int .i64 0] 3) ∧ w.heap[d]? = some (.cells #[.int .i64 0] 3)
  | .fld k => ∃ a, f = .func (.func 186) #[] #[ptr a] ∧ w.heap[a]? = some (.cells #[.int .i64 (k : Int)] 3)
theorem StepV.keep {w w' : World} {f : Value} {st : St} (h : StepV w f st) (k : KeepC w w') : StepV w' f st := by
  cases st with
  | num d n => obtain ⟨a, b, h1, h2, h3⟩ := h; exact ⟨a, b, h1, k _ _ _ (.inl rfl) h2, k _ _ _ (.inl rfl) h3⟩
  | ext d n => obtain ⟨a, b, h1, h2, h3⟩ := h; exact ⟨a, b, h1, k _ _ _ (.inl rfl) h2, k _ _ _ (.inl rfl) h3⟩
  | endn n => obtain ⟨a, h1, h2⟩ := h; exact ⟨a, h1, k _ _ _ (.inl rfl) h2⟩
  | byt n => obtain ⟨a, h1, h2⟩ := h; exact ⟨a, h1, k _ _ _ (.inl rfl) h2⟩
  | fld n => obtain ⟨a, h1, h2⟩ := h; exact ⟨a, h1, k _ _ _ (.inl rfl) h2⟩
  | crlf => obtain ⟨a, b, c, d, h1, h2, h3, h4, h5⟩ := h; exact ⟨a, b, c, d, h1, k _ _ _ (.inr (.inl rfl)) h2, k _ _ _ (.inr (.inr rfl)) h3, k _ _ _ (.inl rfl) h4, k _ _ _ (.inl rfl) h5⟩
  | lf => obtain ⟨a, b, c, d, h1, h2, h3, h4, h5⟩ := h; exact ⟨a, b, c, d, h1, k _ _ _ (.inr (.inl rfl)) h2, k _ _ _ (.inr (.inr rfl)) h3, k _ _ _ (.inl rfl) h4, k _ _ _ (.inl rfl) h5⟩

theorem hmf_of : ∀ (fn : Fn) (first cap : Array Value) (w : World), (Instr.makeFunc fn first cap).run Tryz.prog w = .ok (.func fn first cap) w := fun _ _ _ _ => rfl
theorem at_last (w : World) (o : Obj) : (w.alloc o).heap[w.heap.size]? = some o := by show (w.heap.push o)[w.heap.size]? = some o; simp
theorem at_last2 (w : World) (o o' : Obj) : ((w.alloc o).alloc o').heap[w.heap.size]? = some o := by
  rw [Lib.alloc_old _ _ _ (by simp)]; exact at_last w o
theorem at_last3 (w : World) (o o' : Obj) : ((w.alloc o).alloc o').heap[w.heap.size + 1]? = some o' := by
  have := at_last (w.alloc o) o'
  simpa using this

set_option maxHeartbeats 1000000 in
set_option maxRecDepth 100000 in
theorem mkNumber (a b : Int) (d n : Nat) (ha : a = d) (hb : b = n) (w : World) :
    Calls Tryz.prog 140 #[.int .i64 a, .int .i64 b] w fun e w' => ∃ f, e = .returned f ∧ StepV w' f (.num d n) ∧ Below w.heap.size w w' := by
  have hmf := hmf_of
  subst ha hb
  go_enter Tryz.func140, Tryz.ntmps140
  go_wp2_with fail
  go_ret
  exact ⟨_, rfl, ⟨_, _, rfl, at_last2 _ _ _, at_last3 _ _ _⟩, ((Below.refl _ w).alloc (Nat.le_refl _) _).alloc (by simp) _⟩
set_option maxHeartbeats 1000000 in
set_option maxRecDepth 100000 in
theorem mkExtra (a b : Int) (d n : Nat) (ha : a = d) (hb : b = n) (w : World) :
    Calls Tryz.prog 164 #[.int .i64 a, .int .i64 b] w fun e w' => ∃ f, e = .returned f ∧ StepV w' f (.ext d n) ∧ Below w.heap.size w w' := by
  have hmf := hmf_of
  subst ha hb
  go_enter Tryz.func164, Tryz.ntmps164
  go_wp2_with fail
  go_ret
  exact ⟨_, rfl, ⟨_, _, rfl, at_last3 _ _ _, at_last2 _ _ _⟩, ((Below.refl _ w).alloc (Nat.le_refl _) _).alloc (by simp) _⟩
set_option maxHeartbeats 1000000 in
set_option maxRecDepth 100000 in
theorem mkEnd (b : Int) (n : Nat) (hb : b = n) (w : World) :
    Calls Tryz.prog 165 #[.int .i64 b] w fun e w' => ∃ f, e = .returned f ∧ StepV w' f (.endn n) ∧ Below w.heap.size w w' := by
  have hmf := hmf_of
  subst hb
  go_enter Tryz.func165, Tryz.ntmps165
  go_wp2_with fail
  go_ret
  exact ⟨_, rfl, ⟨_, rfl, at_last _ _⟩, (Below.refl _ w).alloc (Nat.le_refl _) _⟩
set_option maxHeartbeats 1000000 in
set_option maxRecDepth 100000 in
theorem mkBytes (b : Int) (n : Nat) (hb : b = n) (w : World) :
    Calls Tryz.prog 180 #[.int .i64 b] w fun e w' => ∃ f, e = .returned f ∧ StepV w' f (.byt n) ∧ Below w.heap.size w w' := by
  have hmf := hmf_of
  subst hb
  go_enter Tryz.func180, Tryz.ntmps180
  go_wp2_with fail
  go_ret
  exact ⟨_, rfl, ⟨_, rfl, at_last _ _⟩, (Below.refl _ w).alloc (Nat.le_refl _) _⟩
set_option maxHeartbeats 1000000 in
set_option maxRecDepth 100000 in
theorem mkFields (b : Int) (n : Nat) (hb : b = n) (w : World) :
    Calls Tryz.prog 179 #[.int .i64 b] w fun e w' => ∃ f, e = .returned f ∧ StepV w' f (.fld n) ∧ Below w.heap.size w w' := by
  have hmf := hmf_of
  subst hb
  go_enter Tryz.func179, Tryz.ntmps179
  go_wp2_with fail
  go_ret
  exact ⟨_, rfl, ⟨_, rfl, at_last _ _⟩, (Below.refl _ w).alloc (Nat.le_refl _) _⟩
set_option maxHeartbeats 1000000 in
set_option maxRecDepth 100000 in
theorem mkText (s : ByteArray) (fn : Fn) (fi ca : Array Value) (w : World) :
    Calls Tryz.prog 189 #[.string s, .func fn fi ca] w fun e w' => ∃ a b, e = .returned (.func (.func 191) #[] #[ptr a, ptr b]) ∧ w'.heap[a]? = some (.cells #[.string s] 9) ∧ w'.heap[b]? = some (.cells #[.func fn fi ca] 145) ∧ Below w.heap.size w w' := by
  have hmf := hmf_of
  go_enter Tryz.func189, Tryz.ntmps189
  go_wp2_with fail
  go_ret
  exact ⟨_, _, rfl, at_last2 _ _ _, at_last3 _ _ _, ((Below.refl _ w).alloc (Nat.le_refl _) _).alloc (by simp) _⟩
end Go.Proofs.YtipfjpihciiikaaGreatDoor

/-
  What the function that takeNumber of package body hands back answers of a byte.
-/
namespace Go.Proofs.YtipfjpihciiikaaGreatDoor
open Go.RowKit

/-- What a function value answers that neither reads nor writes the Decoder. -/
def Nx (w w' : World) (e : Ending) (r : Option St) : Prop :=
  Below w.heap.size w w' ∧ match r with
    | none => e = .returned (.tuple #[.nilFunc, .int .i64 3])
    | some st => ∃ f, e = .returned (.tuple #[f, .int .i64 0]) ∧ StepV w' f st
def numN (d n : Nat) (c : UInt8) : Option St :=
  match hv c with
  | some v => if d < 4 then some (.num (d + 1) (n * 16 + v)) else none
  | none => if 0 < d ∧ c = 59 then some (.ext 0 n) else if 0 < d ∧ c = 13 then some (.endn n) else none
theorem u8_is {c : UInt8} {k : Nat} (hk : k < 256) : c.toNat = k ↔ c = UInt8.ofNat k := by
  constructor
  · intro h; rw [← h]; simp
  · rintro rfl; simp; omega
theorem hv_no59 : hv 59 = none := by decide
theorem hv_no13 : hv 13 = none := by decide

set_option maxHeartbeats 4000000 in
set_option maxRecDepth 100000 in
theorem number1_at (d n : Nat) (c : UInt8) (a b : Nat) (pd : Value) (w : World) (hd : d ≤ 4) (hn : n < 65536) (ha : w.cell? ⟨a, 0, none⟩ = some (.int .i64 (d : Int))) (hb : w.cell? ⟨b, 0, none⟩ = some (.int .i64 (n : Int))) :
    Calls Tryz.prog 162 #[pd, .int .u8 (c.toNat : Int), ptr a, ptr b] w fun e w' => Nx w w' e (numN d n c) := by
  have hc : c.toNat < 256 := c.toNat_lt
  cases hv1 : hv c with
  | some v =>
    have hvl := hv_lt c v hv1
    have HV : Hid (hv c = some v) := hv1
    have h59 : ((c.toNat : Int) == 59) = false := by
      rw [beq_eq_false_iff_ne]; intro h
      have : c = 59 := (u8_is (k := 59) (by decide)).1 (by omega)
      rw [this, hv_no59] at hv1; cases hv1
    have h13 : ((c.toNat : Int) == 13) = false := by
      rw [beq_eq_false_iff_ne]; intro h
      have : c = 13 := (u8_is (k := 13) (by decide)).1 (by omega)
      rw [this, hv_no13] at hv1; cases hv1
    clear hv1
    by_cases h4 : (d : Int) < 4
    · have HR : Hid (numN d n c = some (.num (d + 1) (n * 16 + v))) := by show _ = _; unfold numN; rw [HV.out]; simp only; rw [if_pos (by omega)]
      go_enter Tryz.func162, Tryz.ntmps162
      go_wp2_with fail
      refine (hexDigit_any c _).mono ?_
      rintro e w1 ⟨rfl, rfl⟩
      rw [HV.out]
      go_wp2_with fail
      refine (mkNumber _ _ (d + 1) (n * 16 + v) (by go_num) (by go_num) _).mono ?_
      rintro e w2 ⟨f, rfl, hst, hbl⟩
      go_wp2_with fail
      go_ret2
      rw [HR.out]
      exact ⟨hbl, f, rfl, hst⟩
    · have HR : Hid (numN d n c = none) := by show _ = _; unfold numN; rw [HV.out]; simp only; rw [if_neg (by omega)]
      go_enter Tryz.func162, Tryz.ntmps162
      go_wp2_with fail
      refine (hexDigit_any c _).mono ?_
      rintro e w1 ⟨rfl, rfl⟩
      rw [HV.out]
      go_wp2_with fail
      all_goals
        go_ret2
        rw [HR.out]
        exact ⟨Below.refl _ _, rfl⟩
  | none =>
    have HV : Hid (hv c = none) := hv1
    clear hv1
    by_cases h0 : 0 < (d : Int)
    · by_cases h59 : (c.toNat : Int) = 59
      · have hc59 : c = 59 := (u8_is (k := 59) (by decide)).1 (by omega)
        have HR : Hid (numN d n c = some (.ext 0 n)) := by show _ = _; unfold numN; rw [HV.out]; simp only; rw [if_pos ⟨by omega, hc59⟩]
        have h59' : ((c.toNat : Int) == 59) = true := by rw [h59]; rfl
        clear hc59 h59
        go_enter Tryz.func162, Tryz.ntmps162
        go_wp2_with fail
        refine (hexDigit_any c _).mono ?_
        rintro e w1 ⟨rfl, rfl⟩
        rw [HV.out]
        go_wp2_with fail
        refine (mkExtra _ _ 0 n (by go_num) (by go_num) _).mono ?_
        rintro e w2 ⟨f, rfl, hst, hbl⟩
        go_wp2_with fail
        go_ret2
        rw [HR.out]
        exact ⟨hbl, f, rfl, hst⟩
      · have hn59 : c ≠ 59 := by rintro rfl; simp at h59
        have h59' : ((c.toNat : Int) == 59) = false := beq_eq_false_iff_ne.2 h59
        by_cases h13 : (c.toNat : Int) = 13
        · have hc13 : c = 13 := (u8_is (k := 13) (by decide)).1 (by omega)
          have HR : Hid (numN d n c = some (.endn n)) := by show _ = _; unfold numN; rw [HV.out]; simp only; rw [if_neg (fun x => hn59 x.2), if_pos ⟨by omega, hc13⟩]
          have h13' : ((c.toNat : Int) == 13) = true := by rw [h13]; rfl
          clear hc13 hn59 h59 h13
          go_enter Tryz.func162, Tryz.ntmps162
          go_wp2_with fail
          refine (hexDigit_any c _).mono ?_
          rintro e w1 ⟨rfl, rfl⟩
          rw [HV.out]
          go_wp2_with fail
          refine (mkEnd _ n (by go_num) _).mono ?_
          rintro e w2 ⟨f, rfl, hst, hbl⟩
          go_wp2_with fail
          go_ret2
          rw [HR.out]
          exact ⟨hbl, f, rfl, hst⟩
        · have hn13 : c ≠ 13 := by rintro rfl; simp at h13
          have h13' : ((c.toNat : Int) == 13) = false := beq_eq_false_iff_ne.2 h13
          have HR : Hid (numN d n c = none) := by show _ = _; unfold numN; rw [HV.out]; simp only; rw [if_neg (fun x => hn59 x.2), if_neg (fun x => hn13 x.2)]
          clear hn13 hn59 h59 h13
          go_enter Tryz.func162, Tryz.ntmps162
          go_wp2_with fail
          refine (hexDigit_any c _).mono ?_
          rintro e w1 ⟨rfl, rfl⟩
          rw [HV.out]
          go_wp2_with fail
          all_goals
            go_ret2
            rw [HR.out]
            exact ⟨Below.refl _ _, rfl⟩
    · have HR : Hid (numN d n c = none) := by show _ = _; unfold numN; rw [HV.out]; simp only; rw [if_neg (by omega), if_neg (by omega)]
      go_enter Tryz.func162, Tryz.ntmps162
      go_wp2_with fail
      refine (hexDigit_any c _).mono ?_
      rintro e w1 ⟨rfl, rfl⟩
      rw [HV.out]
      go_wp2_with fail
      all_goals
        go_ret2
        rw [HR.out]
        exact ⟨Below.refl _ _, rfl⟩
end Go.Proofs.YtipfjpihciiikaaGreatDoor

/-
  What the functions that takeExtra, endNumber and takeText of package body hand back answer of a byte.
-/
namespace Go.Proofs.YtipfjpihciiikaaGreatDoor
open Go.RowKit

def extN (k n : Nat) (c : UInt8) : Option St := if c = 13 then some (.endn n) else if k < 50 ∧ plainB c = true then some (.ext (k + 1) n) else none
theorem plain_one (c : UInt8) : allPlain [c] = plainB c := by simp [allPlain]

set_option maxHeartbeats 4000000 in
set_option maxRecDepth 100000 in
theorem extra1_at (k n : Nat) (c : UInt8) (a b : Nat) (pd : Value) (w : World) (hk : k ≤ 50) (ha : w.cell? ⟨a, 0, none⟩ = some (.int .i64 (n : Int))) (hb : w.cell? ⟨b, 0, none⟩ = some (.int .i64 (k : Int))) :
    Calls Tryz.prog 177 #[pd, .int .u8 (c.toNat : Int), ptr a, ptr b] w fun e w' => Nx w w' e (extN k n c) := by
  have hc : c.toNat < 256 := c.toNat_lt
  have has : a < w.heap.size := cell_in ha
  have hbs : b < w.heap.size := cell_in hb
  by_cases h13 : (c.toNat : Int) = 13
  · have hc13 : c = 13 := (u8_is (k := 13) (by decide)).1 (by omega)
    have HR : Hid (extN k n c = some (.endn n)) := by show _ = _; unfold extN; rw [if_pos hc13]
    have h13' : ((c.toNat : Int) == 13) = true := by rw [h13]; rfl
    clear hc13 h13
    go_enter Tryz.func177, Tryz.ntmps177
    go_wp2_with fail
    refine (mkEnd _ n (by go_num) _).mono ?_
    rintro e w2 ⟨f, rfl, hst, hbl⟩
    go_wp2_with fail
    go_ret2
    rw [HR.out]
    exact ⟨hbl, f, rfl, hst⟩
  · have hn13 : c ≠ 13 := by rintro rfl; simp at h13
    have h13' : ((c.toNat : Int) == 13) = false := beq_eq_false_iff_ne.2 h13
    clear h13
    by_cases h50 : (k : Int) < 50
    · have hcv := run_convert_bytes_back (P := Tryz.prog) (w.alloc (.cells #[.int .u8 (c.toNat : Int)] 5)) 94 9 5 ⟨w.heap.size, 0, none⟩ 1 [c] Tryz.underlying94 Tryz.underlying5 Tryz.underlying9 (fun j hj => by
        have hj' : j < 1 := hj
        obtain rfl : j = 0 := by omega
        rw [show (⟨w.heap.size, 0, none⟩ : Addr).add 0 = ⟨w.heap.size, 0, none⟩ from rfl, World.cell?_alloc_at _ _ _ _ (by simp)]
        simp)
      rw [show ([c] : List UInt8).length = 1 from rfl] at hcv
      have HS : Hid ((⟨[c].toArray⟩ : ByteArray).size ≤ maxLen) := by show _ ≤ _; rw [show (⟨[c].toArray⟩ : ByteArray).size = 1 from rfl]; decide
      cases hp : plainB c
      · have HR : Hid (extN k n c = none) := by show _ = _; unfold extN; rw [if_neg hn13, if_neg (by rw [hp]; simp)]
        have HP : Hid (allPlain (⟨[c].toArray⟩ : ByteArray).data.toList = false) := by show _ = _; rw [← hp]; exact plain_one c
        clear hp hn13
        go_enter Tryz.func177, Tryz.ntmps177
        go_wp2_with fail
        refine (isPlainS_is _ false HP.out _ HS.out).mono ?_
        rintro e w1 ⟨rfl, rfl⟩
        go_wp2_with fail
        go_ret2
        rw [HR.out]
        exact ⟨(Below.refl _ w).alloc (Nat.le_refl _) _, rfl⟩
      · have HR : Hid (extN k n c = some (.ext (k + 1) n)) := by show _ = _; unfold extN; rw [if_neg hn13, if_pos ⟨by omega, hp⟩]
        have HP : Hid (allPlain (⟨[c].toArray⟩ : ByteArray).data.toList = true) := by show _ = _; rw [← hp]; exact plain_one c
        clear hp hn13
        go_enter Tryz.func177, Tryz.ntmps177
        go_wp2_with fail
        refine (isPlainS_is _ true HP.out _ HS.out).mono ?_
        rintro e w1 ⟨rfl, hw1⟩
        have hB : Below w.heap.size w w1 := by rw [hw1]; exact (Below.refl _ w).alloc (Nat.le_refl _) _
        have ha1 : w1.cell? ⟨a, 0, none⟩ = some (.int .i64 (n : Int)) := (hB.cell (p := ⟨a, 0, none⟩) has).trans ha
        have hb1' : w1.cell? ⟨b, 0, none⟩ = some (.int .i64 (k : Int)) := (hB.cell (p := ⟨b, 0, none⟩) hbs).trans hb
        have hsz := hB.size
        clear hw1 ha hb hcv
        go_wp2_with fail
        refine (mkExtra _ _ (k + 1) n (by go_num) (by go_num) _).mono ?_
        rintro e w2 ⟨f, rfl, hst, hbl⟩
        go_wp2_with fail
        go_ret2
        rw [HR.out]
        exact ⟨hB.trans (hbl.mono hsz), f, rfl, hst⟩
    · have HR : Hid (extN k n c = none) := by show _ = _; unfold extN; rw [if_neg hn13, if_neg (by omega)]
      clear hn13
      go_enter Tryz.func177, Tryz.ntmps177
      go_wp2_with fail
      go_ret2
      rw [HR.out]
      exact ⟨Below.refl _ _, rfl⟩

def EndQ (n : Nat) (c : UInt8) (len : Nat) (w w' : World) (e : Ending) : Prop := Below w.heap.size w w' ∧
      (c ≠ 10 → e = .returned (.tuple #[.nilFunc, .int .i64 3])) ∧ (c = 10 → 5000 < len + n → e = .returned (.tuple #[.nilFunc, .int .i64 2])) ∧
      (c = 10 → ¬ 5000 < len + n → ∃ f, e = .returned (.tuple #[f, .int .i64 0]) ∧ StepV w' f (if n = 0 then .fld 0 else .byt n))
set_option maxHeartbeats 4000000 in
set_option maxRecDepth 100000 in
theorem end1_at (n : Nat) (c : UInt8) (a bd len cap : Nat) (ad : Option Addr) (w : World) (hn : n < 65536) (hl : len ≤ 5000) (ha : w.cell? ⟨a, 0, none⟩ = some (.int .i64 (n : Int))) (hb : w.cell? ⟨bd, 1, none⟩ = some (.slice ad len cap)) :
    Calls Tryz.prog 178 #[ptr bd, .int .u8 (c.toNat : Int), ptr a] w fun e w' => EndQ n c len w w' e := by
  have hwr : IntKind.i64.wrap ((len : Int) + (n : Int)) = (len : Int) + (n : Int) := wrap_small _ (by omega) (by omega)
  have hc : c.toNat < 256 := c.toNat_lt
  by_cases h10 : (c.toNat : Int) = 10
  · have hc10 : c = 10 := (u8_is (k := 10) (by decide)).1 (by omega)
    have HC : Hid (c = 10) := hc10
    have h10' : ((c.toNat : Int) != 10) = false := by rw [h10]; rfl
    clear hc10 h10
    by_cases hbig : 5000 < (len : Int) + (n : Int)
    · go_enter Tryz.func178, Tryz.ntmps178
      go_wp2_with fail
      go_quiet (fail)
      all_goals
        go_wp2_with fail
        go_ret2
        exact ⟨drewN_below _ _ _, fun h => absurd HC.out h, fun _ _ => rfl, fun _ h => absurd hbig (by omega)⟩
    · by_cases hn0 : (n : Int) = 0
      · have HN : Hid (n = 0) := by show _ = _; omega
        have hn0' : ((n : Int) == 0) = true := by rw [hn0]; rfl
        clear hn0
        go_enter Tryz.func178, Tryz.ntmps178
        go_wp2_with fail
        go_quiet (fail)
        all_goals
          go_wp2_with fail
          refine (mkFields _ 0 (by go_num) _).mono ?_
          rintro e w2 ⟨f, rfl, hst, hbl⟩
          go_wp2_with fail
          go_ret2
          exact ⟨(drewN_below _ _ _).trans (hbl.mono (by rw [drewN_size]; exact Nat.le_refl _)), fun h => absurd HC.out h, fun _ h => absurd h (by omega), fun _ _ => ⟨f, rfl, by rw [if_pos HN.out]; exact hst⟩⟩
      · have hn0' : ((n : Int) == 0) = false := beq_eq_false_iff_ne.2 hn0
        have HN : Hid (n ≠ 0) := by show _ ≠ _; omega
        clear hn0
        go_enter Tryz.func178, Tryz.ntmps178
        go_wp2_with fail
        go_quiet (fail)
        all_goals
          go_wp2_with fail
          refine (mkBytes _ n (by go_num) _).mono ?_
          rintro e w2 ⟨f, rfl, hst, hbl⟩
          go_wp2_with fail
          go_ret2
          exact ⟨(drewN_below _ _ _).trans (hbl.mono (by rw [drewN_size]; exact Nat.le_refl _)), fun h => absurd HC.out h, fun _ h => absurd h (by omega), fun _ _ => ⟨f, rfl, by rw [if_neg HN.out]; exact hst⟩⟩
  · have HC : Hid (c ≠ 10) := by show _ ≠ _; rintro rfl; simp at h10
    have h10' : ((c.toNat : Int) != 10) = true := by simp [h10]
    clear h10
    go_enter Tryz.func178, Tryz.ntmps178
    go_wp2_with fail
    go_ret2
    exact ⟨Below.refl _ _, fun _ => rfl, fun h => absurd h HC.out, fun h => absurd h HC.out⟩
end Go.Proofs.YtipfjpihciiikaaGreatDoor

/-
  What the function that takeText of package body hands back answers of a byte.
-/
namespace Go.Proofs.YtipfjpihciiikaaGreatDoor
open Go.RowKit

def crN (c : UInt8) : Option St := if c = 13 then some .lf else none
def lfN (c : UInt8) : Option St := if c = 10 then some (.num 0 0) else none
set_option maxHeartbeats 4000000 in
set_option maxRecDepth 100000 in
theorem text1_cr (c : UInt8) (f : Value) (w : World) (h : StepV w f .crlf) (pd : Value) :
    ∃ lb, f = .func (.func 191) #[] lb ∧ Calls Tryz.prog 191 (#[pd, .int .u8 (c.toNat : Int)] ++ lb) w fun e w' => Nx w w' e (crN c) := by
  obtain ⟨a, b, k, d, hf, ha, hb, hk, hd⟩ := h
  refine ⟨_, hf, ?_⟩
  show Calls Tryz.prog 191 #[pd, .int .u8 (c.toNat : Int), ptr a, ptr b] w _
  have ha1 := cellH ha
  have hb1 := cellH hb
  have HK : Hid (w.heap[k]? = some (.cells #[.int .i64 0] 3)) := hk
  have HD : Hid (w.heap[d]? = some (.cells #[.int .i64 0] 3)) := hd
  have hc : c.toNat < 256 := c.toNat_lt
  clear hf ha hb hk hd
  by_cases h13 : (c.toNat : Int) = 13
  · have hc13 : c = 13 := (u8_is (k := 13) (by decide)).1 (by omega)
    have HR : Hid (crN c = some .lf) := by show _ = _; unfold crN; rw [if_pos hc13]
    have h13' : ((c.toNat : Int) != 13) = false := by rw [h13]; rfl
    have h13'' : ((c.toNat : Int) != (((⟨#[13, 10]⟩ : ByteArray)[0]'(by decide)).toNat : Int)) = false := h13'
    clear hc13 h13 h13'
    go_enter Tryz.func191, Tryz.ntmps191
    go_wp2_with fail
    go_region_held3 (fun w' => w'.cell? ⟨a, 0, none⟩ = some (.string ⟨#[13, 10]⟩) ∧ w'.cell? ⟨b, 0, none⟩ = some (.func (.func 162) #[] #[ptr k, ptr d])) (go_keep) (first | (go_at_call 189; refine (mkText _ _ _ _ _).mono ?_; rintro e w3 ⟨a', b', rfl, ha', hb', hbl⟩; have hk1 : w3.cell? ⟨a, 0, none⟩ = some (.string ⟨#[13, 10]⟩) := (hbl.cell (p := ⟨a, 0, none⟩) (cell_in ha1)).trans ha1; have hk2 : w3.cell? ⟨b, 0, none⟩ = some (.func (.func 162) #[] #[ptr k, ptr d]) := (hbl.cell (p := ⟨b, 0, none⟩) (cell_in hb1)).trans hb1))
    all_goals
      go_wp2_with fail
      go_ret2
      rw [HR.out]
      exact ⟨(Below.refl _ w).drew.trans hbl, _, rfl, a', b', k, d, rfl, ha', hb', KeepC.below hbl _ _ _ (.inl rfl) HK.out, KeepC.below hbl _ _ _ (.inl rfl) HD.out⟩
  · have hn13 : c ≠ 13 := by rintro rfl; simp at h13
    have HR : Hid (crN c = none) := by show _ = _; unfold crN; rw [if_neg hn13]
    have h13' : ((c.toNat : Int) != 13) = true := by simp [h13]
    have h13'' : ((c.toNat : Int) != (((⟨#[13, 10]⟩ : ByteArray)[0]'(by decide)).toNat : Int)) = true := h13'
    clear hn13 h13 h13'
    go_enter Tryz.func191, Tryz.ntmps191
    go_wp2_with fail
    go_ret2
    rw [HR.out]
    exact ⟨Below.refl _ _, rfl⟩
set_option maxHeartbeats 4000000 in
set_option maxRecDepth 100000 in
theorem text1_lf (c : UInt8) (f : Value) (w : World) (h : StepV w f .lf) (pd : Value) :
    ∃ lb, f = .func (.func 191) #[] lb ∧ Calls Tryz.prog 191 (#[pd, .int .u8 (c.toNat : Int)] ++ lb) w fun e w' => Nx w w' e (lfN c) := by
  obtain ⟨a, b, k, d, hf, ha, hb, hk, hd⟩ := h
  refine ⟨_, hf, ?_⟩
  show Calls Tryz.prog 191 #[pd, .int .u8 (c.toNat : Int), ptr a, ptr b] w _
  have ha1 := cellH ha
  have hb1 := cellH hb
  have HK : Hid (w.heap[k]? = some (.cells #[.int .i64 0] 3)) := hk
  have HD : Hid (w.heap[d]? = some (.cells #[.int .i64 0] 3)) := hd
  have hc : c.toNat < 256 := c.toNat_lt
  clear hf ha hb hk hd
  by_cases h13 : (c.toNat : Int) = 10
  · have hc13 : c = 10 := (u8_is (k := 10) (by decide)).1 (by omega)
    have HR : Hid (lfN c = some (.num 0 0)) := by show _ = _; unfold lfN; rw [if_pos hc13]
    have h13' : ((c.toNat : Int) != 10) = false := by rw [h13]; rfl
    have h13'' : ((c.toNat : Int) != (((⟨#[10]⟩ : ByteArray)[0]'(by decide)).toNat : Int)) = false := h13'
    clear hc13 h13 h13'
    go_enter Tryz.func191, Tryz.ntmps191
    go_wp2_with fail
    go_ret2
    rw [HR.out]
    exact ⟨Below.refl _ _, _, rfl, k, d, rfl, HK.out, HD.out⟩
  · have hn13 : c ≠ 10 := by rintro rfl; simp at h13
    have HR : Hid (lfN c = none) := by show _ = _; unfold lfN; rw [if_neg hn13]
    have h13' : ((c.toNat : Int) != 10) = true := by simp [h13]
    have h13'' : ((c.toNat : Int) != (((⟨#[10]⟩ : ByteArray)[0]'(by decide)).toNat : Int)) = true := h13'
    clear hn13 h13 h13'
    go_enter Tryz.func191, Tryz.ntmps191
    go_wp2_with fail
    go_ret2
    rw [HR.out]
    exact ⟨Below.refl _ _, rfl⟩
end Go.Proofs.YtipfjpihciiikaaGreatDoor

/-
  What the function that takeBytes of package body hands back does to a Decoder: the byte comes behind the body.
-/
namespace Go.Proofs.YtipfjpihciiikaaGreatDoor
open Go.RowKit

theorem info5 : (Tryz.prog.info? 5).map (fun i => (i.zero, i.size, i.bytes)) = some (some (.int .u8 0), 1, 1) := by kernel_rfl
/-- A Decoder in block bd: what it holds, and its two rows, of its own. -/
def Dec (B : Nat) (w : World) (bd : Nat) (f0 : Value) (x : Ds) : Prop :=
  ∃ vb vf Bf, w.heap[bd]? = some (.cells #[f0, vb, vf, .bool x.done] 148) ∧ B ≤ bd ∧ B ≤ Bf ∧ Bf ≤ w.heap.size ∧
    w.ownsRow B 5 1 vb x.body.length (u8s x.body) ∧ w.ownsRow Bf 5 1 vf x.fields.length (u8s x.fields) ∧ (∀ g, vb.ownBlock = some g → g < Bf) ∧ (x.fields = [] → vf = .slice none 0 0)
theorem heap_set_at {w : World} {bd : Nat} {cs : Array Value} {t : TypeId} (h : w.heap[bd]? = some (.cells cs t)) (i : Nat) (v : Value) : (w.setCell ⟨bd, i, none⟩ v).heap[bd]? = some (.cells (cs.setIfInBounds i v) t) := by
  simp [World.setCell, Array.getElem?_modify, h]
theorem heap_set_ne {w : World} {bd k : Nat} (h : k ≠ bd) (i : Nat) (v : Value) : (w.setCell ⟨bd, i, none⟩ v).heap[k]? = w.heap[k]? := Below.heap_setCell w ⟨bd, i, none⟩ v k h
theorem own_set {w : World} {B bd n : Nat} {v : Value} {xs : List Value} {cs : Array Value} (h : w.ownsRow B 5 1 v n xs) (hb : w.heap[bd]? = some (.cells cs 148)) (i : Nat) (u : Value) : (w.setCell ⟨bd, i, none⟩ u).ownsRow B 5 1 v n xs := by
  refine ⟨h.1, ?_⟩
  rcases h.2 with h0 | ⟨g, cap, cur, hv, hB, hg, h3⟩
  · exact .inl h0
  · refine .inr ⟨g, cap, cur, hv, hB, ?_, h3⟩
    rw [heap_set_ne ?_]
    · exact hg
    · rintro rfl
      rw [hg] at hb
      have h := Option.some.inj hb
      injection h with _ h2
      exact absurd h2 (by decide)
theorem Dec.below {B : Nat} {w w' : World} {bd : Nat} {f0 : Value} {x : Ds} (h : Dec B w bd f0 x) (hb : Below w.heap.size w w') : Dec B w' bd f0 x := by
  obtain ⟨vb, vf, Bf, h1, h2, h3, h4, h5, h6, h7, h8⟩ := h
  exact ⟨vb, vf, Bf, (hb.block bd (Array.getElem?_eq_some_iff.1 h1).1).trans h1, h2, h3, Nat.le_trans h4 hb.size, own_below2 h5 hb, own_below2 h6 hb, h7, h8⟩
theorem dec_grown {B : Nat} {w w1 : World} {bd n : Nat} {cs : Array Value} {u v : Value} {xs : List Value} (h1 : w.heap[bd]? = some (.cells cs 148)) (h5 : w.ownsRow B 5 1 u n xs) (hg : (w.alloc (.cells #[v] 5)).grownBy w1 u.ownBlock) : w1.heap[bd]? = some (.cells cs 148) := by
  have hlt : bd < w.heap.size := (Array.getElem?_eq_some_iff.1 h1).1
  have hne : some bd ≠ u.ownBlock := by
    intro e
    obtain ⟨c', hc'⟩ := own5 (h5.alloc (.cells #[v] 5)) bd e.symm
    rw [Lib.alloc_old _ _ _ hlt, h1] at hc'
    have h := Option.some.inj hc'
    injection h with _ h2
    exact absurd h2 (by decide)
  rw [hg.block bd (by simp; omega) hne, Lib.alloc_old _ _ _ hlt]; exact h1
/-- What append and the store into the Decoder leave: the body's row. -/
theorem Dec.body {B : Nat} {w w1 : World} {bd : Nat} {f0 vb vf v' : Value} {x : Ds} {c : UInt8} (h1 : w.heap[bd]? = some (.cells #[f0, vb, vf, .bool x.done] 148)) (h2 : B ≤ bd)
    (h5 : w.ownsRow B 5 1 vb x.body.length (u8s x.body)) (h8 : x.fields = []) (h9 : vf = .slice none 0 0)
    (ho : w1.ownsRow B 5 1 v' (x.body.length + 1) (u8s x.body ++ [.int .u8 (c.toNat : Int)])) (hg : (w.alloc (.cells #[.int .u8 (c.toNat : Int)] 5)).grownBy w1 vb.ownBlock) :
    Dec B (w1.setCell ⟨bd, 1, none⟩ v') bd f0 { x with body := x.body ++ [c] } ∧ KeepC w (w1.setCell ⟨bd, 1, none⟩ v') ∧ Below B w (w1.setCell ⟨bd, 1, none⟩ v') := by
  have hlt : bd < w.heap.size := (Array.getElem?_eq_some_iff.1 h1).1
  have hk0 : KeepC w (w.alloc (.cells #[.int .u8 (c.toNat : Int)] 5)) := KeepC.below ((Below.refl _ w).alloc (Nat.le_refl _) _)
  have hrow : ∀ g, vb.ownBlock = some g → ∃ c', (w.alloc (.cells #[.int .u8 (c.toNat : Int)] 5)).heap[g]? = some (.cells c' 5) := own5 (h5.alloc _)
  have hne : some bd ≠ vb.ownBlock := by
    intro e
    obtain ⟨c', hc'⟩ := hrow bd e.symm
    rw [Lib.alloc_old _ _ _ hlt, h1] at hc'
    have h := Option.some.inj hc'
    injection h with _ h2
    exact absurd h2 (by decide)
  have hb1 : w1.heap[bd]? = some (.cells #[f0, vb, vf, .bool x.done] 148) := by
    rw [hg.block bd (by simp; omega) hne, Lib.alloc_old _ _ _ hlt]; exact h1
  have hsz : w.heap.size ≤ w1.heap.size := Nat.le_trans (by simp) hg.size
  have hrow2 : ∀ g, vb.ownBlock = some g → B ≤ g ∧ g < w.heap.size := h5.lt
  refine ⟨⟨v', vf, w1.heap.size, ?_, h2, by omega, ?_, ?_, ?_, ?_, fun _ => h9⟩, (hk0.trans (KeepC.grown hg hrow)).trans (KeepC.set hb1 _ _), ?_⟩
  · rw [heap_set_at hb1]; rfl
  · simp
  · have := own_set ho hb1 1 v'
    rw [show u8s x.body ++ [.int .u8 (c.toNat : Int)] = u8s (x.body ++ [c]) from (u8s_snoc _ _).symm] at this
    simpa using this
  · rw [h9]
    show World.ownsRow _ _ _ _ _ x.fields.length (u8s x.fields)
    rw [h8]
    exact World.ownsRow_nil _ _ _ _
  · exact fun g hg' => (ho.lt g hg').2
  · exact ((((Below.refl B w).alloc (by omega) _).grown hg (by simp; omega) (fun b hb => (hrow2 b hb).1))).setCell (by simpa using h2) _
theorem dec_cell {w : World} {bd : Nat} {a b c d : Value} {t : TypeId} (h : w.heap[bd]? = some (.cells #[a, b, c, d] t)) : w.cell? ⟨bd, 0, none⟩ = some a ∧ w.cell? ⟨bd, 1, none⟩ = some b ∧ w.cell? ⟨bd, 2, none⟩ = some c ∧ w.cell? ⟨bd, 3, none⟩ = some d := by
  simp [World.cell?, h]
set_option maxHeartbeats 4000000 in
set_option maxRecDepth 100000 in
theorem bytes1_at (B : Nat) (x : Ds) (c : UInt8) (l a bd : Nat) (f0 : Value) (w : World) (hd : Dec B w bd f0 x) (hf : x.fields = []) (hl : 0 < l) (hlen : x.body.length + l ≤ 5000) (ha : w.heap[a]? = some (.cells #[.int .i64 (l : Int)] 3)) :
    Calls Tryz.prog 188 #[ptr bd, .int .u8 (c.toNat : Int), ptr a] w fun e w' => ∃ f, e = .returned (.tuple #[f, .int .i64 0]) ∧ Dec B w' bd f0 { x with body := x.body ++ [c] } ∧ StepV w' f (if 1 < l then .byt (l - 1) else .crlf) ∧ KeepC w w' ∧ Below B w w' := by
  obtain ⟨i0, hi, hz0, hz1, hz2⟩ := info_parts info5
  obtain ⟨vb, vf, Bf, h1, h2, h3, h4, h5, h6, h7, h8⟩ := hd
  have hbd : bd < w.heap.size := (Array.getElem?_eq_some_iff.1 h1).1
  obtain ⟨_, hc1, _, _⟩ := dec_cell h1
  have H1 : Hid (w.heap[bd]? = some (.cells #[f0, vb, vf, .bool x.done] 148)) := h1
  have H5 : Hid (w.ownsRow B 5 1 vb x.body.length (u8s x.body)) := h5
  have HA : Hid (w.heap[a]? = some (.cells #[.int .i64 (l : Int)] 3)) := ha
  have HF : Hid (x.fields = []) := hf
  have H9 : Hid (vf = .slice none 0 0) := h8 hf
  clear h1 h5 h6 h7 h8 ha hf h3 h4
  go_enter Tryz.func188, Tryz.ntmps188
  go_wp2_with (at_builtin; refine wpList_append_own _ rfl _ _ 94 rfl B 5 i0 (.int .u8 0) 1 1 Tryz.underlying94 hi hz0 hz1 hz2 rfl (by decide) _ _ _ rfl (H5.out.alloc _) ⟨w.heap.size, 0, none⟩ 1 1 [.int .u8 (c.toNat : Int)] rfl rfl ?c1 ?c2 ?c3 ?c4 ?c5 ?_)
  case c1 => exact one_cell _ _ _
  case c2 => intro z hx; simp at hx; subst hx; rfl
  case c3 => unfold maxLen; omega
  case c4 => omega
  case c5 => simp; omega
  · intro v' w1 hown hg _
    obtain ⟨D1, D2, D3⟩ := Dec.body H1.out h2 H5.out HF.out H9.out hown hg
    have hb1 : w1.heap[bd]? = some (.cells #[f0, vb, vf, .bool x.done] 148) := dec_grown H1.out H5.out hg
    obtain ⟨_, hc2, _, _⟩ := dec_cell hb1
    have hfr : w1.frozen? ⟨bd, 1, none⟩ = false := Lib.frozen_of_heap hb1 1
    have hca := cellH (D2 _ _ _ (.inl rfl) HA.out)
    obtain ⟨ad', cap', hv', _⟩ := own_slice hown
    subst hv'
    have hsz1 : B ≤ (w1.setCell ⟨bd, 1, none⟩ (.slice ad' (x.body.length + 1) cap')).heap.size := by
      have := hg.size; simp at this ⊢; omega
    clear hown hg hb1
    by_cases hl1 : 1 < (l : Int)
    · go_wp2_with fail
      refine (mkBytes _ (l - 1) (by go_num) _).mono ?_
      rintro e w2 ⟨f, rfl, hst, hbl⟩
      go_wp2_with fail
      go_ret2
      exact ⟨f, rfl, D1.below hbl, hst, D2.trans (KeepC.below hbl), D3.trans (hbl.mono hsz1)⟩
    · go_wp2_with fail
      refine (mkNumber _ _ 0 0 (by go_num) (by go_num) _).mono ?_
      rintro e w2 ⟨f, rfl, ⟨q, r, rfl, hq, hr⟩, hbl⟩
      go_wp2_with fail
      refine (mkText _ _ _ _ _).mono ?_
      rintro e w3 ⟨q', r', rfl, hq', hr', hbl'⟩
      go_wp2_with fail
      go_ret2
      have hs2 := hbl.size
      refine ⟨_, rfl, (D1.below hbl).below hbl', ?_, (D2.trans (KeepC.below hbl)).trans (KeepC.below hbl'), (D3.trans (hbl.mono hsz1)).trans (hbl'.mono (by omega))⟩
      exact ⟨q', r', q, r, rfl, hq', hr', KeepC.below hbl' _ _ _ (.inl rfl) hq, KeepC.below hbl' _ _ _ (.inl rfl) hr⟩
end Go.Proofs.YtipfjpihciiikaaGreatDoor

/-
  What the function that takeFields of package body hands back does to a Decoder: the byte comes behind the fields, and where a line ends, or is too long, they are parsed.
-/
namespace Go.Proofs.YtipfjpihciiikaaGreatDoor
open Go.RowKit

/-- What append and the store into the Decoder leave: the fields' row. -/
theorem Dec.flds {B Bf : Nat} {w w1 : World} {bd : Nat} {f0 vb vf v' : Value} {x : Ds} {c : UInt8} (h1 : w.heap[bd]? = some (.cells #[f0, vb, vf, .bool x.done] 148)) (h2 : B ≤ bd) (h3 : B ≤ Bf) (h4 : Bf ≤ w.heap.size)
    (h5 : w.ownsRow B 5 1 vb x.body.length (u8s x.body)) (h6 : w.ownsRow Bf 5 1 vf x.fields.length (u8s x.fields)) (h7 : ∀ g, vb.ownBlock = some g → g < Bf)
    (ho : w1.ownsRow Bf 5 1 v' (x.fields.length + 1) (u8s x.fields ++ [.int .u8 (c.toNat : Int)])) (hg : (w.alloc (.cells #[.int .u8 (c.toNat : Int)] 5)).grownBy w1 vf.ownBlock) :
    Dec B (w1.setCell ⟨bd, 2, none⟩ v') bd f0 { x with fields := x.fields ++ [c] } ∧ KeepC w (w1.setCell ⟨bd, 2, none⟩ v') ∧ Below B w (w1.setCell ⟨bd, 2, none⟩ v') := by
  have hlt : bd < w.heap.size := (Array.getElem?_eq_some_iff.1 h1).1
  have hk0 : KeepC w (w.alloc (.cells #[.int .u8 (c.toNat : Int)] 5)) := KeepC.below ((Below.refl _ w).alloc (Nat.le_refl _) _)
  have hrow : ∀ g, vf.ownBlock = some g → ∃ c', (w.alloc (.cells #[.int .u8 (c.toNat : Int)] 5)).heap[g]? = some (.cells c' 5) := own5 (h6.alloc _)
  have hb1 := dec_grown h1 h6 hg
  have hsz : w.heap.size ≤ w1.heap.size := Nat.le_trans (by simp) hg.size
  have hrow2 : ∀ g, vf.ownBlock = some g → Bf ≤ g ∧ g < w.heap.size := h6.lt
  have hbody : w1.ownsRow B 5 1 vb x.body.length (u8s x.body) := by
    refine ⟨h5.1, ?_⟩
    rcases h5.2 with h0 | ⟨g, cap, cur, hv, hB, hgg, h3'⟩
    · exact .inl h0
    · refine .inr ⟨g, cap, cur, hv, hB, ?_, h3'⟩
      have hglt : g < w.heap.size := (Array.getElem?_eq_some_iff.1 hgg).1
      rw [hg.block g (by simp; omega) ?_, Lib.alloc_old _ _ _ hglt]
      · exact hgg
      · intro e
        have := h7 g (by rw [hv]; rfl)
        have := (hrow2 g e.symm).1
        omega
  refine ⟨⟨vb, v', Bf, ?_, h2, h3, by simp; omega, own_set hbody hb1 2 v', ?_, h7, fun h => by simp at h⟩, (hk0.trans (KeepC.grown hg hrow)).trans (KeepC.set hb1 _ _), ?_⟩
  · rw [heap_set_at hb1]; rfl
  · have := own_set ho hb1 2 v'
    rw [show u8s x.fields ++ [.int .u8 (c.toNat : Int)] = u8s (x.fields ++ [c]) from (u8s_snoc _ _).symm] at this
    simpa using this
  · exact ((((Below.refl B w).alloc (by omega) _).grown hg (by simp; omega) (fun b hb => Nat.le_trans h3 (hrow2 b hb).1))).setCell (by simpa using h2) _
/-- What the two stores at the end leave. -/
theorem Dec.fin {B : Nat} {w : World} {bd : Nat} {f0 : Value} {x : Ds} (h : Dec B w bd f0 x) :
    Dec B ((w.setCell ⟨bd, 3, none⟩ (.bool true)).setCell ⟨bd, 2, none⟩ (.slice none 0 0)) bd f0 { x with fields := [], done := true } ∧ Below B w ((w.setCell ⟨bd, 3, none⟩ (.bool true)).setCell ⟨bd, 2, none⟩ (.slice none 0 0)) := by
  obtain ⟨vb, vf, Bf, h1, h2, h3, h4, h5, h6, h7, h8⟩ := h
  have hb1 := heap_set_at h1 3 (.bool true)
  have hb2 := heap_set_at hb1 2 (.slice none 0 0)
  refine ⟨⟨vb, .slice none 0 0, w.heap.size, ?_, h2, by omega, by simp, own_set (own_set h5 h1 _ _) hb1 _ _, World.ownsRow_nil _ _ _ _, fun g hg => (h5.lt g hg).2, fun _ => rfl⟩, ?_⟩
  · rw [hb2]; rfl
  · exact ((Below.refl B w).setCell (by simpa using h2) _).setCell (by simpa using h2) _
theorem bytesOf_u8 (l : List UInt8) : Lib.bytesOf (l.map fun b => (b.toNat : Int)) = l := by
  simp only [Lib.bytesOf, List.map_map]
  conv => rhs; rw [← List.map_id l]
  apply List.map_congr_left
  intro a _
  simp
theorem u8s_at (l : List UInt8) (j : Nat) : (u8s l)[j]? = (l[j]?).map fun c => .int .u8 (c.toNat : Int) := by simp [u8s]
theorem suffix_at (l : List UInt8) (b : Bool) (hb : ended l = b) (g n cap q : Nat) (w : World) (hn : n = l.length) (hnc : n ≤ cap) (hlen : l.length ≤ 40000)
    (hc : ∀ j, j < n → w.cell? ⟨g, j, none⟩ = (u8s l)[j]?) (hq0 : w.cell? ⟨q, 0, none⟩ = some (.int .u8 13)) (hq1 : w.cell? ⟨q, 1, none⟩ = some (.int .u8 10)) :
    Calls Tryz.prog 187 #[.slice (some ⟨g, 0, none⟩) n cap, .slice (some ⟨q, 0, none⟩) 2 2] w fun e w' => e = .returned (.bool b) ∧ w' = w := by
  refine (Tryz.bytes_HasSuffix g 0 n cap q 0 2 2 (l.map fun b => (b.toNat : Int)) [13, 10] w (by simp [hn]) rfl hnc (by omega) (fun i hi => ?_) (fun i hi => ?_)).mono ?_
  · rw [Nat.zero_add, hc i hi, u8s_at, List.getElem?_eq_getElem (by omega)]
    simp [List.getD_eq_getElem?_getD, List.getElem?_eq_getElem (show i < l.length by omega)]
  · match i, hi with
    | 0, _ => exact hq0
    | 1, _ => exact hq1
  · rintro e w' ⟨rfl, rfl⟩
    refine ⟨ret_bool ?_, rfl⟩
    rw [bytesOf_u8, ← hb]
    unfold ended
    rw [show Lib.bytesOf [13, 10] = [13, 10] by decide]
    cases Lib.hasSuffix l [13, 10] <;> rfl

/-- What one byte does: the error, or what may come next. -/
def StQ (B : Nat) (w w' : World) (bd : Nat) (f0 : Value) (r : Int × Ds) (e : Ending) : Prop :=
  Below B w w' ∧ (r.1 ≠ 0 → e = .returned (.tuple #[.nilFunc, .int .i64 r.1]) ∧ ∃ q s t, w'.heap[bd]? = some (.cells #[f0, q, s, t] 148)) ∧
    (r.1 = 0 → ∃ f, e = .returned (.tuple #[f, .int .i64 0]) ∧ Dec B w' bd f0 r.2 ∧ (r.2.done = true → f = .nilFunc) ∧ (r.2.done = false → StepV w' f r.2.st))
theorem Dec.block {B : Nat} {w : World} {bd : Nat} {f0 : Value} {x : Ds} (h : Dec B w bd f0 x) : ∃ q s t, w.heap[bd]? = some (.cells #[f0, q, s, t] 148) := by
  obtain ⟨vb, vf, Bf, h1, _⟩ := h
  exact ⟨_, _, _, h1⟩
set_option maxHeartbeats 8000000 in
set_option maxRecDepth 100000 in
theorem fields1_at (B : Nat) (x : Ds) (c : UInt8) (k a bd : Nat) (f0 : Value) (m : Int) (w : World) (hd : Dec B w bd f0 x) (hst : x.st = .fld k) (hdn : x.done = false) (hinv : FInv x.fields k) (ha : w.heap[a]? = some (.cells #[.int .i64 (k : Int)] 3))
    (hm : w.cell? ⟨0, 0, none⟩ = some (.int .i64 m)) (hM : 0 < B) :
    Calls Tryz.prog 186 #[ptr bd, .int .u8 (c.toNat : Int), ptr a] w fun e w' => StQ B w w' bd f0 (stepD x c) e := by
  obtain ⟨i0, hi, hz0, hz1, hz2⟩ := info_parts info5
  obtain ⟨vb, vf, Bf, h1, h2, h3, h4, h5, h6, h7, h8⟩ := hd
  have hbd : bd < w.heap.size := (Array.getElem?_eq_some_iff.1 h1).1
  obtain ⟨_, _, hc1, _⟩ := dec_cell h1
  obtain ⟨hlen, hk⟩ := finv_len hinv
  obtain ⟨l, hl⟩ : ∃ l, l = x.fields ++ [c] := ⟨_, rfl⟩
  have hll : l.length = x.fields.length + 1 := by rw [hl]; simp
  obtain ⟨b, hb⟩ : ∃ b, ended l = b := ⟨_, rfl⟩
  obtain ⟨z, hz⟩ : ∃ z, (parS l []).2.2 = z := ⟨_, rfl⟩
  have HS : Hid (stepD x c = if b = false ∧ k < 1100 then (0, { x with fields := l, st := .fld (k + 1) }) else if z = 0 then (0, { x with fields := [], done := true }) else if z ≠ 8 then (z, x) else (0, { x with fields := l, st := if b = true then .fld 0 else .fld (k + 1) })) := by
    show _ = _
    unfold stepD; rw [hst]; simp only; rw [← hl, hb, hz]
  have H1 : Hid (w.heap[bd]? = some (.cells #[f0, vb, vf, .bool x.done] 148)) := h1
  have H5 : Hid (w.ownsRow B 5 1 vb x.body.length (u8s x.body)) := h5
  have H6 : Hid (w.ownsRow Bf 5 1 vf x.fields.length (u8s x.fields)) := h6
  have H7 : Hid (∀ g, vb.ownBlock = some g → g < Bf) := h7
  have HA : Hid (w.heap[a]? = some (.cells #[.int .i64 (k : Int)] 3)) := ha
  have HL : Hid (l = x.fields ++ [c]) := hl
  have HB : Hid (ended l = b) := hb
  have HZ : Hid ((parS l []).2.2 = z) := hz
  have HM : Hid (w.cell? ⟨0, 0, none⟩ = some (.int .i64 m)) := hm
  have HDN : Hid (x.done = false) := hdn
  clear h1 h5 h6 h7 h8 ha hl hb hz hm hinv hst hdn
  go_enter Tryz.func186, Tryz.ntmps186
  go_wp2_with (at_builtin; refine wpList_append_own _ rfl _ _ 94 rfl Bf 5 i0 (.int .u8 0) 1 1 Tryz.underlying94 hi hz0 hz1 hz2 rfl (by decide) _ _ _ rfl (H6.out.alloc _) ⟨w.heap.size, 0, none⟩ 1 1 [.int .u8 (c.toNat : Int)] rfl rfl ?c1 ?c2 ?c3 ?c4 ?c5 ?_)
  case c1 => exact one_cell _ _ _
  case c2 => intro z hx; simp at hx; subst hx; rfl
  case c3 => unfold maxLen; omega
  case c4 => omega
  case c5 => simp; omega
  · intro v' w1 hown hg _
    obtain ⟨D1, D2, D3⟩ := Dec.flds H1.out h2 h3 h4 H5.out H6.out H7.out hown hg
    have hb1 : w1.heap[bd]? = some (.cells #[f0, vb, vf, .bool x.done] 148) := dec_grown H1.out H6.out hg
    obtain ⟨_, _, hc2, _⟩ := dec_cell hb1
    have hfr : w1.frozen? ⟨bd, 2, none⟩ = false := Lib.frozen_of_heap hb1 2
    have hsl0 := own_slice hown
    obtain ⟨ad', cap', hv', _, hcap, hcells⟩ := hsl0
    obtain ⟨g', rfl, _, _, _⟩ := hcells (by omega)
    subst hv'
    have O3 := fun o => (own_set hown hb1 2 (.slice (some ⟨g', 0, none⟩) (x.fields.length + 1) cap')).alloc o
    have HO : Hid (∀ o, ((w1.setCell ⟨bd, 2, none⟩ (.slice (some ⟨g', 0, none⟩) (x.fields.length + 1) cap')).alloc o).ownsRow Bf 5 1 (.slice (some ⟨g', 0, none⟩) (x.fields.length + 1) cap') (x.fields.length + 1) (u8s x.fields ++ [.int .u8 (c.toNat : Int)])) := O3
    have kc : (convert 94 94 (.slice (some ⟨w1.heap.size, 0, none⟩) 2 2)).run Tryz.prog ((w1.setCell ⟨bd, 2, none⟩ (.slice (some ⟨g', 0, none⟩) (x.fields.length + 1) cap')).alloc (.cells #[.int .u8 13, .int .u8 10] 5)) = .ok (.slice (some ⟨w1.heap.size, 0, none⟩) 2 2) ((w1.setCell ⟨bd, 2, none⟩ (.slice (some ⟨g', 0, none⟩) (x.fields.length + 1) cap')).alloc (.cells #[.int .u8 13, .int .u8 10] 5 (2, 3))) := by
      have h := Lib.run_convert_bytes_const (P := Tryz.prog) (w1.setCell ⟨bd, 2, none⟩ (.slice (some ⟨g', 0, none⟩) (x.fields.length + 1) cap')) 94 5 #[.int .u8 13, .int .u8 10] 2 2 Tryz.underlying94 Tryz.underlying5
      rw [World.size_setCell] at h
      exact h
    have hq : ∀ j, ((w1.setCell ⟨bd, 2, none⟩ (.slice (some ⟨g', 0, none⟩) (x.fields.length + 1) cap')).alloc (.cells #[.int .u8 13, .int .u8 10] 5 (2, 3))).cell? ⟨w1.heap.size, j, none⟩ = #[.int .u8 13, .int .u8 10][j]? := by
      intro j
      have h := World.cell?_alloc_mark (w1.setCell ⟨bd, 2, none⟩ (.slice (some ⟨g', 0, none⟩) (x.fields.length + 1) cap')) #[.int .u8 13, .int .u8 10] 5 (2, 3) j
      rw [World.size_setCell] at h
      exact h
    have HQ : Hid (∀ j, ((w1.setCell ⟨bd, 2, none⟩ (.slice (some ⟨g', 0, none⟩) (x.fields.length + 1) cap')).alloc (.cells #[.int .u8 13, .int .u8 10] 5 (2, 3))).cell? ⟨w1.heap.size, j, none⟩ = #[.int .u8 13, .int .u8 10][j]?) := hq
    clear hown hg hb1 hcells O3 hq
    go_wp2_with fail
    refine (suffix_at l b HB.out g' _ cap' _ _ hll.symm (by omega) (by omega) ?_ ?_ ?_).mono ?_
    · intro j hj
      have h := own_slice (HO.out (.cells #[.int .u8 13, .int .u8 10] 5 (2, 3)))
      obtain ⟨ad, cap, e1, _, _, e2⟩ := h
      obtain ⟨g2, e3, _, _, e4⟩ := e2 (by omega)
      injection e1 with e5 _ _
      rw [e3] at e5
      have e6 := Option.some.inj e5
      injection e6 with e7
      subst e7
      have e8 := e4 j hj
      rw [HL.out, u8s_snoc]
      exact e8
    · exact HQ.out 0
    · exact HQ.out 1
    · rintro e w3 ⟨rfl, hw3⟩
      have hB3 : Below B w w3 := by rw [hw3]; exact D3.alloc (by have := D3.size; omega) _
      have hba : Below (w1.setCell ⟨bd, 2, none⟩ (.slice (some ⟨g', 0, none⟩) (x.fields.length + 1) cap')).heap.size (w1.setCell ⟨bd, 2, none⟩ (.slice (some ⟨g', 0, none⟩) (x.fields.length + 1) cap')) w3 := by rw [hw3]; exact (Below.refl _ _).alloc (Nat.le_refl _) _
      have hD := D1.below hba
      rw [← HL.out] at hD
      have hca := cellH (KeepC.below hba _ _ _ (.inl rfl) (D2 _ _ _ (.inl rfl) HA.out))
      have hm3 : Hid (w3.cell? ⟨0, 0, none⟩ = some (.int .i64 m)) := (hB3.cell (p := ⟨0, 0, none⟩) hM).trans HM.out
      clear hw3 hba kc HQ D1 D2 D3 hc1 hc2 hfr HO HA H1 H5 H6 H7 HM
      have hs3 := hB3.size
      have HD3 : Hid (Dec B w3 bd f0 { x with fields := l }) := hD
      have HB3 : Hid (Below B w w3) := hB3
      clear hB3
      by_cases hA : b = false ∧ k < 1100
      · have HR : Hid (stepD x c = (0, { x with fields := l, st := .fld (k + 1) })) := by show _ = _; rw [HS.out, if_pos hA]
        obtain ⟨rfl, hk1⟩ := hA
        have hki : (k : Int) < 1100 := by omega
        clear hD
        go_wp2_with fail
        refine (mkFields _ (k + 1) (by go_num) _).mono ?_
        rintro e w4 ⟨f, rfl, hst, hbl⟩
        go_wp2_with fail
        go_ret2
        rw [HR.out]
        exact ⟨HB3.out.trans (hbl.mono (by omega)), fun h => absurd rfl h, fun _ => ⟨f, rfl, HD3.out.below hbl, fun h => absurd (h.symm.trans HDN.out) (by simp), fun _ => hst⟩⟩
      · obtain ⟨vb', vf', Bf', g1, g2, g3, g4, g5, g6, g7, g8⟩ := hD
        obtain ⟨ad, cap, hv, _, _, hcells⟩ := own_slice g6
        obtain ⟨g, rfl, _, _, hcl⟩ := hcells (by show 0 < l.length; omega)
        subst hv
        obtain ⟨_, _, hc3, _⟩ := dec_cell g1
        have hcv := run_convert_bytes_back (P := Tryz.prog) w3 94 9 5 ⟨g, 0, none⟩ cap l Tryz.underlying94 Tryz.underlying5 Tryz.underlying9 (fun j hj => by
          have h := hcl j hj
          rw [u8s_at, List.getElem?_eq_getElem hj] at h
          cases j <;> simpa [Addr.add] using h)
        rw [hll] at hcv
        have HR0 : Hid (stepD x c = if z = 0 then (0, { x with fields := [], done := true }) else if z ≠ 8 then (z, x) else (0, { x with fields := l, st := if b = true then .fld 0 else .fld (k + 1) })) := by show _ = _; rw [HS.out, if_neg hA]
        have HPZ : Hid (∀ w, w.cell? ⟨0, 0, none⟩ = some (.int .i64 m) → Calls Tryz.prog 50 #[.string ⟨l.toArray⟩] w fun e w' => ∃ v q, e = .returned (.tuple #[v, .int .i64 q, .int .i64 z]) ∧ Below w.heap.size w w') := by
          intro w hm
          refine (parse_any ⟨l.toArray⟩ m w hm (by rw [← size_list]; show l.length < _; omega)).mono ?_
          rintro e w' ⟨v, rfl, _, hb⟩
          exact ⟨v, parN l, by rw [← HZ.out], hb⟩
        clear HS g1 g2 g3 g4 g5 g6 g7 g8 hcells hcl
        have hbk : b = true ∨ (b = false ∧ ¬ (k : Int) < 1100) := by
          cases b
          · right; refine ⟨rfl, fun h => hA ⟨rfl, by omega⟩⟩
          · exact .inl rfl
        clear hA
        rcases hbk with rfl | ⟨rfl, hk1⟩
        all_goals
          go_wp2_with fail
          refine (HPZ.out _ hm3.out).mono ?_
          rintro e w4 ⟨v, q, rfl, hbl⟩
          have HD4 : Hid (Dec B w4 bd f0 { x with fields := l }) := HD3.out.below hbl
          have HB4 : Hid (Below B w w4) := HB3.out.trans (hbl.mono (by omega))
          have hca4 : w4.cell? ⟨a, 0, none⟩ = some (.int .i64 (k : Int)) := (hbl.cell (p := ⟨a, 0, none⟩) (cell_in hca)).trans hca
          have hs4 := hbl.size
          clear hbl hca hcv hc3
          by_cases hz0 : z = 0
          · have HR : Hid (stepD x c = (0, { x with fields := [], done := true })) := by show _ = _; rw [HR0.out, if_pos hz0]
            subst hz0
            obtain ⟨vb2, vf2, Bf2, e1, _⟩ := HD4.out
            obtain ⟨_, _, e2, e3⟩ := dec_cell e1
            have e4 : w4.frozen? ⟨bd, 3, none⟩ = false := Lib.frozen_of_heap e1 3
            have e5 := heap_set_at e1 3 (.bool true)
            have e6 : (w4.setCell ⟨bd, 3, none⟩ (.bool true)).frozen? ⟨bd, 2, none⟩ = false := Lib.frozen_of_heap e5 2
            clear e1 e5
            go_wp2_with fail
            go_ret2
            rw [HR.out]
            exact ⟨HB4.out.trans (HD4.out.fin).2, fun h => absurd rfl h, fun _ => ⟨_, rfl, (HD4.out.fin).1, fun _ => rfl, fun h => by cases h⟩⟩
          · have hz0' : (z == 0) = false := beq_eq_false_iff_ne.2 hz0
            by_cases hz8 : z = 8
            · have HR := HR0.out
              rw [if_neg hz0, if_neg (by simpa using hz8)] at HR
              have HRR : Hid _ := HR
              clear HR
              subst hz8
              go_wp2_with fail
              refine (mkFields _ _ (by go_num) _).mono ?_
              rintro e w5 ⟨f, rfl, hst, hbl⟩
              go_wp2_with fail
              go_ret2
              rw [HRR.out]
              exact ⟨HB4.out.trans (hbl.mono (by omega)), fun h => absurd rfl h, fun _ => ⟨f, rfl, HD4.out.below hbl, fun h => absurd (h.symm.trans HDN.out) (by simp), fun _ => hst⟩⟩
            · have hz8' : (z != 8) = true := by simpa using hz8
              have HR : Hid (stepD x c = (z, x)) := by show _ = _; rw [HR0.out, if_neg hz0, if_pos hz8]
              have HZ0 : Hid (z ≠ 0) := hz0
              clear hz0 hz8
              go_wp2_with fail
              go_ret2
              rw [HR.out]
              exact ⟨HB4.out, fun _ => ⟨rfl, HD4.out.block⟩, fun h => absurd h HZ0.out⟩
end Go.Proofs.YtipfjpihciiikaaGreatDoor

/-
  What one byte does to a Decoder of package body, whatever may come next.
-/
namespace Go.Proofs.YtipfjpihciiikaaGreatDoor
open Go.RowKit

theorem dec_size {B : Nat} {w : World} {bd : Nat} {f0 : Value} {x : Ds} (h : Dec B w bd f0 x) : B ≤ w.heap.size := by
  obtain ⟨_, _, Bf, _, _, h3, h4, _⟩ := h
  omega
def nxD (x : Ds) : Option St → Int × Ds
  | none => (3, x)
  | some st => (0, { x with st := st })
theorem nxD_if (x : Ds) (p : Prop) [Decidable p] (a b : Option St) : nxD x (if p then a else b) = if p then nxD x a else nxD x b := by split <;> rfl
/-- A function value that neither reads nor writes the Decoder. -/
theorem st_of_nx {B : Nat} {w w' : World} {bd : Nat} {f0 : Value} {x : Ds} {c : UInt8} {e : Ending} {r : Option St} (hd : Dec B w bd f0 x) (hdn : x.done = false) (h : Nx w w' e r)
    (hs : stepD x c = nxD x r) : StQ B w w' bd f0 (stepD x c) e := by
  obtain ⟨hb, h⟩ := h
  have hd' := hd.below hb
  cases r with
  | none =>
    rw [hs]
    exact ⟨hb.mono (dec_size hd), fun _ => ⟨h, hd'.block⟩, fun h => absurd h (by simp [nxD])⟩
  | some st =>
    obtain ⟨f, he, hst⟩ := h
    rw [hs]
    exact ⟨hb.mono (dec_size hd), fun h => absurd rfl h, fun _ => ⟨f, he, hd', fun h => absurd (h.symm.trans hdn) (by simp), fun _ => hst⟩⟩
theorem enter_fn : ∀ g, g = 162 ∨ g = 177 ∨ g = 178 ∨ g = 188 ∨ g = 191 ∨ g = 186 → ∀ args w, (callFunc g args).run Tryz.prog w = .ok (.enter g args) w := by
  rintro g (rfl | rfl | rfl | rfl | rfl | rfl)
  · exact enters_of Tryz.func162 (by kernel_rfl) rfl
  · exact enters_of Tryz.func177 (by kernel_rfl) rfl
  · exact enters_of Tryz.func178 (by kernel_rfl) rfl
  · exact enters_of Tryz.func188 (by kernel_rfl) rfl
  · exact enters_of Tryz.func191 (by kernel_rfl) rfl
  · exact enters_of Tryz.func186 (by kernel_rfl) rfl
theorem step_at (B : Nat) (x : Ds) (c : UInt8) (bd : Nat) (f : Value) (m : Int) (w : World) (hd : Dec B w bd f x) (hf : StepV w f x.st) (hi : Inv x)
    (hm : w.cell? ⟨0, 0, none⟩ = some (.int .i64 m)) (hM : 0 < B) :
    ∃ (g : Nat) (lb : Array Value), f = .func (.func g) #[] lb ∧ (∀ args w, (callFunc g args).run Tryz.prog w = .ok (.enter g args) w) ∧
      Calls Tryz.prog g (#[ptr bd, .int .u8 (c.toNat : Int)] ++ lb) w fun e w' => StQ B w w' bd f (stepD x c) e := by
  obtain ⟨h1, h2, h3⟩ := hi
  cases hst : x.st with
  | num d n =>
    rw [hst] at hf h3
    obtain ⟨_, h4, h5⟩ := h3
    obtain ⟨a, b, rfl, ha, hb⟩ := hf
    refine ⟨_, _, rfl, enter_fn _ (by simp), (number1_at d n c a b (ptr bd) w h4 (dig_lt h4 h5) (cellH ha) (cellH hb)).mono fun e w' h => st_of_nx hd h1 h ?_⟩
    unfold stepD numN; rw [hst]; simp only
    cases hv c with
    | some v => simp only; rw [nxD_if]; rfl
    | none => simp only; rw [nxD_if, nxD_if]; rfl
  | ext k n =>
    rw [hst] at hf h3
    obtain ⟨_, h4, _⟩ := h3
    obtain ⟨a, b, rfl, ha, hb⟩ := hf
    refine ⟨_, _, rfl, enter_fn _ (by simp), (extra1_at k n c a b (ptr bd) w h4 (cellH ha) (cellH hb)).mono fun e w' h => st_of_nx hd h1 h ?_⟩
    unfold stepD extN; rw [hst]; simp only
    rw [nxD_if, nxD_if]; rfl
  | endn n =>
    rw [hst] at hf h3
    obtain ⟨_, h4⟩ := h3
    obtain ⟨a, rfl, ha⟩ := hf
    obtain ⟨vb, vf, Bf, g1, g2, g3, g4, g5, g6, g7, g8⟩ := id hd
    obtain ⟨ad, cap, hv, _⟩ := own_slice g5
    obtain ⟨_, hc, _, _⟩ := dec_cell g1
    rw [hv] at hc
    refine ⟨_, _, rfl, enter_fn _ (by simp), (end1_at n c a bd x.body.length cap ad w h4 h2 (cellH ha) hc).mono fun e w' h => ?_⟩
    obtain ⟨hb, e1, e2, e3⟩ := h
    have hd' := hd.below hb
    have hs : stepD x c = if c ≠ 10 then (3, x) else if 5000 < x.body.length + n then (2, x) else if n = 0 then (0, { x with st := .fld 0 }) else (0, { x with st := .byt n }) := by unfold stepD; rw [hst]
    by_cases c1 : c ≠ 10
    · rw [hs, if_pos c1]
      exact ⟨hb.mono (dec_size hd), fun _ => ⟨e1 c1, hd'.block⟩, fun h => absurd h (by simp)⟩
    · have c10 : c = 10 := Classical.byContradiction c1
      rw [hs, if_neg c1]
      by_cases c2 : 5000 < x.body.length + n
      · rw [if_pos c2]
        exact ⟨hb.mono (dec_size hd), fun _ => ⟨e2 c10 c2, hd'.block⟩, fun h => absurd h (by simp)⟩
      · rw [if_neg c2]
        obtain ⟨f, he, hst'⟩ := e3 c10 c2
        by_cases c3 : n = 0
        · rw [if_pos c3] at hst' ⊢
          exact ⟨hb.mono (dec_size hd), fun h => absurd rfl h, fun _ => ⟨f, he, hd', fun h => absurd (h.symm.trans h1) (by simp), fun _ => hst'⟩⟩
        · rw [if_neg c3] at hst' ⊢
          exact ⟨hb.mono (dec_size hd), fun h => absurd rfl h, fun _ => ⟨f, he, hd', fun h => absurd (h.symm.trans h1) (by simp), fun _ => hst'⟩⟩
  | byt l =>
    rw [hst] at hf h3
    obtain ⟨h4, h5, h6⟩ := h3
    obtain ⟨a, rfl, ha⟩ := hf
    refine ⟨_, _, rfl, enter_fn _ (by simp), (bytes1_at B x c l a bd _ w hd h4 h5 h6 ha).mono fun e w' h => ?_⟩
    obtain ⟨f, he, hd', hs', _, hb⟩ := h
    have hs : stepD x c = (0, { x with body := x.body ++ [c], st := if 1 < l then .byt (l - 1) else .crlf }) := by unfold stepD; rw [hst]
    rw [hs]
    exact ⟨hb, fun h => absurd rfl h, fun _ => ⟨f, he, hd', fun h => absurd (h.symm.trans h1) (by simp), fun _ => hs'⟩⟩
  | crlf =>
    rw [hst] at hf
    obtain ⟨lb, rfl, hc⟩ := text1_cr c f w hf (ptr bd)
    refine ⟨_, _, rfl, enter_fn _ (by simp), hc.mono fun e w' h => st_of_nx hd h1 h ?_⟩
    unfold stepD crN; rw [hst]; simp only
    rw [nxD_if]; rfl
  | lf =>
    rw [hst] at hf
    obtain ⟨lb, rfl, hc⟩ := text1_lf c f w hf (ptr bd)
    refine ⟨_, _, rfl, enter_fn _ (by simp), hc.mono fun e w' h => st_of_nx hd h1 h ?_⟩
    unfold stepD lfN; rw [hst]; simp only
    rw [nxD_if]; rfl
  | fld k =>
    rw [hst] at hf h3
    obtain ⟨a, rfl, ha⟩ := hf
    exact ⟨_, _, rfl, enter_fn _ (by simp), fields1_at B x c k a bd _ m w hd hst h1 h3 ha hm hM⟩
end Go.Proofs.YtipfjpihciiikaaGreatDoor

/-
  Function values held against nil; no condition.
-/
namespace Go.Proofs.YtipfjpihciiikaaGreatDoor
open Go.RowKit

theorem eqIn_fn {P : Program} (w : World) (d : Nat) (t : TypeId) (ps rs : Array TypeId) (v : Bool) (fn : Fn) (fi ca : Array Value) (h : P.underlying t = some (.func ps rs v)) : (Op.equalIn (d + 1) t (.func fn fi ca) .nilFunc).run P w = .ok false w := by
  simp [Op.equalIn, run_underlying h]
theorem eqIn_nil {P : Program} (w : World) (d : Nat) (t : TypeId) (ps rs : Array TypeId) (v : Bool) (h : P.underlying t = some (.func ps rs v)) : (Op.equalIn (d + 1) t .nilFunc .nilFunc).run P w = .ok true w := by
  simp [Op.equalIn, run_underlying h]
theorem fn_nil {t : TypeId} {ps rs : Array TypeId} {v : Bool} {P : Program} (h : P.underlying t = some (.func ps rs v)) (fn : Fn) (fi ca : Array Value) (w : World) : (binOp .eql t (.func fn fi ca) .nilFunc).run P w = .ok (.bool false) w := by
  have e : (Op.equal t (.func fn fi ca) .nilFunc).run P w = .ok false w := eqIn_fn w 9999 t ps rs v fn fi ca h
  simp only [binOp]
  simp [e]
theorem nil_nil {t : TypeId} {ps rs : Array TypeId} {v : Bool} {P : Program} (h : P.underlying t = some (.func ps rs v)) (w : World) : (binOp .eql t .nilFunc .nilFunc).run P w = .ok (.bool true) w := by
  have e : (Op.equal t .nilFunc .nilFunc).run P w = .ok true w := eqIn_nil w 9999 t ps rs v h
  simp only [binOp]
  simp [e]
theorem step_fn (fn : Fn) (fi ca : Array Value) (w : World) : (binOp .eql 145 (.func fn fi ca) .nilFunc).run Tryz.prog w = .ok (.bool false) w := by
  obtain ⟨ps, rs, v, h⟩ : ∃ ps rs v, Tryz.prog.underlying 145 = some (.func ps rs v) := ⟨_, _, _, Tryz.underlying145⟩
  exact fn_nil h fn fi ca w
theorem step_nil (w : World) : (binOp .eql 145 .nilFunc .nilFunc).run Tryz.prog w = .ok (.bool true) w := by
  obtain ⟨ps, rs, v, h⟩ : ∃ ps rs v, Tryz.prog.underlying 145 = some (.func ps rs v) := ⟨_, _, _, Tryz.underlying145⟩
  exact nil_nil h w
end Go.Proofs.YtipfjpihciiikaaGreatDoor
