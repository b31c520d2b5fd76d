/-
  The walk through CondDates: it answers true and turns nothing that was there; lists and texts are no longer than the claim's first form allows, and the listed variables hold what their text lays.
-/
import Derived.Test.YtigbjhkkbgdkcaaGreatDoorMd
import Derived.Test.YtigbjhkkbgdkcaaGreatDoorRows
import Derived.Test.YtigbjhkkbgdkcaaGreatDoorShelf
import Derived.Lib.TrimByte
import Derived.Lib.IndexBytes
import Derived.Laws.Rows
import Derived.Lib.Buffer
import Derived.Laws.IdiomStrings
import Derived.Lib.ItoaLen
namespace Go.Proofs.YtigbjhkkbgdkcaaGreatDoor
open Go.RowKit

set_option maxHeartbeats 4000000 in
set_option maxRecDepth 100000 in
theorem walkCondDates (a0 : ByteArray) (a1 : Value) (l1 : List Fld) (a2 a3 : Int) (w : World) (_z0 : a0.size ≤ 140737488351232) (z1 : Fl w a1 l1) (b1 : Slim l1) (z2 : (Lit.int .i64 a2).wf = true) (z3 : (Lit.int .i64 a3).wf = true) (hm : ∃ m, w.cell? ⟨2, 0, none⟩ = some (.int .i64 m)) (ht : DTabs w) :
    Calls Tryz.prog 8 #[.string a0, a1, .int .i64 a2, .int .i64 a3] w fun e w' => e = .returned (.bool true) ∧ Below w.heap.size w w' := by
  have HT : Hid (CoT w) := ⟨ht, hm⟩
  have HF : Hid (Fl w a1 l1) := z1
  have HBK : Hid (Slim l1) := b1
  have HBP : Hid (Slim (plain4 l1)) := b1.plain
  obtain ⟨ad, cap, hv, hnc, hcm, hcx⟩ := id z1
  subst hv
  unfold maxLen at hcm
  clear hcx ht hm z1
  have Z2 : Hid ((Lit.int .i64 a2).wf = true) := z2
  have Z3 : Hid ((Lit.int .i64 a3).wf = true) := z3
  have hmt : (rdsB a0.data.toList = true ∧ (a0.toList == [71, 69, 84]) = true) ∨ (rdsB a0.data.toList = true ∧ (a0.toList == [71, 69, 84]) = false ∧ (a0.toList == [72, 69, 65, 68]) = true) ∨ (rdsB a0.data.toList = false ∧ (a0.toList == [71, 69, 84]) = false ∧ (a0.toList == [72, 69, 65, 68]) = false) := by
    rw [← ByteArray.toList_eq]
    unfold rdsB
    cases (a0.toList == [71, 69, 84]) <;> cases (a0.toList == [72, 69, 65, 68]) <;> simp
  clear b1 z2 z3
  go_enter Tryz.func8, Tryz.ntmps8
  go_wp2_with fail
  refine (rest_big a3 253402300800 (by omega) (by omega) Z3.out _).mono ?_
  rintro e w1 ⟨n, hn, rfl, rfl⟩
  go_wp2_with fail
  refine (rest_big a2 253402300800 (by omega) (by omega) Z2.out _).mono ?_
  rintro e w1 ⟨k, hk, rfl, rfl⟩
  go_wp2_with fail
  refine (dprint_at (n : Int) _ HT.out.1).mono ?_
  rintro e w2 ⟨d, f, rfl, hd, hb2⟩
  have hdt : f = 0 ∧ IsDT d.data.toList (n : Int) := by
    rcases hd with h | ⟨_, _, h⟩
    · exact h
    · omega
  obtain ⟨rfl, hdt⟩ := hdt
  have HDL : Hid (d.data.toList.length ≤ 29) := Nat.le_of_eq (dt_len hdt)
  have E1 := evr_ims a0.data.toList l1 true [] (k : Int) d.data.toList n hdt
  have E2 := evr_ius a0.data.toList l1 true [] (k : Int) d.data.toList n hdt
  have E3 := evr_ims a0.data.toList l1 true [] (-1) d.data.toList n hdt
  obtain ⟨r1, hr1⟩ : ∃ r, r = if ((true && decide ((0 : Int) ≤ (k : Int))) && (rdsB a0.data.toList && decide ((k : Int) ≤ (n : Int)))) = true then (304 : Int) else 0 := ⟨_, rfl⟩
  obtain ⟨r2, hr2⟩ : ∃ r, r = if ((true && decide ((0 : Int) ≤ (k : Int))) && decide ((n : Int) < (k : Int))) = true then (412 : Int) else 0 := ⟨_, rfl⟩
  rw [← hr1] at E1
  rw [← hr2] at E2
  have H1 : Hid (EvR a0.data.toList (plain4 l1 ++ [((⟨#[73, 102, 45, 77, 111, 100, 105, 102, 105, 101, 100, 45, 83, 105, 110, 99, 101]⟩ : ByteArray).data.toList, d.data.toList)]) true (⟨#[]⟩ : ByteArray).data.toList (k : Int) r1) := E1
  have H2 : Hid (EvR a0.data.toList (plain4 l1 ++ [((⟨#[73, 102, 45, 85, 110, 109, 111, 100, 105, 102, 105, 101, 100, 45, 83, 105, 110, 99, 101]⟩ : ByteArray).data.toList, d.data.toList)]) true (⟨#[]⟩ : ByteArray).data.toList (k : Int) r2) := E2
  have H3 : Hid (EvR a0.data.toList (plain4 l1 ++ [((⟨#[73, 102, 45, 77, 111, 100, 105, 102, 105, 101, 100, 45, 83, 105, 110, 99, 101]⟩ : ByteArray).data.toList, d.data.toList)]) true (⟨#[]⟩ : ByteArray).data.toList (-1) 0) := E3
  have h0k : decide ((0 : Int) ≤ (k : Int)) = true := decide_eq_true (by omega)
  rw [h0k] at hr1 hr2
  have hcs : ((k : Int) ≤ (n : Int) ∧ r2 = 0 ∧ ((r1 = 304 ∧ (a0.toList == [71, 69, 84]) = true) ∨ (r1 = 304 ∧ (a0.toList == [71, 69, 84]) = false ∧ (a0.toList == [72, 69, 65, 68]) = true) ∨ (r1 = 0 ∧ (a0.toList == [71, 69, 84]) = false ∧ (a0.toList == [72, 69, 65, 68]) = false))) ∨
      (¬ (k : Int) ≤ (n : Int) ∧ r2 = 412 ∧ r1 = 0 ∧ ((a0.toList == [71, 69, 84]) = true ∨ ((a0.toList == [71, 69, 84]) = false ∧ (a0.toList == [72, 69, 65, 68]) = true) ∨ ((a0.toList == [71, 69, 84]) = false ∧ (a0.toList == [72, 69, 65, 68]) = false))) := by
    rw [hr1, hr2]
    by_cases h : (k : Int) ≤ (n : Int)
    · left
      rw [decide_eq_true h, decide_eq_false (show ¬ (n : Int) < (k : Int) by omega)]
      refine ⟨h, rfl, ?_⟩
      rcases hmt with ⟨h, h3⟩ | ⟨h, h3, h4⟩ | ⟨h, h3, h4⟩
      · rw [h]; exact .inl ⟨rfl, h3⟩
      · rw [h]; exact .inr (.inl ⟨rfl, h3, h4⟩)
      · rw [h]; exact .inr (.inr ⟨rfl, h3, h4⟩)
    · right
      rw [decide_eq_false h, decide_eq_true (show (n : Int) < (k : Int) by omega)]
      refine ⟨h, rfl, by simp, ?_⟩
      rcases hmt with ⟨h, h3⟩ | ⟨h, h3, h4⟩ | ⟨h, h3, h4⟩
      · exact .inl h3
      · exact .inr (.inl ⟨h3, h4⟩)
      · exact .inr (.inr ⟨h3, h4⟩)
  have HB2 : Hid (Below w1.heap.size w1 w2) := hb2
  clear hd hdt E1 E2 E3 hr1 hr2 hmt hb2 h0k Z2 Z3
  go_wp2_with fail
  refine (plainly_at _ l1 _ (HF.out.below HB2.out) HBK.out.wide).mono ?_
  rintro e w4 ⟨v4, rfl, ho4, hb4⟩
  have HO : Hid (Own1 w4 v4 (plain4 l1)) := ho4
  have HB4 : Hid (Below w1.heap.size w1 w4) := HB2.out.trans (hb4.mono HB2.out.size)
  clear ho4 hb4
  rcases hcs with ⟨hle, rfl, ⟨rfl, h3⟩ | ⟨rfl, h3, h4⟩ | ⟨rfl, h3, h4⟩⟩ | ⟨hle, rfl, rfl, h3 | ⟨h3, h4⟩ | ⟨h3, h4⟩⟩
  all_goals
    go_wp2_with fail
    refine (with_at v4 (plain4 l1) ⟨#[73, 102, 45, 77, 111, 100, 105, 102, 105, 101, 100, 45, 83, 105, 110, 99, 101]⟩ d _ HO.out (by have := HBP.out.2; omega)).mono ?_
    rintro e w5 ⟨v5, rfl, ho5, hb5⟩
    have HO5 : Hid (Own1 w5 v5 _) := ho5
    have HOP5 : Hid (Own1 w5 v4 (plain4 l1)) := HO.out.below hb5
    have HB5 : Hid (Below w1.heap.size w1 w5) := HB4.out.trans (hb5.mono HB4.out.size)
    clear ho5 hb5 HO
    go_wp2_with fail
    refine (eval_at a0 v5 _ true ⟨#[]⟩ (k : Int) _ H1.out _ HO5.out.1 (evsz_one HBK.out _ _ (by decide) (by have := HDL.out; omega)) (by decide) (HT.out.below HB5.out)).mono ?_
    rintro e w6 ⟨rfl, hb6⟩
    have HO : Hid (Own1 w6 v4 (plain4 l1)) := HOP5.out.below hb6
    have HB6 : Hid (Below w1.heap.size w1 w6) := HB5.out.trans (hb6.mono HB5.out.size)
    clear hb6 HO5 HOP5
    go_wp2_with fail
    refine (with_at v4 (plain4 l1) ⟨#[73, 102, 45, 85, 110, 109, 111, 100, 105, 102, 105, 101, 100, 45, 83, 105, 110, 99, 101]⟩ d _ HO.out (by have := HBP.out.2; omega)).mono ?_
    rintro e w7 ⟨v7, rfl, ho7, hb7⟩
    have HO7 : Hid (Own1 w7 v7 _) := ho7
    have HOP7 : Hid (Own1 w7 v4 (plain4 l1)) := HO.out.below hb7
    have HB7 : Hid (Below w1.heap.size w1 w7) := HB6.out.trans (hb7.mono HB6.out.size)
    clear ho7 hb7 HO
    go_wp2_with fail
    refine (eval_at a0 v7 _ true ⟨#[]⟩ (k : Int) _ H2.out _ HO7.out.1 (evsz_one HBK.out _ _ (by decide) (by have := HDL.out; omega)) (by decide) (HT.out.below HB7.out)).mono ?_
    rintro e w8 ⟨rfl, hb8⟩
    have HO : Hid (Own1 w8 v4 (plain4 l1)) := HOP7.out.below hb8
    have HB8 : Hid (Below w1.heap.size w1 w8) := HB7.out.trans (hb8.mono HB7.out.size)
    clear hb8 HO7 HOP7
    go_wp2_with fail
    refine (with_at v4 (plain4 l1) ⟨#[73, 102, 45, 77, 111, 100, 105, 102, 105, 101, 100, 45, 83, 105, 110, 99, 101]⟩ d _ HO.out (by have := HBP.out.2; omega)).mono ?_
    rintro e w9 ⟨v9, rfl, ho9, hb9⟩
    have HO9 : Hid (Own1 w9 v9 _) := ho9
    have HOP9 : Hid (Own1 w9 v4 (plain4 l1)) := HO.out.below hb9
    have HB9 : Hid (Below w1.heap.size w1 w9) := HB8.out.trans (hb9.mono HB8.out.size)
    clear ho9 hb9 HO
    go_wp2_with fail
    refine (eval_at a0 v9 _ true ⟨#[]⟩ (-1) 0 H3.out _ HO9.out.1 (evsz_one HBK.out _ _ (by decide) (by have := HDL.out; omega)) (by decide) (HT.out.below HB9.out)).mono ?_
    rintro e w10 ⟨rfl, hb10⟩
    have HO : Hid (Own1 w10 v4 (plain4 l1)) := HOP9.out.below hb10
    have HB10 : Hid (Below w1.heap.size w1 w10) := HB9.out.trans (hb10.mono HB9.out.size)
    clear hb10 HO9 HOP9
    go_wp2_with fail
    go_ret
    exact ⟨by first | rfl | (simp; done) | (simp; omega), HB10.out⟩
end Go.Proofs.YtigbjhkkbgdkcaaGreatDoor

/-
  The walk through CondNothing: it answers true and turns nothing that was there; what comes in is of bulk at most 1048576, and the listed variables hold what their text lays.
-/
namespace Go.Proofs.YtigbjhkkbgdkcaaGreatDoor
open Go.RowKit

set_option maxHeartbeats 4000000 in
set_option maxRecDepth 100000 in
theorem walkCondNothing (a0 : ByteArray) (a1 : Value) (l1 : List Fld) (a2 : Bool) (a3 : ByteArray) (a4 : Int) (w : World) (_z0 : a0.size ≤ 1048576) (z1 : Fl w a1 l1) (b1 : bulkF l1 ≤ 1048576) (z3 : a3.size ≤ 1048576) (_z4 : (Lit.int .i64 a4).wf = true) (hm : ∃ m, w.cell? ⟨2, 0, none⟩ = some (.int .i64 m)) (ht : DTabs w) :
    Calls Tryz.prog 4 #[.string a0, a1, .bool a2, .string a3, .int .i64 a4] w fun e w' => e = .returned (.bool true) ∧ Below w.heap.size w w' := by
  have HT : Hid (CoT w) := ⟨ht, hm⟩
  have HF : Hid (Fl w a1 l1) := z1
  have HBK : Hid (bulkF l1 ≤ 1048576) := b1
  have hpb := bulk_plain l1
  obtain ⟨ad, cap, hv, hnc, hcm, hcx⟩ := id z1
  subst hv
  unfold maxLen at hcm
  clear hcx ht hm z1
  obtain ⟨r, hr⟩ := EvR.ex a0.data.toList l1 a2 a3.data.toList a4
  have HR : Hid (EvR a0.data.toList l1 a2 a3.data.toList a4 r) := hr
  have hrc := hr.range
  have hmt : rdsB a0.data.toList = true → (a0.toList == [71, 69, 84]) = true ∨ ((a0.toList == [71, 69, 84]) = false ∧ (a0.toList == [72, 69, 65, 68]) = true) := by
    rw [← ByteArray.toList_eq]
    unfold rdsB
    cases (a0.toList == [71, 69, 84]) <;> cases (a0.toList == [72, 69, 65, 68]) <;> simp
  have hcs : r = 0 ∨ r = 412 ∨ (r = 304 ∧ a2 = true ∧ (a0.toList == [71, 69, 84]) = true) ∨ (r = 304 ∧ a2 = true ∧ (a0.toList == [71, 69, 84]) = false ∧ (a0.toList == [72, 69, 65, 68]) = true) := by
    rcases hrc with h | h | ⟨h, h1, h2⟩
    · exact .inl h
    · exact .inr (.inl h)
    · rcases hmt h1 with h3 | ⟨h3, h4⟩
      · exact .inr (.inr (.inl ⟨h, h2, h3⟩))
      · exact .inr (.inr (.inr ⟨h, h2, h3, h4⟩))
  have HP : Hid (EvR a0.data.toList (plain4 l1) a2 a3.data.toList a4 0) := evr_plain _ _ _ _ _
  clear hr hrc hmt b1
  go_enter Tryz.func4, Tryz.ntmps4
  go_wp2_with fail
  refine (eval_at ⟨#[80, 85, 84]⟩ _ [(sIM, [42])] false ⟨#[]⟩ 0 412 evr_put _ (Fl.lit1 ⟨#[73, 102, 45, 77, 97, 116, 99, 104]⟩ ⟨#[42]⟩ _ _) (evsz_put sIM [42] (by decide) (by decide)) (by decide) (HT.out.below ((Below.refl _ w).alloc (Nat.le_refl _) _))).mono ?_
  rintro e w1 ⟨rfl, hb1⟩
  have HB1 : Hid (Below w.heap.size w w1) := ((Below.refl _ w).alloc (Nat.le_refl _) _).trans (hb1.mono (by simp))
  clear hb1
  go_wp2_with fail
  refine (eval_at a0 _ l1 a2 a3 a4 r HR.out _ (HF.out.below HB1.out) (evsz_bulk (by have := HBK.out; omega)) (by omega) (HT.out.below HB1.out)).mono ?_
  rintro e w2 ⟨rfl, hb2⟩
  have HB2 : Hid (Below w.heap.size w w2) := HB1.out.trans (hb2.mono HB1.out.size)
  clear hb2
  rcases hcs with rfl | rfl | ⟨rfl, rfl, h3⟩ | ⟨rfl, rfl, h3, h4⟩
  all_goals
    go_wp2_with fail
    refine (plainly_at _ l1 _ (HF.out.below HB2.out) (wide_bulk4 l1 (by have := HBK.out; omega))).mono ?_
    rintro e w3 ⟨v3, rfl, ho3, hb3⟩
    have HO3 : Hid (Own1 w3 v3 (plain4 l1)) := ho3
    have HB3 : Hid (Below w.heap.size w w3) := HB2.out.trans (hb3.mono HB2.out.size)
    clear ho3 hb3
    go_wp2_with fail
    refine (eval_at a0 v3 (plain4 l1) _ a3 a4 0 HP.out _ HO3.out.1 (evsz_bulk (by have := HBK.out; omega)) (by omega) (HT.out.below HB3.out)).mono ?_
    rintro e w4 ⟨rfl, hb4⟩
    have HB4 : Hid (Below w.heap.size w w4) := HB3.out.trans (hb4.mono HB3.out.size)
    clear hb4
    go_wp2_with fail
    go_ret
    exact ⟨by first | rfl | simp, HB4.out⟩
end Go.Proofs.YtigbjhkkbgdkcaaGreatDoor

/-
  What Lower of the document's answers computes: the letters A to Z as a to z; the string fits in the memory that Go's limits allow.
-/
namespace Go.Proofs.YtigbjhkkbgdkcaaGreatDoor
open Go.RowKit

theorem idx_great (c : UInt8) : (if 65 ≤ c && c ≤ 90 then (c.toNat : Int) - 65 else -1) = Lib.indexByte [65, 66, 67, 68, 69, 70, 71, 72, 73, 74, 75, 76, 77, 78, 79, 80, 81, 82, 83, 84, 85, 86, 87, 88, 89, 90] c := by
  have := byAll (fun c => decide ((if 65 ≤ c && c ≤ 90 then (c.toNat : Int) - 65 else -1) = Lib.indexByte [65, 66, 67, 68, 69, 70, 71, 72, 73, 74, 75, 76, 77, 78, 79, 80, 81, 82, 83, 84, 85, 86, 87, 88, 89, 90] c)) (by decide +kernel) c
  exact of_decide_eq_true this
theorem idx_yes (c : UInt8) (h : 65 ≤ (c.toNat : Int)) (h' : (c.toNat : Int) ≤ 90) : Lib.indexByte [65, 66, 67, 68, 69, 70, 71, 72, 73, 74, 75, 76, 77, 78, 79, 80, 81, 82, 83, 84, 85, 86, 87, 88, 89, 90] c = ((c.toNat - 65 : Nat) : Int) := by
  rw [← idx_great, if_pos (by simp [UInt8.le_iff_toNat_le]; omega)]; omega
theorem idx_no (c : UInt8) (h : (c.toNat : Int) < 65 ∨ 90 < (c.toNat : Int)) : Lib.indexByte [65, 66, 67, 68, 69, 70, 71, 72, 73, 74, 75, 76, 77, 78, 79, 80, 81, 82, 83, 84, 85, 86, 87, 88, 89, 90] c = -1 := by
  rw [← idx_great, if_neg (by simp [UInt8.le_iff_toNat_le]; omega)]

theorem u8_back (c : UInt8) : ((c.toNat : Int)).toNat.toUInt8 = c := by simp

theorem great_yes (c : UInt8) (n : Nat) (hn : (c.toNat : Int) = n + 65) (hn' : n < 26) (w : World) :
    Calls Tryz.prog 88 #[.string ⟨#[65, 66, 67, 68, 69, 70, 71, 72, 73, 74, 75, 76, 77, 78, 79, 80, 81, 82, 83, 84, 85, 86, 87, 88, 89, 90]⟩, .int .u8 (c.toNat : Int)] w fun e w' => e = .returned (.int .i64 (n : Int)) ∧ w' = w := by
  refine (Tryz.strings_IndexByte _ _ _).mono ?_
  rintro e w' ⟨rfl, rfl⟩
  refine ⟨?_, rfl⟩
  rw [u8_back]
  have h := idx_yes c (by omega) (by omega)
  have e : c.toNat - 65 = n := by omega
  rw [e] at h
  exact congrArg (fun x => Ending.returned (.int .i64 x)) h

theorem great_no (c : UInt8) (h : (c.toNat : Int) < 65 ∨ 90 < (c.toNat : Int)) (w : World) :
    Calls Tryz.prog 88 #[.string ⟨#[65, 66, 67, 68, 69, 70, 71, 72, 73, 74, 75, 76, 77, 78, 79, 80, 81, 82, 83, 84, 85, 86, 87, 88, 89, 90]⟩, .int .u8 (c.toNat : Int)] w fun e w' => e = .returned (.int .i64 (-1)) ∧ w' = w := by
  refine (Tryz.strings_IndexByte _ _ _).mono ?_
  rintro e w' ⟨rfl, rfl⟩
  refine ⟨?_, rfl⟩
  rw [u8_back]
  exact congrArg (fun x => Ending.returned (.int .i64 x)) (idx_no c h)

theorem app_list1 (l : List UInt8) (c : UInt8) : (⟨l.toArray⟩ : ByteArray) ++ ⟨#[c]⟩ = ⟨(l ++ [c]).toArray⟩ := by
  rw [ByteArray.mk_append_mk]

theorem small_at (c : UInt8) (n : Nat) (hn : (c.toNat : Int) = n + 65) (hn' : n < 26) : (⟨#[97, 98, 99, 100, 101, 102, 103, 104, 105, 106, 107, 108, 109, 110, 111, 112, 113, 114, 115, 116, 117, 118, 119, 120, 121, 122]⟩ : ByteArray).extract n (n + 1) = ⟨#[low c]⟩ := by
  rw [extract_one _ n (by exact hn')]
  have h : ∀ m : Fin 26, (#[97, 98, 99, 100, 101, 102, 103, 104, 105, 106, 107, 108, 109, 110, 111, 112, 113, 114, 115, 116, 117, 118, 119, 120, 121, 122] : Array UInt8)[m.val]'(by exact m.isLt) = low (UInt8.ofNat (m.val + 65)) := by decide +kernel
  have e : UInt8.ofNat (n + 65) = c := by
    apply UInt8.toNat.inj
    rw [UInt8.toNat_ofNat']
    omega
  have h' := h ⟨n, hn'⟩
  simp only [e] at h'
  exact congrArg (fun x => (⟨#[x]⟩ : ByteArray)) h'

theorem lower_step (s : ByteArray) (k : Nat) (h : k < s.size) : (⟨(lower (s.data.toList.take k)).toArray⟩ : ByteArray) ++ ⟨#[low s[k]]⟩ = ⟨(lower (s.data.toList.take (k + 1))).toArray⟩ := by
  rw [app_list1, take_snoc s k h, lower_snoc]

theorem lower_len (s : ByteArray) (k : Nat) (h : k ≤ s.size) : (⟨(lower (s.data.toList.take k)).toArray⟩ : ByteArray).size = k := by
  rw [← size_list]; simp [lower]
  have := size_list s
  simp at this
  omega

set_option maxHeartbeats 1000000 in
set_option maxRecDepth 100000 in
theorem rlower_any (s : ByteArray) (w : World) (hs : s.size ≤ 140737488351232) :
    Calls Tryz.prog 59 #[.string s] w fun e w' => e = .returned (.string ⟨(lower s.data.toList).toArray⟩) ∧ w' = w := by
  go_enter Tryz.func59, Tryz.ntmps59
  go_wp2_with fail
  go_loop [3, 8] (fun o i => ∃ k : Nat, ∃ t : ByteArray, k ≤ s.size ∧ i = .int .i64 k ∧ o = .string t ∧ t = ⟨(lower (s.data.toList.take k)).toArray⟩) (fun _ i => s.size - (intOf i).toNat)
  case atStart => exact ⟨0, _, Nat.zero_le _, rfl, rfl, rfl⟩
  case round =>
    obtain ⟨k, t, hk, rfl, rfl, ht⟩ := hrel
    have htl : t.size = k := by rw [ht]; exact lower_len s k hk
    have HT : Hid (t = ⟨(lower (s.data.toList.take k)).toArray⟩) := ht
    have hts : t.size ≤ 140737488351232 := by omega
    clear ht htl
    by_cases hlt : k < s.size
    · rcases (show (s[k].toNat : Int) < 65 ∨ (65 ≤ (s[k].toNat : Int) ∧ (s[k].toNat : Int) ≤ 90) ∨ 91 ≤ (s[k].toNat : Int) from by omega) with h | ⟨h, h'⟩ | h
      · go_wp2_with fail
        refine (great_no _ (by omega) _).mono ?_
        rintro e w' ⟨rfl, rfl⟩
        go_wp2_with fail
        go_round
        case rel => exact ⟨k + 1, _, by omega, by go_num, rfl, by rw [HT.out, extract_one s k hlt, ← lower_step s k hlt, low_no s[k] (by omega)]⟩
        case measure => simp [intOf]; omega
      · obtain ⟨n, hn⟩ : ∃ n : Nat, (s[k].toNat : Int) = n + 65 := ⟨s[k].toNat - 65, by omega⟩
        have hn' : n < 26 := by omega
        have HN : Hid ((s[k].toNat : Int) = n + 65) := hn
        clear hn
        go_wp2_with fail
        refine (great_yes _ n HN.out hn' _).mono ?_
        rintro e w' ⟨rfl, rfl⟩
        go_wp2_with fail
        go_round
        case rel => exact ⟨k + 1, _, by omega, by go_num, rfl, by rw [HT.out, small_at s[k] n HN.out hn', ← lower_step s k hlt]⟩
        case measure => simp [intOf]; omega
      · go_wp2_with fail
        refine (great_no _ (by omega) _).mono ?_
        rintro e w' ⟨rfl, rfl⟩
        go_wp2_with fail
        go_round
        case rel => exact ⟨k + 1, _, by omega, by go_num, rfl, by rw [HT.out, extract_one s k hlt, ← lower_step s k hlt, low_no s[k] (by omega)]⟩
        case measure => simp [intOf]; omega
    · obtain rfl : k = s.size := by omega
      go_wp2_with fail
      go_ret
      exact ⟨ret_str (by rw [HT.out, take_all]), rfl⟩
end Go.Proofs.YtigbjhkkbgdkcaaGreatDoor

/-
  What Get of the document's answers computes; lists and texts are no longer than Go allows, and the values, with what stands between them, fit in 2^47 bytes.
-/
namespace Go.Proofs.YtigbjhkkbgdkcaaGreatDoor
open Go.RowKit

theorem rlower_at (s t : ByteArray) (h : t.data.toList = lower s.data.toList) (w : World) (hs : s.size ≤ 140737488351232) :
    Calls Tryz.prog 59 #[.string s] w fun e w' => e = .returned (.string t) ∧ w' = w := by
  refine (rlower_any s w hs).mono ?_
  rintro e w' ⟨rfl, hb⟩
  refine ⟨ret_str ?_, hb⟩
  apply ByteArray.ext; apply Array.ext'; exact h.symm
theorem nm_is (n s t1 t2 : ByteArray) (u : List UInt8) (h1 : t1.data.toList = lower n.data.toList) (h2 : t2.data.toList = lower s.data.toList) : nm s.data.toList (n.data.toList, u) = (t1.toList == t2.toList) := by
  rw [ByteArray.toList_eq, ByteArray.toList_eq, h1, h2]; rfl
theorem ret_sb' {a b : ByteArray} {c d : Bool} (h : a = b) (h' : c = d) : Ending.returned (.tuple #[.string a, .bool c]) = .returned (.tuple #[.string b, .bool d]) := by rw [h, h']
theorem ba_two (a b : ByteArray) (l : List UInt8) (h : a.data.toList ++ b.data.toList = l) : a ++ b = ⟨l.toArray⟩ := by
  apply ByteArray.ext; apply Array.ext'
  rw [ByteArray.data_append, Array.toList_append, h]

set_option maxHeartbeats 4000000 in
set_option maxRecDepth 100000 in
theorem rget_at (v : Value) (ls : List Fld) (s t : ByteArray) (b : Bool) (ht : t.data.toList = jn (vals ls s.data.toList)) (hb : b = !(vals ls s.data.toList).isEmpty) (w : World) (hf : Fl w v ls) (hbk : bulkF ls ≤ 1048576) (hs : s.size ≤ 140737488351232) :
    Calls Tryz.prog 37 #[v, .string s] w fun e w' => e = .returned (.tuple #[.string t, .bool b]) ∧ Below w.heap.size w w' := by
  obtain ⟨ad, cap, hv, hcap, hcm, hc⟩ := hf
  subst hv
  have HC : Hid (0 < ls.length → ∃ g off, ad = some ⟨g, off, none⟩ ∧ g < w.heap.size ∧
    ∀ (k : Nat) (h : k < ls.length), w.cell? ⟨g, off + k * 2, none⟩ = some (.string ⟨(ls[k]).1.toArray⟩) ∧ w.cell? ⟨g, off + k * 2 + 1, none⟩ = some (.string ⟨(ls[k]).2.toArray⟩)) := hc
  have HT : Hid (t.data.toList = jn (vals ls s.data.toList)) := ht
  have HB : Hid (b = !(vals ls s.data.toList).isEmpty) := hb
  have HBK : Hid (bulkF ls ≤ 1048576) := hbk
  have hbl := bulk_len ls
  obtain ⟨t2, ht2⟩ : ∃ t2 : ByteArray, t2.data.toList = lower s.data.toList := ⟨⟨(lower s.data.toList).toArray⟩, rfl⟩
  have HT2 : Hid (t2.data.toList = lower s.data.toList) := ht2
  clear hc ht hb hbk ht2
  unfold maxLen at hcm
  go_enter Tryz.func37, Tryz.ntmps37
  go_wp2_with fail
  go_loopw [6, 7, 12] (fun o q i wr => ∃ (k : Nat) (r : ByteArray) (c : Bool), k ≤ ls.length ∧ i = .int .i64 k ∧ o = .string r ∧ q = .bool c ∧ r.data.toList = jn (vals (ls.take k) s.data.toList) ∧ c = !(vals (ls.take k) s.data.toList).isEmpty ∧ Below w.heap.size w wr) (fun _ _ i _ => ls.length - (intOf i).toNat)
  case atStart => exact ⟨0, ⟨#[]⟩, false, Nat.zero_le _, rfl, rfl, rfl, rfl, rfl, Below.refl _ _⟩
  case round =>
    obtain ⟨k, r, c, hk, rfl, rfl, rfl, hr, hcc, hw⟩ := hrel
    have hsz := hw.size
    have hrs : r.size ≤ 1048576 := by
      rw [← size_list, hr]
      have h1 := jn_bulk (ls.take k) s.data.toList
      have h2 : bulkF (ls.take k) ≤ bulkF ls := by
        have : bulkF ls = bulkF (ls.take k ++ ls.drop k) := by rw [List.take_append_drop]
        rw [this, bulkF_app]; omega
      have := HBK.out
      omega
    have HR : Hid (r.data.toList = jn (vals (ls.take k) s.data.toList)) := hr
    have HCC : Hid (c = !(vals (ls.take k) s.data.toList).isEmpty) := hcc
    clear hr hcc
    by_cases hlt : k < ls.length
    · obtain ⟨g, off, rfl, hgs, hce⟩ := HC.out (by omega)
      obtain ⟨c1, c2⟩ := hce k hlt
      have hmo := bulk_most ls ls[k] (List.getElem_mem hlt)
      have hbk := HBK.out
      obtain ⟨n, hn⟩ : ∃ n : ByteArray, n = ⟨(ls[k]).1.toArray⟩ := ⟨_, rfl⟩
      obtain ⟨u, hu⟩ : ∃ u : ByteArray, u = ⟨(ls[k]).2.toArray⟩ := ⟨_, rfl⟩
      have hns : n.size ≤ 1048576 := by rw [← size_list, hn]; exact Nat.le_trans hmo.1 hbk
      have hus : u.size ≤ 1048576 := by rw [← size_list, hu]; exact Nat.le_trans hmo.2 hbk
      have HE : Hid ((n.data.toList, u.data.toList) = ls[k]) := by show _ = _; rw [hn, hu]
      have HV := vals_take ls s.data.toList k hlt
      rw [← HE.out] at HV
      obtain ⟨t1, ht1⟩ : ∃ t1 : ByteArray, t1.data.toList = lower n.data.toList := ⟨⟨(lower n.data.toList).toArray⟩, rfl⟩
      have HT1 : Hid (t1.data.toList = lower n.data.toList) := ht1
      have HNM := nm_is n s t1 t2 u.data.toList ht1 HT2.out
      have d1 : wr.cell? ⟨g, off + k * 2, none⟩ = some (.string n) := by rw [hw.cell (p := ⟨g, off + k * 2, none⟩) hgs, hn]; exact c1
      have d2 : wr.cell? ⟨g, off + k * 2 + 1, none⟩ = some (.string u) := by rw [hw.cell (p := ⟨g, off + k * 2 + 1, none⟩) hgs, hu]; exact c2
      have hgr : g < wr.heap.size := by omega
      clear hce c1 c2 hmo hn hu ht1 hbk
      have hki : (k : Int) < (ls.length : Int) := by omega
      have hk0 : (0 : Int) ≤ (k : Int) := by omega
      cases hq : (t1.toList == t2.toList)
      · rw [HNM, hq] at HV
        have HV2 : Hid (vals (ls.take (k + 1)) s.data.toList = vals (ls.take k) s.data.toList) := by show _ = _; rw [HV]; simp
        clear HV HNM
        go_wp2_with fail
        refine (rlower_at n t1 HT1.out _ (by omega)).mono ?_
        rintro e w1 ⟨rfl, rfl⟩
        go_wp2_with fail
        refine (rlower_at s t2 HT2.out _ hs).mono ?_
        rintro e w2 ⟨rfl, rfl⟩
        go_wp2_with fail
        go_roundw
        case rel => exact ⟨k + 1, r, c, by omega, by go_num, rfl, rfl, by rw [HV2.out]; exact HR.out, by rw [HV2.out]; exact HCC.out, hw.alloc hsz _⟩
        case measure => simp [intOf]; omega
      · rw [HNM, hq] at HV
        have HV2 : Hid (vals (ls.take (k + 1)) s.data.toList = vals (ls.take k) s.data.toList ++ [u.data.toList]) := by show _ = _; rw [HV]; simp
        clear HV HNM
        cases c
        · have HX : Hid (vals (ls.take k) s.data.toList = []) := by
            have := HCC.out
            show _ = _
            simpa using this
          have HRE : Hid (r = ⟨#[]⟩) := by
            show _ = _
            apply ByteArray.ext; apply Array.ext'
            rw [HR.out, HX.out]; rfl
          have HN : Hid ((r ++ u).data.toList = jn (vals (ls.take (k + 1)) s.data.toList)) := by
            show _ = _
            rw [HV2.out, jn_snoc, if_pos HX.out, HRE.out, ByteArray.data_append, Array.toList_append]; rfl
          have HN2 : Hid (true = !(vals (ls.take (k + 1)) s.data.toList).isEmpty) := by show _ = _; rw [HV2.out]; simp
          go_wp2_with fail
          refine (rlower_at n t1 HT1.out _ (by omega)).mono ?_
          rintro e w1 ⟨rfl, rfl⟩
          go_wp2_with fail
          refine (rlower_at s t2 HT2.out _ hs).mono ?_
          rintro e w2 ⟨rfl, rfl⟩
          go_wp2_with fail
          go_roundw
          case rel => exact ⟨k + 1, r ++ u, true, by omega, by go_num, rfl, rfl, HN.out, HN2.out, hw.alloc hsz _⟩
          case measure => simp [intOf]; omega
        · have HX : Hid (vals (ls.take k) s.data.toList ≠ []) := by
            have := HCC.out
            show _ ≠ _
            intro e
            rw [e] at this
            simp at this
          have HN : Hid ((r ++ ⟨#[44, 32]⟩ ++ u).data.toList = jn (vals (ls.take (k + 1)) s.data.toList)) := by
            show _ = _
            rw [HV2.out, jn_snoc, if_neg HX.out, ByteArray.data_append, Array.toList_append, ByteArray.data_append, Array.toList_append, HR.out]
          have HN2 : Hid (true = !(vals (ls.take (k + 1)) s.data.toList).isEmpty) := by show _ = _; rw [HV2.out]; simp
          go_wp2_with fail
          refine (rlower_at n t1 HT1.out _ (by omega)).mono ?_
          rintro e w1 ⟨rfl, rfl⟩
          go_wp2_with fail
          refine (rlower_at s t2 HT2.out _ hs).mono ?_
          rintro e w2 ⟨rfl, rfl⟩
          go_wp2_with fail
          go_roundw
          case rel => exact ⟨k + 1, r ++ ⟨#[44, 32]⟩ ++ u, true, by omega, by go_num, rfl, rfl, HN.out, HN2.out, hw.alloc hsz _⟩
          case measure => simp [intOf]; omega
    · have HEnd : Hid (ls.take k = ls) := List.take_of_length_le (by omega)
      go_wp2_with fail
      go_ret2
      refine ⟨ret_sb' ?_ (by rw [HB.out, HCC.out, HEnd.out]), hw⟩
      apply ByteArray.ext; apply Array.ext'
      rw [HT.out, HR.out, HEnd.out]
end Go.Proofs.YtigbjhkkbgdkcaaGreatDoor

/-
  Numbers of digits in plain lists, as the document's answers count them; no program is named here.
-/
namespace Go.Proofs.YtigbjhkkbgdkcaaGreatDoor
open Go.RowKit

def isDig (c : UInt8) : Bool := 48 ≤ c && c ≤ 57
def cnt (l : List UInt8) (most : Int) : Int :=
  if l.length = 0 ∨ 18 < l.length ∨ (1 < l.length ∧ l.head? = some 48) ∨ l.all isDig = false then -1 else if most < numb l then -1 else numb l
/-- a number with noughts ahead, as the document's answers count it: -1 for 0 -/
def cn (l : List UInt8) : Int := cnt (Lib.trimLeftB l 48) 9999

theorem dig_iff (c : UInt8) : isDig c = true ↔ 48 ≤ c.toNat ∧ c.toNat ≤ 57 := by
  unfold isDig
  simp [UInt8.le_iff_toNat_le]
theorem dig_tens (c : UInt8) : ([48, 49, 50, 51, 52, 53, 54, 55, 56, 57] : List UInt8).contains c = isDig c := by
  have := byAll (fun c => ([48, 49, 50, 51, 52, 53, 54, 55, 56, 57] : List UInt8).contains c == isDig c) (by decide +kernel) c
  simpa using this
theorem tens_all (l : List UInt8) : allIn [48, 49, 50, 51, 52, 53, 54, 55, 56, 57] l = l.all isDig := congrArg l.all (funext dig_tens)

theorem foldl_bd (l : List UInt8) : ∀ (_ : l.all isDig = true) (n : Int) (_ : 0 ≤ n), 0 ≤ l.foldl (fun n c => n * 10 + (c.toNat : Int) - 48) n ∧ l.foldl (fun n c => n * 10 + (c.toNat : Int) - 48) n < (n + 1) * 10 ^ l.length := by
  induction l with
  | nil => intro _ n hn; simp; omega
  | cons c l ih =>
    intro h n hn
    rw [List.all_cons, Bool.and_eq_true] at h
    obtain ⟨h1, h2⟩ := (dig_iff c).1 h.1
    have := ih h.2 (n * 10 + (c.toNat : Int) - 48) (by omega)
    rw [List.foldl_cons]
    refine ⟨this.1, Int.lt_of_lt_of_le this.2 ?_⟩
    rw [List.length_cons, Int.pow_succ, Int.mul_comm (10 ^ l.length) 10, ← Int.mul_assoc]
    exact Int.mul_le_mul_of_nonneg_right (by omega) (by exact Int.le_of_lt (Int.pow_pos (by omega)))
theorem numb_dig (l : List UInt8) (h : l.all isDig = true) : 0 ≤ numb l ∧ numb l < 10 ^ l.length := by
  have := foldl_bd l h 0 (Int.le_refl _)
  simpa [numb] using this

theorem cnt_most (l : List UInt8) (most : Int) (h : 0 ≤ most) : -1 ≤ cnt l most ∧ cnt l most ≤ most := by
  unfold cnt
  split
  · omega
  · rename_i h1
    split
    · omega
    · rename_i h2
      have : l.all isDig = true := by
        cases hq : l.all isDig with
        | true => rfl
        | false => exact absurd (.inr (.inr (.inr hq))) h1
      have := (numb_dig l this).1
      omega
theorem numb_trim (l : List UInt8) : numb (Lib.trimLeftB l 48) = numb l := by
  unfold Lib.trimLeftB
  induction l with
  | nil => rfl
  | cons c l ih =>
    rw [List.dropWhile_cons]
    split
    · rename_i h
      obtain rfl : c = 48 := by simpa using h
      rw [ih]; rfl
    · rfl
theorem trim_all (l : List UInt8) (h : l.all isDig = true) : (Lib.trimLeftB l 48).all isDig = true :=
  List.all_eq_true.2 fun x hx => List.all_eq_true.1 h x ((List.dropWhile_sublist _).mem hx)
theorem trim_len (l : List UInt8) : (Lib.trimLeftB l 48).length ≤ l.length := (List.dropWhile_sublist _).length_le
theorem trim_head (l : List UInt8) : (Lib.trimLeftB l 48).head? ≠ some 48 := by
  unfold Lib.trimLeftB
  induction l with
  | nil => simp
  | cons c l ih =>
    rw [List.dropWhile_cons]
    split
    · exact ih
    · rename_i h
      simpa using h

theorem numb_dig4 (l : List UInt8) (h : l.all isDig = true) (hl : l.length ≤ 4) : 0 ≤ numb l ∧ numb l ≤ 9999 := by
  obtain ⟨a, b⟩ := numb_dig l h
  refine ⟨a, ?_⟩
  rcases (show l.length = 0 ∨ l.length = 1 ∨ l.length = 2 ∨ l.length = 3 ∨ l.length = 4 by omega) with e | e | e | e | e <;> (rw [e] at b; omega)

theorem cn_is (l : List UInt8) (h : l.all isDig = true) (hl : l.length ≤ 4) : (cn l = -1 ∧ numb l = 0) ∨ cn l = numb l := by
  have b := numb_dig4 l h hl
  have t1 := trim_all l h
  have t2 := trim_len l
  have t3 := trim_head l
  have t4 := numb_trim l
  unfold cn cnt
  rw [t4]
  by_cases he : (Lib.trimLeftB l 48).length = 0
  · left
    refine ⟨if_pos (.inl he), ?_⟩
    rw [← t4, List.length_eq_zero_iff.1 he]; rfl
  · right
    rw [if_neg, if_neg (by omega)]
    rintro (g | g | g | g)
    · exact he g
    · omega
    · exact t3 g.2
    · rw [t1] at g; cases g
theorem cn_max (l : List UInt8) (h : l.all isDig = true) (hl : l.length ≤ 4) : max 0 (cn l) = numb l := by
  have b := numb_dig4 l h hl
  rcases cn_is l h hl with ⟨e, f⟩ | e
  · rw [e, f]; rfl
  · rw [e]; omega
theorem cn_bd (l : List UInt8) (h : l.all isDig = true) (hl : l.length ≤ 4) : -1 ≤ cn l ∧ cn l ≤ 9999 := by
  have b := numb_dig4 l h hl
  rcases cn_is l h hl with ⟨e, f⟩ | e <;> omega

theorem dig_dg (u : Nat) (h : u < 10) : isDig (dg u) = true := by rw [dig_iff, dg_nat u h]; omega
theorem dig2_all (u : Nat) (h : u < 100) : (dig2 u).all isDig = true := by
  unfold dig2; simp [dig_dg (u / 10) (by omega), dig_dg (u % 10) (by omega)]
theorem dig4_all (u : Nat) (h : u < 10000) : (dig4 u).all isDig = true := by
  unfold dig4; simp [dig_dg (u / 1000) (by omega), dig_dg (u / 100 % 10) (by omega), dig_dg (u / 10 % 10) (by omega), dig_dg (u % 10) (by omega)]

def mtext : List UInt8 := [74, 97, 110, 32, 70, 101, 98, 32, 77, 97, 114, 32, 65, 112, 114, 32, 77, 97, 121, 32, 74, 117, 110, 32, 74, 117, 108, 32, 65, 117, 103, 32, 83, 101, 112, 32, 79, 99, 116, 32, 78, 111, 118, 32, 68, 101, 99]
theorem mtext_at (k : Nat) (h : k < 12) : Lib.index mtext (monthS k) = 4 * (k : Int) := by
  rcases (show k = 0 ∨ k = 1 ∨ k = 2 ∨ k = 3 ∨ k = 4 ∨ k = 5 ∨ k = 6 ∨ k = 7 ∨ k = 8 ∨ k = 9 ∨ k = 10 ∨ k = 11 by omega) with rfl | rfl | rfl | rfl | rfl | rfl | rfl | rfl | rfl | rfl | rfl | rfl <;> decide +kernel
theorem mtext_bd (x : List UInt8) : -1 ≤ Lib.index mtext x ∧ Lib.index mtext x ≤ 47 := ⟨Lib.index_ge _ _, Lib.index_le _ _⟩

/-- the five numbers' texts of a date -/
def part (l : List UInt8) (k : Nat) : List UInt8 := ([sl l 5 7, sl l 12 16, sl l 17 19, sl l 20 22, sl l 23 25]).getD k []
theorem part0 (l : List UInt8) : part l 0 = sl l 5 7 := rfl
theorem part1 (l : List UInt8) : part l 1 = sl l 12 16 := rfl
theorem part2 (l : List UInt8) : part l 2 = sl l 17 19 := rfl
theorem part3 (l : List UInt8) : part l 3 = sl l 20 22 := rfl
theorem part4 (l : List UInt8) : part l 4 = sl l 23 25 := rfl
def digs (l : List UInt8) : Prop := ∀ k : Nat, k < 5 → (part l k).all isDig = true
def rN (l : List UInt8) (m : Int) : Int := num (cn (part l 1)) (m / 4 + 1) (numb (part l 0)) * 86400 + 3600 * numb (part l 2) + 60 * numb (part l 3) + numb (part l 4)

theorem part_len (l : List UInt8) (h : l.length = 29) (k : Nat) (hk : k < 5) : (part l k).length ≤ 4 := by
  rcases (show k = 0 ∨ k = 1 ∨ k = 2 ∨ k = 3 ∨ k = 4 by omega) with rfl | rfl | rfl | rfl | rfl
  · exact Nat.le_trans (Nat.le_of_eq (sl_len l 5 7 h (by decide) (by decide))) (by decide)
  · exact Nat.le_trans (Nat.le_of_eq (sl_len l 12 16 h (by decide) (by decide))) (by decide)
  · exact Nat.le_trans (Nat.le_of_eq (sl_len l 17 19 h (by decide) (by decide))) (by decide)
  · exact Nat.le_trans (Nat.le_of_eq (sl_len l 20 22 h (by decide) (by decide))) (by decide)
  · exact Nat.le_trans (Nat.le_of_eq (sl_len l 23 25 h (by decide) (by decide))) (by decide)
theorem part_bd2 (l : List UInt8) (h : l.length = 29) (hd : digs l) (k : Nat) (hk : k < 5) (h1 : k ≠ 1) : 0 ≤ numb (part l k) ∧ numb (part l k) ≤ 99 := by
  obtain ⟨a, b⟩ := numb_dig (part l k) (hd k hk)
  have hl : (part l k).length = 2 := by
    rcases (show k = 0 ∨ k = 2 ∨ k = 3 ∨ k = 4 by omega) with rfl | rfl | rfl | rfl
    · exact sl_len l 5 7 h (by decide) (by decide)
    · exact sl_len l 17 19 h (by decide) (by decide)
    · exact sl_len l 20 22 h (by decide) (by decide)
    · exact sl_len l 23 25 h (by decide) (by decide)
  rw [hl] at b
  omega

/-- what the document's answers read of a date's text -/
theorem dt_ref {l : List UInt8} {n : Int} (h : IsDT l n) : digs l ∧ 0 ≤ Lib.index mtext (sl l 8 11) ∧ vldB (cn (part l 1)) (Lib.index mtext (sl l 8 11) / 4 + 1) (numb (part l 0)) = true ∧ rN l (Lib.index mtext (sl l 8 11)) = n := by
  have hlen := dt_len h
  obtain ⟨h0, h1, y, m, d, hv, hn, rfl⟩ := h
  obtain ⟨a1, a2, a3, a4, a5, a6⟩ := vld_iff.1 hv
  have hd := dim_lo y m
  obtain ⟨p1, p2, p3, p4, p5, p6⟩ := dtext_parts n y m d a3 a4
  have hdg : digs (dtext n y m d) := by
    intro k hk
    rcases (show k = 0 ∨ k = 1 ∨ k = 2 ∨ k = 3 ∨ k = 4 by omega) with rfl | rfl | rfl | rfl | rfl
    · rw [part0, p1]; exact dig2_all _ (by omega)
    · rw [part1, p3]; exact dig4_all _ (by omega)
    · rw [part2, p4]; exact dig2_all _ (by omega)
    · rw [part3, p5]; exact dig2_all _ (by omega)
    · rw [part4, p6]; exact dig2_all _ (by omega)
  have e0 : numb (part (dtext n y m d) 0) = d := by rw [part0, p1, numb_2 _ (by omega)]; omega
  have e1' : numb (part (dtext n y m d) 1) = y := by rw [part1, p3, numb_4 _ (by omega)]; omega
  have e1 : cn (part (dtext n y m d) 1) = y := by
    rcases cn_is _ (hdg 1 (by decide)) (part_len _ hlen 1 (by decide)) with ⟨_, g⟩ | g <;> omega
  have e2 : numb (part (dtext n y m d) 2) = n % 86400 / 3600 := by rw [part2, p4, numb_2 _ (by omega)]; omega
  have e3 : numb (part (dtext n y m d) 3) = n % 3600 / 60 := by rw [part3, p5, numb_2 _ (by omega)]; omega
  have e4 : numb (part (dtext n y m d) 4) = n % 60 := by rw [part4, p6, numb_2 _ (by omega)]; omega
  have em : Lib.index mtext (sl (dtext n y m d) 8 11) = 4 * (m - 1) := by rw [p2, mtext_at _ (by omega)]; omega
  refine ⟨hdg, by rw [em]; omega, ?_, ?_⟩
  · rw [e0, e1, em, show 4 * (m - 1) / 4 + 1 = m by omega]; exact hv
  · unfold rN
    rw [e0, e1, e2, e3, e4, em, show 4 * (m - 1) / 4 + 1 = m by omega, hn]; omega
end Go.Proofs.YtigbjhkkbgdkcaaGreatDoor

/-
  What count of the document's answers computes, a contract over the program's text; no condition but that a string is no longer than Go allows.
-/
namespace Go.Proofs.YtigbjhkkbgdkcaaGreatDoor
open Go.RowKit

theorem ret_in {a b : Int} (h : a = b) : Ending.returned (.int .i64 a) = .returned (.int .i64 b) := by rw [h]
theorem head_at (s : ByteArray) (h : 0 < s.size) : s.data.toList.head? = some s[0] := by
  have h' : 0 < s.data.toList.length := by rw [size_list]; exact h
  rw [List.head?_eq_getElem?, List.getElem?_eq_getElem h']
  rfl
theorem numb_18 (l : List UInt8) (h : l.all isDig = true) (hl : l.length ≤ 18) : 0 ≤ numb l ∧ numb l < 1000000000000000000 := by
  obtain ⟨a, b⟩ := numb_dig l h
  refine ⟨a, Int.lt_of_lt_of_le b ?_⟩
  have : (10 : Nat) ^ l.length ≤ 10 ^ 18 := Nat.pow_le_pow_right (by decide) hl
  have e : ((10 : Nat) ^ l.length : Int) = (10 : Int) ^ l.length := rfl
  omega

theorem cnt_no (l : List UInt8) (most : Int) (h : l.length = 0 ∨ 18 < l.length ∨ (1 < l.length ∧ l.head? = some 48) ∨ l.all isDig = false) : cnt l most = -1 := if_pos h
theorem cnt_big (l : List UInt8) (most : Int) (h : most < numb l) : cnt l most = -1 := by
  unfold cnt; split <;> first | rfl | exact if_pos h
theorem cnt_yes (l : List UInt8) (most : Int) (h : ¬ (l.length = 0 ∨ 18 < l.length ∨ (1 < l.length ∧ l.head? = some 48) ∨ l.all isDig = false)) (h' : ¬ most < numb l) : cnt l most = numb l := by
  unfold cnt; rw [if_neg h, if_neg h']

set_option maxHeartbeats 1000000 in
set_option maxRecDepth 100000 in
theorem count_go (s : ByteArray) (most : Int) (w : World) (h0 : s.size ≠ 0) (h18 : s.size ≤ 18) (hh : ¬ (1 < s.size ∧ s.data.toList.head? = some 48)) :
    Calls Tryz.prog 66 #[.string s, .int .i64 most] w fun e w' => e = .returned (.int .i64 (cnt s.data.toList most)) ∧ w' = w := by
  have hp : 0 < s.size := by omega
  have hl : s.data.toList.length = s.size := size_list s
  have HN : Hid (s.data.toList.all isDig = true → ¬ (s.data.toList.length = 0 ∨ 18 < s.data.toList.length ∨ (1 < s.data.toList.length ∧ s.data.toList.head? = some 48) ∨ s.data.toList.all isDig = false)) := by
    intro ha
    rintro (g | g | g | g)
    · omega
    · omega
    · exact hh (by rw [hl] at g; exact g)
    · rw [ha] at g; cases g
  have HF : Hid (s.data.toList.all isDig = false → cnt s.data.toList most = -1) := fun h => cnt_no _ _ (.inr (.inr (.inr h)))
  have he : s.toList.isEmpty = false := by rw [ByteArray.toList_eq, isEmpty_size]; simpa using h0
  have hd : decide (18 < (s.size : Int)) = false := decide_eq_false (by omega)
  have HE : Hid (s.size = 1 ∨ 1 < s.size ∧ s[0] ≠ 48) := by
    by_cases h1 : s.size = 1
    · exact .inl h1
    · exact .inr ⟨by omega, fun h => hh ⟨by omega, by rw [head_at s hp, h]⟩⟩
  clear hl hh
  have two : ∀ b : Bool, decide (1 < (s.size : Int)) = b → (b = true → ((s[0].toNat : Int) == 48) = false) → 
    Calls Tryz.prog 66 #[.string s, .int .i64 most] w fun e w' => e = .returned (.int .i64 (cnt s.data.toList most)) ∧ w' = w := by
    intro b hb hz
    cases b
    all_goals
      first | replace hz := hz rfl | clear hz
      go_enter Tryz.func66, Tryz.ntmps66
      go_wp2_with fail
      go_loop [5, 26] (fun n i => ∃ k : Nat, k ≤ s.size ∧ i = .int .i64 k ∧ n = .int .i64 (numb (s.data.toList.take k)) ∧ (s.data.toList.take k).all isDig = true) (fun _ i => s.size - (intOf i).toNat)
      case atStart => exact ⟨0, Nat.zero_le _, rfl, rfl, rfl⟩
      case round =>
        obtain ⟨k, hk, rfl, rfl, ha⟩ := hrel
        have HA : Hid ((s.data.toList.take k).all isDig = true) := ha
        have hbd := numb_18 _ ha (by rw [List.length_take, size_list]; omega)
        clear ha
        by_cases hlt : k < s.size
        · have HS : Hid (numb (s.data.toList.take (k + 1)) = numb (s.data.toList.take k) * 10 + (s[k].toNat : Int) - 48) := by
            show numb _ = _
            rw [take_snoc s k hlt, numb_snoc]
          have hc := s[k].toNat_lt
          by_cases c1 : (s[k].toNat : Int) < 48
          · have HX : Hid (s.data.toList.all isDig = false) := all_false s isDig k hlt (by
              cases h : isDig s[k]
              · rfl
              · have := (dig_iff _).1 h; omega)
            go_wp2_with fail
            go_ret
            exact ⟨ret_in (HF.out HX.out).symm, rfl⟩
          · by_cases c2 : 57 < (s[k].toNat : Int)
            · have HX : Hid (s.data.toList.all isDig = false) := all_false s isDig k hlt (by
                cases h : isDig s[k]
                · rfl
                · have := (dig_iff _).1 h; omega)
              go_wp2_with fail
              go_ret
              exact ⟨ret_in (HF.out HX.out).symm, rfl⟩
            · have hb2 := numb_18 (s.data.toList.take (k + 1)) (by
                rw [take_snoc s k hlt, List.all_append, HA.out, List.all_cons, (dig_iff _).2 (by omega)]; rfl) (by rw [List.length_take, size_list]; omega)
              rw [HS.out] at hb2
              have c3 : 48 ≤ (s[k].toNat : Int) := by omega
              have c4 : (s[k].toNat : Int) ≤ 57 := by omega
              clear c1 c2
              go_wp2_with fail
              go_round
              case rel => exact ⟨k + 1, by omega, by go_num, by rw [HS.out]; go_num, by rw [take_snoc s k hlt, List.all_append, HA.out, List.all_cons, (dig_iff _).2 (by omega)]; rfl⟩
              case measure => simp [intOf]; omega
        · obtain rfl : k = s.size := by omega
          have HA' : Hid (s.data.toList.all isDig = true) := by have := HA.out; rw [take_all] at this; exact this
          by_cases hm : most < numb (s.data.toList.take s.size)
          · have HM : Hid (most < numb s.data.toList) := by rw [take_all] at hm; exact hm
            go_wp2_with fail
            go_ret
            exact ⟨ret_in (cnt_big _ _ HM.out).symm, rfl⟩
          · have HM : Hid (numb s.data.toList ≤ most) := by rw [take_all] at hm; exact Int.not_lt.1 hm
            go_wp2_with fail
            go_ret
            exact ⟨ret_in (by rw [cnt_yes _ _ (HN.out HA'.out) (Int.not_lt.2 HM.out), take_all]), rfl⟩
  rcases HE.out with h1 | ⟨h1, h2⟩
  · exact two false (decide_eq_false (by omega)) (fun h => by cases h)
  · refine two true (decide_eq_true (by omega)) (fun _ => ?_)
    rw [beq_eq_false_iff_ne]
    intro h
    apply h2
    apply UInt8.toNat_inj.1
    show s[0].toNat = 48
    omega

set_option maxHeartbeats 1000000 in
theorem count_any (s : ByteArray) (most : Int) (w : World) (hs : s.size ≤ maxLen) :
    Calls Tryz.prog 66 #[.string s, .int .i64 most] w fun e w' => e = .returned (.int .i64 (cnt s.data.toList most)) ∧ w' = w := by
  unfold maxLen at hs
  have hl : s.data.toList.length = s.size := size_list s
  by_cases h0 : s.size = 0
  · have HC : Hid (cnt s.data.toList most = -1) := cnt_no _ _ (.inl (by omega))
    have he : s.toList.isEmpty = true := by rw [ByteArray.toList_eq, isEmpty_size]; simpa using h0
    clear hl
    go_enter Tryz.func66, Tryz.ntmps66
    go_wp2_with fail
    go_ret
    exact ⟨ret_in HC.out.symm, rfl⟩
  by_cases h18 : 18 < s.size
  · have HC : Hid (cnt s.data.toList most = -1) := cnt_no _ _ (.inr (.inl (by omega)))
    have he : s.toList.isEmpty = false := by rw [ByteArray.toList_eq, isEmpty_size]; simpa using h0
    have hd : decide (18 < (s.size : Int)) = true := decide_eq_true (by omega)
    clear hl
    go_enter Tryz.func66, Tryz.ntmps66
    go_wp2_with fail
    go_ret
    exact ⟨ret_in HC.out.symm, rfl⟩
  by_cases hh : 1 < s.size ∧ s.data.toList.head? = some 48
  · have HC : Hid (cnt s.data.toList most = -1) := cnt_no _ _ (.inr (.inr (.inl (by rw [hl]; exact hh))))
    have he : s.toList.isEmpty = false := by rw [ByteArray.toList_eq, isEmpty_size]; simpa using h0
    have hd : decide (18 < (s.size : Int)) = false := decide_eq_false (by omega)
    have h1 := hh.1
    have hp : 0 < s.size := by omega
    have hd1 : decide (1 < (s.size : Int)) = true := decide_eq_true (by omega)
    have hz : s[0] = 48 := by have := hh.2; rw [head_at s hp] at this; exact Option.some.inj this
    have hq : ((s[0].toNat : Int) == 48) = true := by rw [hz]; rfl
    clear hl hh hz
    go_enter Tryz.func66, Tryz.ntmps66
    go_wp2_with fail
    go_ret
    exact ⟨ret_in HC.out.symm, rfl⟩
  exact count_go s most w h0 (by omega) hh
end Go.Proofs.YtigbjhkkbgdkcaaGreatDoor

/-
  What allOf of the document's answers computes; no condition but that a string is no longer than Go allows.
-/
namespace Go.Proofs.YtigbjhkkbgdkcaaGreatDoor
open Go.RowKit

set_option maxHeartbeats 400000 in
set_option maxRecDepth 100000 in
theorem allOf_any (s f : ByteArray) (w : World) (hs : s.size ≤ maxLen) :
    Calls Tryz.prog 65 #[.string s, .string f] w fun e w' => e = .returned (.bool (allIn f.data.toList s.data.toList)) ∧ w' = w := by
  unfold maxLen at hs
  go_enter Tryz.func65, Tryz.ntmps65
  go_wp2_with fail
  go_loop [8] (fun i => ∃ k : Nat, k ≤ s.size ∧ i = .int .i64 k ∧ allIn f.data.toList (s.data.toList.take k) = true) (fun i => s.size - (intOf i).toNat)
  case atStart => exact ⟨0, Nat.zero_le _, rfl, rfl⟩
  case round =>
    obtain ⟨k, hk, rfl, hall⟩ := hrel
    have HA : Hid (allIn f.data.toList (s.data.toList.take k) = true) := hall
    clear hall
    by_cases hlt : k < s.size
    · cases ht : f.data.toList.contains s[k]
      · have HT : Hid (f.data.toList.contains s[k] = false) := ht
        clear ht
        go_wp2_with fail
        rw [extract_one s k hlt]
        refine (Tryz.strings_Contains_one _ _ _).mono ?_
        rintro e w' ⟨rfl, rfl⟩
        rw [← Lib.contains_iff_indexByte, HT.out]
        go_wp2_with fail
        go_ret
        refine ⟨ret_bool ?_, rfl⟩
        rw [allIn, all_false s (fun c => f.data.toList.contains c) k hlt HT.out]
      · have HT : Hid (f.data.toList.contains s[k] = true) := ht
        clear ht
        go_wp2_with fail
        rw [extract_one s k hlt]
        refine (Tryz.strings_Contains_one _ _ _).mono ?_
        rintro e w' ⟨rfl, rfl⟩
        rw [← Lib.contains_iff_indexByte, HT.out]
        go_wp2_with fail
        go_round
        case rel => exact ⟨k + 1, by omega, by go_num, by rw [take_snoc s k hlt, allIn, List.all_append, List.all_cons, HT.out, Bool.true_and, List.all_nil, Bool.and_true]; exact HA.out⟩
        case measure => simp [intOf]; omega
    · obtain rfl : k = s.size := by omega
      go_wp2_with fail
      go_ret
      refine ⟨ret_bool ?_, rfl⟩
      have h := HA.out
      rw [take_all] at h
      rw [h]
end Go.Proofs.YtigbjhkkbgdkcaaGreatDoor

/-
  What chr of the document's answers computes, a contract over the program's text.
-/
namespace Go.Proofs.YtigbjhkkbgdkcaaGreatDoor
open Go.RowKit

theorem mk_data (s : ByteArray) (l : List UInt8) (h : s.data.toList = l) : s = ⟨l.toArray⟩ := by
  apply ByteArray.ext
  rw [← h, Array.toArray_toList]
theorem app_list (a b : ByteArray) : (a ++ b).data.toList = a.data.toList ++ b.data.toList := by
  rw [ByteArray.data_append, Array.toList_append]

set_option maxHeartbeats 1000000 in
set_option maxRecDepth 100000 in
theorem rchr_any (u : Nat) (h : u < 256) (w : World) :
    Calls Tryz.prog 134 #[.int .i64 (u : Int)] w fun e w' => e = .returned (.string ⟨#[UInt8.ofNat u]⟩) ∧ Below w.heap.size w w' := by
  have h1 : (u : Int) < 256 := by omega
  have h0 : (0 : Int) ≤ (u : Int) := by omega
  have hcv := run_convert_bytes_back (P := Tryz.prog) (w.alloc (.cells #[.int .u8 (u : Int)] 5)) 56 9 5 ⟨w.heap.size, 0, none⟩ 1 [UInt8.ofNat u] Tryz.underlying56 Tryz.underlying5 Tryz.underlying9 (fun j hj => by
    have hj' : j < 1 := hj
    obtain rfl : j = 0 := by omega
    rw [show (⟨w.heap.size, 0, none⟩ : Addr).add 0 = ⟨w.heap.size, 0, none⟩ from rfl, World.cell?_alloc_at _ _ _ _ (by simp)]
    simp [Nat.mod_eq_of_lt h])
  rw [show ([UInt8.ofNat u] : List UInt8).length = 1 from rfl] at hcv
  go_enter Tryz.func134, Tryz.ntmps134
  go_wp2_with fail
  go_ret
  exact ⟨rfl, (Below.refl _ w).alloc (Nat.le_refl _) _⟩
end Go.Proofs.YtigbjhkkbgdkcaaGreatDoor

/-
  What chr and Digits of the document's answers compute, each a contract over the program's text.
-/
namespace Go.Proofs.YtigbjhkkbgdkcaaGreatDoor
open Go.RowKit

theorem dec_len (u : Nat) (h : u ≤ 9223372036854775807) : (Lib.decDigits u).length ≤ 21 := by
  have := Lib.itoa_length_le (u : Int) (by omega) (by omega)
  rw [Lib.itoa, if_neg (by omega)] at this
  simpa using this

set_option maxHeartbeats 1000000 in
set_option maxRecDepth 100000 in
theorem rdigits_any (N : Nat) : ∀ (u : Nat) (_ : u ≤ N) (_ : u ≤ 9223372036854775807) (w : World),
    Calls Tryz.prog 122 #[.int .i64 (u : Int)] w fun e w' => e = .returned (.string ⟨(Lib.decDigits u).toArray⟩) ∧ Below w.heap.size w w' := by
  induction N with
  | zero =>
    intro u h1 h2 w
    obtain rfl : u = 0 := by omega
    have c := rchr_any 48 (by omega) w
    go_enter Tryz.func122, Tryz.ntmps122
    go_wp2_with fail
    refine c.mono ?_
    rintro e w1 ⟨rfl, hb⟩
    go_wp2_with fail
    go_ret
    exact ⟨ret_str (by rw [Lib.decDigits_one (by omega)]; rfl), hb⟩
  | succ N ih =>
    intro u h1 h2 w
    by_cases h10 : u < 10
    · have c := rchr_any (48 + u) (by omega) w
      have hi : (u : Int) < 10 := by omega
      have HL : Hid (Lib.decDigits u = [UInt8.ofNat (48 + u)]) := Lib.decDigits_one h10
      rw [Int.natCast_add] at c
      clear ih
      go_enter Tryz.func122, Tryz.ntmps122
      go_wp2_with fail
      refine c.mono ?_
      rintro e w1 ⟨rfl, hb⟩
      go_wp2_with fail
      go_ret
      exact ⟨ret_str (by rw [HL.out, UInt8.ofNat_add]; rfl), hb⟩
    · have c1 := ih (u / 10) (by omega) (by omega) w
      have c2 := rchr_any (48 + u % 10) (by omega)
      have hlen := dec_len (u / 10) (by omega)
      obtain ⟨t, ht⟩ : ∃ t : ByteArray, t = ⟨(Lib.decDigits (u / 10)).toArray⟩ := ⟨_, rfl⟩
      rw [← ht] at c1
      have hts : t.size ≤ 21 := by rw [← size_list, ht]; exact hlen
      have HL : Hid (Lib.decDigits u = t.data.toList ++ [UInt8.ofNat (48 + u % 10)]) := by
        show Lib.decDigits u = _
        rw [Lib.decDigits, dif_neg h10, ht]
      have hi : ¬ (u : Int) < 10 := by omega
      have hmx : (u : Int) ≤ 9223372036854775807 := by omega
      rw [Int.natCast_ediv] at c1
      clear ih ht hlen
      go_enter Tryz.func122, Tryz.ntmps122
      go_wp2_with fail
      refine c1.mono ?_
      rintro e w1 ⟨rfl, hb1⟩
      have c3 := c2 w1
      rw [Int.natCast_add, Int.natCast_emod] at c3
      clear c2
      go_wp2_with fail
      refine c3.mono ?_
      rintro e w2 ⟨rfl, hb2⟩
      have HB : Hid (Below w.heap.size w w2) := hb1.trans (hb2.mono hb1.size)
      clear hb1 hb2 c3
      go_wp2_with fail
      go_ret
      exact ⟨ret_str (mk_data _ _ (by rw [app_list, HL.out, UInt8.ofNat_add]; rfl)), HB.out⟩
end Go.Proofs.YtigbjhkkbgdkcaaGreatDoor

/-
  What the calendar of the document's answers computes: leap, monthDays, yearDays, outside, Days and Civil, each a contract over the program's text.
-/
namespace Go.Proofs.YtigbjhkkbgdkcaaGreatDoor
open Go.RowKit

set_option maxHeartbeats 400000 in
theorem rleap_any (y : Int) (w : World) (h1 : 1970 ≤ y) (h2 : y ≤ 10000) :
    Calls Tryz.prog 121 #[.int .i64 y] w fun e w' => e = .returned (.bool (lpB y)) ∧ w' = w := by
  have h0 : 0 ≤ y := by omega
  by_cases c : y % 400 = 0
  · have HL : Hid (lpB y = true) := lpB_yes (by omega) (.inr c)
    go_enter Tryz.func121, Tryz.ntmps121
    go_wp2
    go_ret
    exact ⟨ret_bool (by rw [HL.out]), rfl⟩
  · have c' : (y % 400 == 0) = false := by rw [beq_eq_false_iff_ne]; exact c
    by_cases b : y % 100 = 0
    · have HL : Hid (lpB y = false) := lpB_no (by omega)
      go_enter Tryz.func121, Tryz.ntmps121
      go_wp2
      go_ret
      exact ⟨ret_bool (by rw [HL.out]), rfl⟩
    · have b' : (y % 100 == 0) = false := by rw [beq_eq_false_iff_ne]; exact b
      by_cases a : y % 4 = 0
      · have HL : Hid (lpB y = true) := lpB_yes a (.inl b)
        go_enter Tryz.func121, Tryz.ntmps121
        go_wp2
        go_ret
        exact ⟨ret_bool (by rw [HL.out]; simpa using b), rfl⟩
      · have HL : Hid (lpB y = false) := lpB_no (by omega)
        have a' : (y % 4 == 0) = false := by rw [beq_eq_false_iff_ne]; exact a
        go_enter Tryz.func121, Tryz.ntmps121
        go_wp2
        go_ret
        exact ⟨ret_bool (by rw [HL.out]), rfl⟩

theorem outside_no (n a b : Int) (w : World) (h1 : a ≤ n) (h2 : n ≤ b) :
    Calls Tryz.prog 99 #[.int .i64 n, .int .i64 a, .int .i64 b] w fun e w' => e = .returned (.bool false) ∧ w' = w := by
  go_enter Tryz.func99, Tryz.ntmps99
  go_wp2
  go_ret
  exact ⟨ret_bool (by simp; omega), rfl⟩
theorem outside_yes (n a b : Int) (w : World) (h : n < a ∨ b < n) :
    Calls Tryz.prog 99 #[.int .i64 n, .int .i64 a, .int .i64 b] w fun e w' => e = .returned (.bool true) ∧ w' = w := by
  by_cases h1 : n < a
  · clear h
    go_enter Tryz.func99, Tryz.ntmps99
    go_wp2
    go_ret
    exact ⟨rfl, rfl⟩
  · have h2 : b < n := by omega
    clear h
    go_enter Tryz.func99, Tryz.ntmps99
    go_wp2
    go_ret
    exact ⟨rfl, rfl⟩

def mcells (f : Int) : Array Value := #[.int .i64 31, .int .i64 f, .int .i64 31, .int .i64 30, .int .i64 31, .int .i64 30, .int .i64 31, .int .i64 31, .int .i64 30, .int .i64 31, .int .i64 30, .int .i64 31]
def MDays (y : Int) (b : Nat) (w : World) : Prop := ∀ i : Nat, i < 12 → w.cell? ⟨b, i, none⟩ = some (.int .i64 (dim y (i + 1)))

theorem mdays_of {y : Int} {b : Nat} {w : World} (h : w.heap[b]? = some (.cells (mcells (28 + lp y)) 3 (0, 0))) : MDays y b w := by
  intro i hi
  rw [Lib.cell_of_heap h]
  rcases (show i = 0 ∨ i = 1 ∨ i = 2 ∨ i = 3 ∨ i = 4 ∨ i = 5 ∨ i = 6 ∨ i = 7 ∨ i = 8 ∨ i = 9 ∨ i = 10 ∨ i = 11 by omega) with rfl | rfl | rfl | rfl | rfl | rfl | rfl | rfl | rfl | rfl | rfl | rfl <;> simp [mcells, dim]

set_option maxHeartbeats 1000000 in
theorem rmonth_any (y : Int) (w : World) (h1 : 1970 ≤ y) (h2 : y ≤ 10000) :
    Calls Tryz.prog 100 #[.int .i64 y] w fun e w' => e = .returned (.slice (some ⟨w.heap.size, 0, none⟩) 12 12) ∧ MDays y w.heap.size w' ∧ w'.heap.size = w.heap.size + 1 ∧ Below w.heap.size w w' := by
  cases hl : lpB y
  · have HL : Hid (lpB y = false) := hl
    have h0 : (w.alloc (.cells (mcells 28) 3)).heap[w.heap.size]? = some (.cells (mcells 28) 3 (0, 0)) := heap_alloc_new _ _
    have HM : Hid (MDays y w.heap.size (w.alloc (.cells (mcells 28) 3))) := mdays_of (by rw [lp_of_false hl]; exact h0)
    clear hl h0
    go_enter Tryz.func100, Tryz.ntmps100
    go_wp2_with fail
    refine (rleap_any _ _ h1 h2).mono ?_
    rintro e w' ⟨rfl, rfl⟩
    rw [HL.out]
    go_wp2_with fail
    go_ret
    exact ⟨rfl, HM.out, by simp, (Below.refl _ w).alloc (Nat.le_refl _) _⟩
  · have HL : Hid (lpB y = true) := hl
    have h9 : (w.alloc (.cells (mcells 29) 3)).heap[w.heap.size]? = some (.cells (mcells 29) 3 (0, 0)) := heap_alloc_new _ _
    have HM : Hid (MDays y w.heap.size (w.alloc (.cells (mcells 29) 3))) := mdays_of (by rw [lp_of_true hl]; exact h9)
    clear hl h9
    go_enter Tryz.func100, Tryz.ntmps100
    go_wp2_with fail
    refine (rleap_any _ _ h1 h2).mono ?_
    rintro e w' ⟨rfl, rfl⟩
    rw [HL.out]
    go_wp2_with fail
    go_ret
    exact ⟨rfl, HM.out, by simp, (Below.refl _ w).alloc (Nat.le_refl _) _⟩

set_option maxHeartbeats 1000000 in
theorem ryear_any (y : Int) (w : World) (h1 : 1970 ≤ y) (h2 : y ≤ 10000) :
    Calls Tryz.prog 101 #[.int .i64 y] w fun e w' => e = .returned (.int .i64 (dby y)) ∧ w' = w := by
  go_enter Tryz.func101, Tryz.ntmps101
  go_wp2_with fail
  go_loop [3, 4] (fun n i => ∃ k : Int, 1970 ≤ k ∧ k ≤ y ∧ i = .int .i64 k ∧ n = .int .i64 (dby k)) (fun _ i => (10000 - intOf i).toNat)
  case atStart => exact ⟨1970, by omega, by omega, rfl, rfl⟩
  case round =>
    obtain ⟨k, hk1, hk2, rfl, rfl⟩ := hrel
    have hb := dby_bd k hk1 (by omega)
    have HS : Hid (dby (k + 1) = dby k + 365 + lp k) := dby_succ k
    by_cases hlt : k < y
    · cases hl : lpB k
      · have HL : Hid (lpB k = false) := hl
        have HP : Hid (lp k = 0) := lp_of_false hl
        clear hl
        go_wp2_with fail
        refine (rleap_any _ _ hk1 (by omega)).mono ?_
        rintro e w' ⟨rfl, rfl⟩
        rw [HL.out]
        go_wp2_with fail
        go_round
        case rel => exact ⟨k + 1, by omega, by omega, rfl, by rw [HS.out, HP.out, Int.add_zero]⟩
        case measure => simp [intOf]; omega
      · have HL : Hid (lpB k = true) := hl
        have HP : Hid (lp k = 1) := lp_of_true hl
        clear hl
        go_wp2_with fail
        refine (rleap_any _ _ hk1 (by omega)).mono ?_
        rintro e w' ⟨rfl, rfl⟩
        rw [HL.out]
        go_wp2_with fail
        go_round
        case rel => exact ⟨k + 1, by omega, by omega, rfl, by rw [HS.out, HP.out]⟩
        case measure => simp [intOf]; omega
    · obtain rfl : k = y := by omega
      go_wp2_with fail
      go_ret
      exact ⟨rfl, rfl⟩
end Go.Proofs.YtigbjhkkbgdkcaaGreatDoor

/-
  What pad of the document's answers computes, a contract over the program's text.
-/
namespace Go.Proofs.YtigbjhkkbgdkcaaGreatDoor
open Go.RowKit

def szOf : Value → Nat | .string s => s.size | _ => 0

set_option maxHeartbeats 1000000 in
set_option maxRecDepth 100000 in
theorem pad2_any (x : Int) (h0 : 0 ≤ x) (h1 : x < 100) (w : World) :
    Calls Tryz.prog 103 #[.int .i64 x, .int .i64 2] w fun e w' => e = .returned (.string ⟨(dig2 x.toNat).toArray⟩) ∧ Below w.heap.size w w' := by
  obtain ⟨u, rfl⟩ := Int.eq_ofNat_of_zero_le h0
  have c := rdigits_any u u (Nat.le_refl _) (by omega) w
  obtain ⟨t, ht⟩ : ∃ t : ByteArray, t = ⟨(Lib.decDigits u).toArray⟩ := ⟨_, rfl⟩
  rw [← ht] at c
  have HL : Hid (t.data.toList = Lib.decDigits u) := by show t.data.toList = _; rw [ht]
  clear ht
  by_cases hu : u < 10
  · have hz : t.size = 1 := by rw [← size_list, HL.out, Lib.decDigits_one hu]; rfl
    go_enter Tryz.func103, Tryz.ntmps103
    go_wp2_with fail
    refine c.mono ?_
    rintro e w1 ⟨rfl, hb⟩
    have HB : Hid (Below w.heap.size w w1) := hb
    have HE : Hid ((⟨#[48]⟩ : ByteArray) ++ t = ⟨(dig2 u).toArray⟩) := mk_data _ _ (by rw [app_list, HL.out, ← dec_1 u hu])
    clear hb c
    go_wp2_with fail
    go_loop [5] (fun s => s = .string t ∨ s = .string ((⟨#[48]⟩ : ByteArray) ++ t)) (fun s => 2 - szOf s)
    case atStart => exact .inl rfl
    case round =>
      rcases hrel with rfl | rfl
      · go_wp2_with fail
        go_round
        case rel => exact .inr rfl
        case measure => simp [szOf, hz]; rfl
      · go_wp2_with fail
        go_ret
        exact ⟨ret_str HE.out, HB.out⟩
  · have hz : t.size = 2 := by rw [← size_list, HL.out, dec_2 u hu (by omega)]; rfl
    go_enter Tryz.func103, Tryz.ntmps103
    go_wp2_with fail
    refine c.mono ?_
    rintro e w1 ⟨rfl, hb⟩
    have HB : Hid (Below w.heap.size w w1) := hb
    have HE : Hid (t = ⟨(dig2 u).toArray⟩) := mk_data _ _ (by rw [HL.out, ← dec_2 u hu (by omega)])
    clear hb c
    go_wp2_with fail
    go_loop [5] (fun s => s = .string t) (fun _ => 0)
    case atStart => rfl
    case round =>
      obtain rfl := hrel
      go_wp2_with fail
      go_ret
      exact ⟨ret_str HE.out, HB.out⟩

set_option maxHeartbeats 1000000 in
set_option maxRecDepth 100000 in
theorem pad4_any (x : Int) (h0 : 1000 ≤ x) (h1 : x ≤ 9999) (w : World) :
    Calls Tryz.prog 103 #[.int .i64 x, .int .i64 4] w fun e w' => e = .returned (.string ⟨(dig4 x.toNat).toArray⟩) ∧ Below w.heap.size w w' := by
  obtain ⟨u, rfl⟩ := Int.eq_ofNat_of_zero_le (show 0 ≤ x by omega)
  have c := rdigits_any u u (Nat.le_refl _) (by omega) w
  obtain ⟨t, ht⟩ : ∃ t : ByteArray, t = ⟨(Lib.decDigits u).toArray⟩ := ⟨_, rfl⟩
  rw [← ht] at c
  have HE : Hid (t = ⟨(dig4 u).toArray⟩) := by show t = _; rw [ht, dec_4 u (by omega) (by omega)]
  have hz : t.size = 4 := by rw [← size_list, HE.out]; rfl
  clear ht
  go_enter Tryz.func103, Tryz.ntmps103
  go_wp2_with fail
  refine c.mono ?_
  rintro e w1 ⟨rfl, hb⟩
  have HB : Hid (Below w.heap.size w w1) := hb
  clear hb c
  go_wp2_with fail
  go_loop [5] (fun s => s = .string t) (fun _ => 0)
  case atStart => rfl
  case round =>
    obtain rfl := hrel
    go_wp2_with fail
    go_ret
    exact ⟨ret_str HE.out, HB.out⟩
end Go.Proofs.YtigbjhkkbgdkcaaGreatDoor

/-
  What Days and Civil of the document's answers compute, each a contract over the program's text.
-/
namespace Go.Proofs.YtigbjhkkbgdkcaaGreatDoor
open Go.RowKit

set_option maxHeartbeats 1000000 in
theorem rdays_no (y m d : Int) (w : World) (h : vldB y m d = false) :
    Calls Tryz.prog 68 #[.int .i64 y, .int .i64 m, .int .i64 d] w fun e w' => e = .returned (.tuple #[.int .i64 0, .int .i64 1]) ∧ Below w.heap.size w w' := by
  have hn : ¬ (1970 ≤ y ∧ y ≤ 9999 ∧ 1 ≤ m ∧ m ≤ 12 ∧ 1 ≤ d ∧ d ≤ dim y m) := fun g => by rw [vld_mk g] at h; cases h
  clear h
  by_cases b1 : y < 1970 ∨ 9999 < y
  · clear hn
    go_enter Tryz.func68, Tryz.ntmps68
    go_wp2_with fail
    refine (outside_yes _ _ _ _ b1).mono ?_
    rintro e w' ⟨rfl, rfl⟩
    go_wp2_with fail
    go_ret2
    exact ⟨rfl, Below.refl _ _⟩
  by_cases b2 : m < 1 ∨ 12 < m
  · clear hn
    go_enter Tryz.func68, Tryz.ntmps68
    go_wp2_with fail
    refine (outside_no _ _ _ _ (by omega) (by omega)).mono ?_
    rintro e w' ⟨rfl, rfl⟩
    go_wp2_with fail
    refine (outside_yes _ _ _ _ b2).mono ?_
    rintro e w' ⟨rfl, rfl⟩
    go_wp2_with fail
    go_ret2
    exact ⟨rfl, Below.refl _ _⟩
  have b3 : d < 1 ∨ dim y m < d := by omega
  have y1 : 1970 ≤ y := by omega
  have y2 : y ≤ 9999 := by omega
  obtain ⟨k, rfl⟩ : ∃ k : Nat, m = (k : Int) + 1 := ⟨(m - 1).toNat, by omega⟩
  have hk : k < 12 := by omega
  have B3 : Hid (d < 1 ∨ dim y (k + 1) < d) := b3
  clear hn b1 b2 b3
  go_enter Tryz.func68, Tryz.ntmps68
  go_wp2_with fail
  refine (outside_no _ _ _ _ y1 y2).mono ?_
  rintro e w' ⟨rfl, rfl⟩
  go_wp2_with fail
  refine (outside_no _ _ _ _ (by omega) (by omega)).mono ?_
  rintro e w' ⟨rfl, rfl⟩
  go_wp2_with fail
  refine (rmonth_any _ _ y1 (by omega)).mono ?_
  rintro e w2 ⟨rfl, hm, hz, hb⟩
  have hc := hm k hk
  clear hm
  go_wp2_with fail
  refine (outside_yes _ _ _ _ B3.out).mono ?_
  rintro e w' ⟨rfl, rfl⟩
  go_wp2_with fail
  go_ret2
  exact ⟨rfl, hb⟩

set_option maxHeartbeats 2000000 in
theorem rdays_yes (y m d : Int) (w : World) (h : vldB y m d = true) :
    Calls Tryz.prog 68 #[.int .i64 y, .int .i64 m, .int .i64 d] w fun e w' => e = .returned (.tuple #[.int .i64 (num y m d), .int .i64 0]) ∧ Below w.heap.size w w' := by
  obtain ⟨a1, a2, a3, a4, a5, a6⟩ := vld_iff.1 h
  have hdl := dim_lo y m
  have hbd := dby_bd y a1 (by omega)
  have HN : Hid (num y m d = dby y + cum y m + d - 1) := rfl
  clear h
  obtain ⟨k, rfl⟩ : ∃ k : Nat, m = (k : Int) + 1 := ⟨(m - 1).toNat, by omega⟩
  have hk : k < 12 := by omega
  have hd31 : d ≤ 31 := by omega
  have A6 : Hid (d ≤ dim y (k + 1)) := a6
  clear a6 hdl
  go_enter Tryz.func68, Tryz.ntmps68
  go_wp2_with fail
  refine (outside_no _ _ _ _ a1 a2).mono ?_
  rintro e w ⟨rfl, rfl⟩
  go_wp2_with fail
  refine (outside_no _ _ _ _ (by omega) (by omega)).mono ?_
  rintro e w ⟨rfl, rfl⟩
  go_wp2_with fail
  refine (rmonth_any _ _ a1 (by omega)).mono ?_
  rintro e w2 ⟨rfl, hm, hz, hb⟩
  have hc := hm k hk
  clear hm
  go_wp2_with fail
  refine (outside_no _ _ _ _ a5 A6.out).mono ?_
  rintro e w2 ⟨rfl, rfl⟩
  go_wp2_with fail
  refine (ryear_any _ _ a1 (by omega)).mono ?_
  rintro e w2 ⟨rfl, rfl⟩
  clear hc
  go_wp2_with fail
  refine (rmonth_any _ _ a1 (by omega)).mono ?_
  rintro e w3 ⟨rfl, hm3, hz3, hb3⟩
  have HM : Hid (MDays y (w.heap.size + 1) w3) := by rw [hz] at hm3; exact hm3
  have HB : Hid (Below w.heap.size w w3) := hb.trans (hb3.mono (by omega))
  clear hm3 hb3 hb
  go_wp2_with fail
  go_loop [8, 38] (fun n i => ∃ j : Nat, j ≤ k ∧ i = .int .i64 j ∧ n = .int .i64 (dby y + d - 1 + cum y (j + 1))) (fun _ i => k - (intOf i).toNat)
  case atStart => exact ⟨0, Nat.zero_le _, rfl, by rw [show ((0 : Nat) : Int) + 1 = 1 from rfl, cum_one, Int.add_zero]⟩
  case round =>
    obtain ⟨j, hj, rfl, rfl⟩ := hrel
    have cb := cum_bd y (j + 1)
    have db := dim_lo y (j + 1)
    have CS : Hid (cum y ((j : Int) + 1 + 1) = cum y (j + 1) + dim y (j + 1)) := cum_succ y (j + 1) (by omega) (by omega)
    by_cases hlt : j < k
    · have hc := HM.out j (by omega)
      go_wp2_with fail
      go_round
      case rel => exact ⟨j + 1, by omega, by go_num, by rw [show ((j + 1 : Nat) : Int) + 1 = (j : Int) + 1 + 1 from rfl, CS.out]; go_num⟩
      case measure => simp [intOf]; omega
    · obtain rfl : j = k := by omega
      go_wp2_with fail
      go_ret2
      exact ⟨ret_ie (by rw [HN.out]; omega) rfl, HB.out⟩

theorem rcivil_no (n : Int) (w : World) (h : n < 0 ∨ 2932896 < n) :
    Calls Tryz.prog 102 #[.int .i64 n] w fun e w' => e = .returned (.tuple #[.int .i64 0, .int .i64 0, .int .i64 0, .int .i64 1]) ∧ w' = w := by
  have H : Hid (n < 0 ∨ 2932896 < n) := h
  clear h
  go_enter Tryz.func102, Tryz.ntmps102
  go_wp2_with fail
  refine (outside_yes _ _ _ _ H.out).mono ?_
  rintro e w ⟨rfl, rfl⟩
  go_wp2_with fail
  exact bodyPost_ret (v := .tuple #[.int .i64 0, .int .i64 0, .int .i64 0, .int .i64 1]) (by simp [results, Tryz.results102, go_sem]) rfl ⟨rfl, rfl⟩

set_option maxHeartbeats 4000000 in
theorem rcivil_yes (n : Int) (w : World) (h1 : 0 ≤ n) (h2 : n ≤ 2932896) :
    Calls Tryz.prog 102 #[.int .i64 n] w fun e w' => ∃ y m d : Int, e = .returned (.tuple #[.int .i64 y, .int .i64 m, .int .i64 d, .int .i64 0]) ∧ vldB y m d = true ∧ num y m d = n ∧ Below w.heap.size w w' := by
  go_enter Tryz.func102, Tryz.ntmps102
  go_wp2_with fail
  refine (outside_no _ _ _ _ h1 h2).mono ?_
  rintro e w ⟨rfl, rfl⟩
  go_wp2_with fail
  go_loop [0, 6] (fun r t => ∃ y : Int, 1970 ≤ y ∧ y ≤ 9999 ∧ dby y ≤ n ∧ t = .int .i64 y ∧ r = .int .i64 (n - dby y)) (fun _ t => (9999 - intOf t).toNat)
  case atStart => exact ⟨1970, by omega, by omega, by rw [dby_0]; exact h1, rfl, by rw [dby_0, Int.sub_zero]⟩
  case round =>
    obtain ⟨y, hy1, hy2, hy3, rfl, rfl⟩ := hrel
    have hb := dby_bd y hy1 (by omega)
    have hl := lp_01 y
    have HS : Hid (dby (y + 1) = dby y + 365 + lp y) := dby_succ y
    have HMax : Hid (y = 9999 → dby (y + 1) = 2932897) := fun h => by rw [h]; exact dby_max
    by_cases hc : n - dby y < 365 + lp y
    · have HC : Hid (n < dby y + 365 + lp y) := by show n < dby y + 365 + lp y; omega
      cases hl : lpB y
      all_goals
        have HL : Hid (lpB y = _) := hl
        have hlt : if lpB y = true then n - dby y < 366 else n - dby y < 365 := by
          rw [hl]
          first
          | (have := lp_of_true hl; simp; omega)
          | (have := lp_of_false hl; simp; omega)
        rw [hl] at hlt
        simp only [if_true, if_false, Bool.false_eq_true] at hlt
        clear hl hc
        go_wp2_with fail
        refine (rleap_any _ _ hy1 (by omega)).mono ?_
        rintro e w ⟨rfl, rfl⟩
        rw [HL.out]
        go_wp2_with fail
        clear hlt HL
        go_loopw [0, 8] (fun r k wr => ∃ j : Nat, j < 12 ∧ k = .int .i64 j ∧ 0 ≤ n - dby y - cum y (j + 1) ∧ r = .int .i64 (n - dby y - cum y (j + 1)) ∧ Below w.heap.size w wr) (fun _ k _ => 12 - (intOf k).toNat)
        case atStart => exact ⟨0, by omega, rfl, by rw [show ((0 : Nat) : Int) + 1 = 1 from rfl, cum_one]; omega, by rw [show ((0 : Nat) : Int) + 1 = 1 from rfl, cum_one, Int.sub_zero], Below.refl _ _⟩
        case round =>
          obtain ⟨j, hj, rfl, hr, rfl, hw⟩ := hrel
          have hsz := hw.size
          have cb := cum_bd y (j + 1)
          have db := dim_lo y (j + 1)
          have CS : Hid (cum y ((j : Int) + 1 + 1) = cum y (j + 1) + dim y (j + 1)) := cum_succ y (j + 1) (by omega) (by omega)
          by_cases hc : dim y (j + 1) ≤ n - dby y - cum y (j + 1)
          · have hm : j < 11 := by
              by_cases hm : j < 11
              · exact hm
              · obtain rfl : j = 11 := by omega
                have e := CS.out
                have e' : cum y (((11 : Nat) : Int) + 1 + 1) = 365 + lp y := cum_13 y
                have := HC.out
                omega
            go_wp2_with fail
            refine (rmonth_any _ _ hy1 (by omega)).mono ?_
            rintro e w1 ⟨rfl, hm1, hz1, hb1⟩
            have hc1 := hm1 j hj
            clear hm1
            go_wp2_with fail
            refine (rmonth_any _ _ hy1 (by omega)).mono ?_
            rintro e w2 ⟨rfl, hm2, hz2, hb2⟩
            rw [hz1] at hm2
            have hc2 := hm2 j hj
            clear hm2 hc1
            have HW : Hid (Below w.heap.size w w2) := hw.trans ((hb1.mono hsz).trans (hb2.mono (by omega)))
            clear hb1 hb2
            go_wp2_with fail
            go_roundw
            case rel => exact ⟨j + 1, by omega, by go_num, by rw [show ((j + 1 : Nat) : Int) + 1 = (j : Int) + 1 + 1 from rfl, CS.out]; omega, by rw [show ((j + 1 : Nat) : Int) + 1 = (j : Int) + 1 + 1 from rfl, CS.out]; go_num, HW.out⟩
            case measure => simp [intOf]; omega
          · go_wp2_with fail
            refine (rmonth_any _ _ hy1 (by omega)).mono ?_
            rintro e w1 ⟨rfl, hm1, hz1, hb1⟩
            have hc1 := hm1 j hj
            clear hm1
            have HW : Hid (Below w.heap.size w w1) := hw.trans (hb1.mono hsz)
            clear hb1
            go_wp2_with fail
            exact bodyPost_ret (v := .tuple #[.int .i64 y, .int .i64 (j + 1), .int .i64 (n - dby y - cum y (j + 1) + 1), .int .i64 0]) (by simp [results, Tryz.results102, go_sem]) rfl ⟨y, _, _, rfl, vld_of n y (j + 1) hy1 hy2 (by omega) (by omega) hr (by omega), num_of n y (j + 1), HW.out⟩
    · have hlt : y < 9999 := by
        by_cases hlt : y < 9999
        · exact hlt
        · have e := HMax.out (by omega)
          have e' := HS.out
          omega
      cases hl : lpB y
      · have HL : Hid (lpB y = false) := hl
        have HP : Hid (lp y = 0) := lp_of_false hl
        have hge : ¬ n - dby y < 365 := by have := HP.out; omega
        clear hl hc
        go_wp2_with fail
        refine (rleap_any _ _ hy1 (by omega)).mono ?_
        rintro e w ⟨rfl, rfl⟩
        rw [HL.out]
        go_wp2_with fail
        go_round
        case rel => exact ⟨y + 1, by omega, by omega, by rw [HS.out, HP.out]; omega, rfl, by rw [HS.out, HP.out]; go_num⟩
        case measure => simp [intOf]; omega
      · have HL : Hid (lpB y = true) := hl
        have HP : Hid (lp y = 1) := lp_of_true hl
        have hge : ¬ n - dby y < 366 := by have := HP.out; omega
        clear hl hc
        go_wp2_with fail
        refine (rleap_any _ _ hy1 (by omega)).mono ?_
        rintro e w ⟨rfl, rfl⟩
        rw [HL.out]
        go_wp2_with fail
        go_round
        case rel => exact ⟨y + 1, by omega, by omega, by rw [HS.out, HP.out]; omega, rfl, by rw [HS.out, HP.out]; go_num⟩
        case measure => simp [intOf]; omega
end Go.Proofs.YtigbjhkkbgdkcaaGreatDoor

/-
  What DatePrint of the document's answers computes, a contract over the program's text.
-/
namespace Go.Proofs.YtigbjhkkbgdkcaaGreatDoor
open Go.RowKit

theorem ret_sr {a b : ByteArray} {c d : Int} (h : a = b) (h' : c = d) : Ending.returned (.tuple #[.string a, .int .i64 c]) = .returned (.tuple #[.string b, .int .i64 d]) := by rw [h, h']
theorem weekV (k : Nat) (h : k < 7) : ∀ hh, ([Value.string ⟨#[84, 104, 117]⟩, Value.string ⟨#[70, 114, 105]⟩, Value.string ⟨#[83, 97, 116]⟩, Value.string ⟨#[83, 117, 110]⟩, Value.string ⟨#[77, 111, 110]⟩, Value.string ⟨#[84, 117, 101]⟩, Value.string ⟨#[87, 101, 100]⟩] : List Value)[k]'hh = .string ⟨(weekS k).toArray⟩ := by
  intro hh
  rcases (show k = 0 ∨ k = 1 ∨ k = 2 ∨ k = 3 ∨ k = 4 ∨ k = 5 ∨ k = 6 by omega) with rfl | rfl | rfl | rfl | rfl | rfl | rfl <;> rfl
theorem monthV (k : Nat) (h : k < 12) : ∀ hh, ([Value.string ⟨#[74, 97, 110]⟩, Value.string ⟨#[70, 101, 98]⟩, Value.string ⟨#[77, 97, 114]⟩, Value.string ⟨#[65, 112, 114]⟩, Value.string ⟨#[77, 97, 121]⟩, Value.string ⟨#[74, 117, 110]⟩, Value.string ⟨#[74, 117, 108]⟩, Value.string ⟨#[65, 117, 103]⟩, Value.string ⟨#[83, 101, 112]⟩, Value.string ⟨#[79, 99, 116]⟩, Value.string ⟨#[78, 111, 118]⟩, Value.string ⟨#[68, 101, 99]⟩] : List Value)[k]'hh = .string ⟨(monthS k).toArray⟩ := by
  intro hh
  rcases (show k = 0 ∨ k = 1 ∨ k = 2 ∨ k = 3 ∨ k = 4 ∨ k = 5 ∨ k = 6 ∨ k = 7 ∨ k = 8 ∨ k = 9 ∨ k = 10 ∨ k = 11 by omega) with rfl | rfl | rfl | rfl | rfl | rfl | rfl | rfl | rfl | rfl | rfl | rfl <;> rfl

theorem rdprint_no (n : Int) (w : World) (h : n < 0 ∨ 253402300799 < n) :
    Calls Tryz.prog 69 #[.int .i64 n] w fun e w' => e = .returned (.tuple #[.string ⟨#[]⟩, .int .i64 1]) ∧ w' = w := by
  have H : Hid (n < 0 ∨ 253402300799 < n) := h
  clear h
  go_enter Tryz.func69, Tryz.ntmps69
  go_wp2_with fail
  refine (outside_yes _ _ _ _ H.out).mono ?_
  rintro e w ⟨rfl, rfl⟩
  go_wp2_with fail
  go_ret2
  exact ⟨rfl, rfl⟩

set_option maxHeartbeats 4000000 in
set_option maxRecDepth 100000 in
theorem rdprint_yes (n : Int) (w : World) (h1 : 0 ≤ n) (h2 : n ≤ 253402300799) :
    Calls Tryz.prog 69 #[.int .i64 n] w fun e w' => ∃ y m d : Int, e = .returned (.tuple #[.string ⟨(dtext n y m d).toArray⟩, .int .i64 0]) ∧ vldB y m d = true ∧ num y m d = n / 86400 ∧ Below w.heap.size w w' := by
  go_enter Tryz.func69, Tryz.ntmps69
  go_wp2_with fail
  refine (outside_no _ _ _ _ h1 h2).mono ?_
  rintro e w ⟨rfl, rfl⟩
  go_wp2_with fail
  refine (rcivil_yes _ _ (by omega) (by omega)).mono ?_
  rintro e w1 ⟨y, m, d, rfl, hv, hn, hb⟩
  have HV : Hid (vldB y m d = true) := hv
  have HN : Hid (num y m d = n / 86400) := hn
  have HB1 : Hid (Below w.heap.size w w1) := hb
  obtain ⟨a1, a2, a3, a4, a5, a6⟩ := vld_iff.1 hv
  have hdl := dim_lo y m
  have hd31 : d ≤ 31 := by omega
  clear hv hn a6 hdl hb
  obtain ⟨k, hk⟩ : ∃ k : Nat, n / 86400 % 7 = (k : Int) := ⟨(n / 86400 % 7).toNat, by omega⟩
  have hk7 : k < 7 := by omega
  obtain ⟨j, hj⟩ : ∃ j : Nat, m - 1 = (j : Int) := ⟨(m - 1).toNat, by omega⟩
  have hj12 : j < 12 := by omega
  have ew := weekV k hk7
  have em := monthV j hj12
  have hX : dtext n y m d = weekS k ++ [44, 32] ++ dig2 d.toNat ++ [32] ++ monthS j ++ [32] ++ dig4 y.toNat ++ [32]
    ++ dig2 (n / 3600 % 24).toNat ++ [58] ++ dig2 (n / 60 % 60).toNat ++ [58] ++ dig2 (n % 60).toNat ++ [32, 71, 77, 84] := by
    unfold dtext; rw [hk, hj, show n % 86400 / 3600 = n / 3600 % 24 by omega, show n % 3600 / 60 = n / 60 % 60 by omega]; rfl
  obtain ⟨a, ha⟩ : ∃ a : ByteArray, a = ⟨(weekS k).toArray⟩ := ⟨_, rfl⟩
  obtain ⟨b, hb⟩ : ∃ b : ByteArray, b = ⟨(monthS j).toArray⟩ := ⟨_, rfl⟩
  rw [← ha] at ew
  rw [← hb] at em
  have hza : a.size = 3 := by rw [← size_list, ha]; exact week_len k hk7
  have hzb : b.size = 3 := by rw [← size_list, hb]; exact month_len j hj12
  have LA : Hid (weekS k = a.data.toList) := by show weekS k = _; rw [ha]
  have LB : Hid (monthS j = b.data.toList) := by show monthS j = _; rw [hb]
  have HX : Hid (dtext n y m d = _) := hX
  clear ha hb hX
  go_wp2_with fail
  refine (pad2_any _ (by omega) (by omega) _).mono ?_
  rintro e w2 ⟨rfl, hb⟩
  have HB2 : Hid (Below w.heap.size w w2) := (((HB1.out.alloc HB1.out.size _).alloc (by simp; have := HB1.out.size; omega) _).trans (hb.mono (by simp; have := HB1.out.size; omega)))
  clear hb HB1
  obtain ⟨c1, hc⟩ : ∃ c : ByteArray, c = ⟨(dig2 d.toNat).toArray⟩ := ⟨_, rfl⟩
  rw [← hc]
  have hz1 : c1.size = 2 := by rw [hc]; rfl
  have L1 : Hid (dig2 d.toNat = c1.data.toList) := by show dig2 d.toNat = _; rw [hc]
  clear hc
  go_wp2_with fail
  refine (pad4_any _ (by omega) (by omega) _).mono ?_
  rintro e w3 ⟨rfl, hb⟩
  have HB3 : Hid (Below w.heap.size w w3) := HB2.out.trans (hb.mono HB2.out.size)
  clear hb HB2
  obtain ⟨c2, hc⟩ : ∃ c : ByteArray, c = ⟨(dig4 y.toNat).toArray⟩ := ⟨_, rfl⟩
  rw [← hc]
  have hz2 : c2.size = 4 := by rw [hc]; rfl
  have L2 : Hid (dig4 y.toNat = c2.data.toList) := by show dig4 y.toNat = _; rw [hc]
  clear hc
  go_wp2_with fail
  refine (pad2_any _ (by omega) (by omega) _).mono ?_
  rintro e w4 ⟨rfl, hb⟩
  have HB4 : Hid (Below w.heap.size w w4) := HB3.out.trans (hb.mono HB3.out.size)
  clear hb HB3
  obtain ⟨c3, hc⟩ : ∃ c : ByteArray, c = ⟨(dig2 (n / 3600 % 24).toNat).toArray⟩ := ⟨_, rfl⟩
  rw [← hc]
  have hz3 : c3.size = 2 := by rw [hc]; rfl
  have L3 : Hid (dig2 (n / 3600 % 24).toNat = c3.data.toList) := by show dig2 (n / 3600 % 24).toNat = _; rw [hc]
  clear hc
  go_wp2_with fail
  refine (pad2_any _ (by omega) (by omega) _).mono ?_
  rintro e w5 ⟨rfl, hb⟩
  have HB5 : Hid (Below w.heap.size w w5) := HB4.out.trans (hb.mono HB4.out.size)
  clear hb HB4
  obtain ⟨c4, hc⟩ : ∃ c : ByteArray, c = ⟨(dig2 (n / 60 % 60).toNat).toArray⟩ := ⟨_, rfl⟩
  rw [← hc]
  have hz4 : c4.size = 2 := by rw [hc]; rfl
  have L4 : Hid (dig2 (n / 60 % 60).toNat = c4.data.toList) := by show dig2 (n / 60 % 60).toNat = _; rw [hc]
  clear hc
  go_wp2_with fail
  refine (pad2_any _ (by omega) (by omega) _).mono ?_
  rintro e w6 ⟨rfl, hb⟩
  have HB6 : Hid (Below w.heap.size w w6) := HB5.out.trans (hb.mono HB5.out.size)
  clear hb HB5
  obtain ⟨c5, hc⟩ : ∃ c : ByteArray, c = ⟨(dig2 (n % 60).toNat).toArray⟩ := ⟨_, rfl⟩
  rw [← hc]
  have hz5 : c5.size = 2 := by rw [hc]; rfl
  have L5 : Hid (dig2 (n % 60).toNat = c5.data.toList) := by show dig2 (n % 60).toNat = _; rw [hc]
  clear hc
  go_wp2_with fail
  go_ret2
  refine ⟨y, m, d, ret_sr (mk_data _ _ ?_) rfl, HV.out, HN.out, HB6.out⟩
  rw [HX.out, LA.out, LB.out, L1.out, L2.out, L3.out, L4.out, L5.out]
  simp only [app_list]
end Go.Proofs.YtigbjhkkbgdkcaaGreatDoor
