/-
  The walk through BodyOne: it answers true and turns nothing that was there; what comes in is of bulk at most 1048576.
-/
import Derived.Test.YtofafonppajfkabDoorSpecOne
import Derived.Test.YtofafonppajfkabDoorWKindU
import Derived.Test.YtofafonppajfkabDoorWCopyF
import Derived.Test.YtofafonppajfkabDoorWRestP
import Derived.Test.YtofafonppajfkabDoorWRDg
namespace Go.Proofs.YtofafonppajfkabDoor
open Go.RowKit

theorem kindV_at (req : Bool) (m : ByteArray) (c : Int) (v : Value) (ls : List Fld) (x y z : Int) (h : kd req m.data.toList c ls = (x, y, z)) (w : World) (hf : Fl w v ls) (hl : bulkF ls ≤ 2000000) (hT : STabs w) :
    Calls Tryd.prog 12 #[.bool req, .string m, .int .i64 c, v] w fun e w' => e = .returned (.tuple #[.int .i64 x, .int .i64 y, .int .i64 z]) ∧ Below w.heap.size w w' := by
  refine kind_go req m c v ls x y z h w hf ⟨fun x hx => ?_, ?_⟩ (fun s => Nat.le_trans (Nat.le_trans (jn_bulk ls s) hl) (by decide)) hT
  · have := bulk_most ls x hx; omega
  · have := bulk_len ls; omega
theorem Fl.lit2 (w : World) (a b c d : ByteArray) : Fl (w.alloc (.cells #[.string a, .string b, .string c, .string d] 36)) (.slice (some ⟨w.heap.size, 0, none⟩) 2 2) [(a.data.toList, b.data.toList), (c.data.toList, d.data.toList)] := by
  have h := World.ownsRow_lit (base := w.heap.size) (e := 36) (size := 2) w #[.string a, .string b, .string c, .string d] 2 (Nat.le_refl _) (by unfold maxLen; omega) rfl
  exact Fl.own (B := w.heap.size) (e := 36) h

set_option maxHeartbeats 4000000 in
set_option maxRecDepth 100000 in
theorem walkBodyOne (a0 : Bool) (a1 : ByteArray) (a2 a3 : Int) (a4 : Value) (l4 : List Fld) (w : World) (_z1 : a1.size ≤ 1048576) (_z2 : (Lit.int .i64 a2).wf = true) (z3 : (Lit.int .i64 a3).wf = true) (z4 : Fl w a4 l4) (b4 : bulkF l4 ≤ 1048576) (q4 : Nilly a4) (ht : STabs w) :
    Calls Tryd.prog 4 #[.bool a0, .string a1, .int .i64 a2, .int .i64 a3, a4] w fun e w' => e = .returned (.bool true) ∧ Below w.heap.size w w' := by
  obtain ⟨i0, hi, hz0, hz1, hz2⟩ := info_parts infoF
  have HZ : Hid (Fl w a4 l4) := z4
  have HB : Hid (bulkF l4 ≤ 1048576) := b4
  have HQ : Hid (Nilly a4) := q4
  have HT : Hid (STabs w) := ht
  have hlen := bulk_len l4
  have hll : l4.length ≤ 349526 := by omega
  clear z4 q4 ht hlen b4
  have hb0 := (Below.refl w.heap.size w).alloc (Nat.le_refl _) (.cells #[.string ⟨#[84, 114, 97, 110, 115, 102, 101, 114, 45, 69, 110, 99, 111, 100, 105, 110, 103]⟩, .string ⟨#[99, 104, 117, 110, 107, 101, 100]⟩, .string ⟨#[99, 111, 110, 116, 101, 110, 116, 45, 108, 101, 110, 103, 116, 104]⟩, .string ⟨#[53]⟩] 36)
  have HF0 : Hid (Fl (w.alloc (.cells #[.string ⟨#[84, 114, 97, 110, 115, 102, 101, 114, 45, 69, 110, 99, 111, 100, 105, 110, 103]⟩, .string ⟨#[99, 104, 117, 110, 107, 101, 100]⟩, .string ⟨#[99, 111, 110, 116, 101, 110, 116, 45, 108, 101, 110, 103, 116, 104]⟩, .string ⟨#[53]⟩] 36)) (.slice (some ⟨w.heap.size, 0, none⟩) 2 2) bothF) := Fl.lit2 _ _ _ _ _
  go_enter Tryd.func4, Tryd.ntmps4
  go_wp2_with fail
  refine (kindV_at true _ 0 _ bothF 0 0 10 (kd_both true _ 0 []) _ HF0.out (by decide +kernel) (HT.out.below hb0)).mono ?_
  rintro e w1 ⟨rfl, hb1⟩
  have HF1 : Hid (Fl w1 (.slice (some ⟨w.heap.size, 0, none⟩) 2 2) bothF) := HF0.out.below hb1
  have hw1 := hb0.trans (hb1.mono hb0.size)
  clear hb0 hb1 HF0
  go_wp2_with fail
  refine (copy_any _ l4 _ (HZ.out.below hw1) HQ.out (by omega)).mono ?_
  rintro e w2 ⟨v2, rfl, hown2, hb2⟩
  have HF2 : Hid (Fl w2 (.slice (some ⟨w.heap.size, 0, none⟩) 2 2) bothF) := HF1.out.below hb2
  have hw2 := hw1.trans (hb2.mono hw1.size)
  have hsz1 := hw1.size
  have hsz2 := hb2.size
  clear hw1 hb2 HF1
  go_wp2_with (at_builtin; refine wpList_append_own _ rfl _ _ 34 rfl w1.heap.size 36 i0 (.agg #[.string ⟨#[]⟩, .string ⟨#[]⟩]) 2 32 Tryd.underlying34 hi hz0 hz1 hz2 rfl (by decide) _ _ _ rfl hown2 ⟨w.heap.size, 0, none⟩ 2 2 (flds bothF) rfl rfl ?c1 ?c2 ?c3 ?c4 ?c5 ?_)
  case c1 => exact HF2.out.cells
  case c2 => exact flds_one bothF
  case c3 => unfold maxLen; omega
  case c4 => omega
  case c5 => omega
  intro v3 w3 hown3 hgrow _
  have hw3 : Below w.heap.size w w3 := hw2.grown hgrow (by omega) (fun b hb => Nat.le_trans hsz1 (hown2.lt b hb).1)
  have HF3 : Hid (Fl w3 v3 (l4 ++ bothF)) := by
    apply Fl.own (B := w1.heap.size) (e := 36)
    rw [flds_app, List.length_append]; exact hown3
  have HB3 : Hid (bulkF (l4 ++ bothF) ≤ 2000000) := by
    show _ ≤ _
    rw [bulkF_app]; have := HB.out; have h2 : bulkF bothF ≤ 100 := by decide +kernel
    omega
  clear hown3 hgrow hown2 hw2
  cases hn : (!a0 && never a1.data.toList a2)
  · have HK : Hid (kd a0 a1.data.toList a2 (l4 ++ bothF) = (0, 0, 10)) := by show _ = _; rw [kd_both, hn]; rfl
    clear hn
    go_wp2_with fail
    refine (kindV_at a0 a1 a2 v3 _ 0 0 10 HK.out _ HF3.out HB3.out (HT.out.below hw3)).mono ?_
    rintro e w4 ⟨rfl, hb4⟩
    have hw4 := hw3.trans (hb4.mono hw3.size)
    clear hb4 hw3
    go_wp2_with fail
    refine (rest_pos a3 5000 (by omega) (by omega) z3 _).mono ?_
    rintro e w5 ⟨u, hu, rfl, rfl⟩
    go_wp2_with fail
    refine (rdigits_any 5000 u (by omega) (by omega) _).mono ?_
    rintro e w6 ⟨rfl, hb6⟩
    have hw6 := hw4.trans (hb6.mono hw4.size)
    clear hb6 hw4
    go_wp2_with fail
    have hw7 := hw6.alloc hw6.size (.cells #[.string ⟨#[67, 111, 110, 116, 101, 110, 116, 45, 76, 101, 110, 103, 116, 104]⟩, .string ⟨#[55]⟩, .string ⟨#[67, 111, 110, 116, 101, 110, 116, 45, 76, 101, 110, 103, 116, 104]⟩, .string ⟨(Lib.decDigits u).toArray⟩] 36)
    have hbk : bulkF (twoF u) ≤ 2000000 := by
      have h1 := (rdLn_bd _ (by rw [rd_dec u (by omega)])).2.2.2
      show _ + (_ + (_ + 0)) ≤ _
      have h2 : clN.length = 14 := rfl
      have h3 : ([55] : List UInt8).length = 1 := rfl
      simp only [h2, h3]
      omega
    by_cases h7 : u = 7
    · subst h7
      refine (kindV_at true a1 a2 _ (twoF 7) 2 7 0 (by rw [kd_two _ _ _ (by omega)]; rfl) _ (Fl.lit2 _ _ _ _ _) hbk (HT.out.below hw7)).mono ?_
      rintro e w8 ⟨rfl, hb8⟩
      have hw8 := hw7.trans (hb8.mono hw7.size)
      clear hb8 hw7
      go_wp2_with fail
      go_ret
      exact ⟨rfl, hw8⟩
    · have hn7 : ¬ (u : Int) = 7 := by omega
      refine (kindV_at true a1 a2 _ (twoF u) 0 0 10 (by rw [kd_two _ _ _ hu, if_neg h7]) _ (Fl.lit2 _ _ _ _ _) hbk (HT.out.below hw7)).mono ?_
      rintro e w8 ⟨rfl, hb8⟩
      have hw8 := hw7.trans (hb8.mono hw7.size)
      clear hb8 hw7 hbk
      go_wp2_with fail
      go_ret
      exact ⟨rfl, hw8⟩
  · have HK : Hid (kd a0 a1.data.toList a2 (l4 ++ bothF) = (1, 0, 0)) := by show _ = _; rw [kd_both, hn]; rfl
    have ha0 : a0 = false := by cases a0 <;> simp_all
    subst ha0
    have hnv : never a1.data.toList a2 = true := by simpa using hn
    have he : (a1.toList == [72, 69, 65, 68]) = (a1.data.toList == headM) := by rw [ByteArray.toList_eq]; rfl
    have hnv' : ((a1.toList == [72, 69, 65, 68]) || decide (a2 < 200) || (a2 == 204) || (a2 == 304)) = true := by
      rw [he, ← hnv]; unfold never
      rw [Bool.eq_iff_iff]; simp
    have HNV : Hid (((a1.toList == [72, 69, 65, 68]) || decide (a2 < 200) || (a2 == 204) || (a2 == 304)) = true) := hnv'
    clear hn hnv he hnv'
    go_wp2_with fail
    refine (kindV_at false a1 a2 v3 _ 1 0 0 HK.out _ HF3.out HB3.out (HT.out.below hw3)).mono ?_
    rintro e w4 ⟨rfl, hb4⟩
    have hw4 := hw3.trans (hb4.mono hw3.size)
    clear hb4 hw3
    go_wp2_with fail
    all_goals
      go_ret
      exact ⟨ret_bool (by first | rfl | exact HNV.out | (have := HNV.out; simp_all)), hw4⟩
end Go.Proofs.YtofafonppajfkabDoor
