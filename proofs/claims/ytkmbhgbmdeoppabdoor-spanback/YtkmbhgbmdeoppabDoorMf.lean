/-
  What strings.SplitSeq hands out, piece by piece, for a sign of one byte.
-/
import Derived.Test.YtkmbhgbmdeoppabDoorMe
import Derived.Test.YtkmbhgbmdeoppabDoorShelf
import Derived.Test.YtkmbhgbmdeoppabDoorRows
import Derived.Shelf.Abstract
import Derived.Shelf.RegionOpen
import Derived.WalkKit
import Derived.OwnWalkIn
import Derived.TacticsInMore
import Derived.LoopNIn
import Derived.LoopIn
import Derived.Deep.RegionHeld3
import Derived.RangeFuncNested
import Derived.Maps.AppendAt
import Derived.BigQuiet
import Derived.Deep.QuietTactic
import Derived.Lib.Replace
import Derived.Lib.ReplaceLaws
import Derived.Deep.SlicePairs
namespace Go.Proofs.YtkmbhgbmdeoppabDoor
open Go.RowKit Go.Shelf

attribute [local go_sem] Oper.semAt_some

def strLeft (W : World) (b : Nat) : Nat := match W.cell? ⟨b, 0, none⟩ with
  | some (.string r) => r.size
  | _ => 0
theorem strLeft_of {W : World} {b : Nat} {r : ByteArray} (h : W.cell? ⟨b, 0, none⟩ = some (.string r)) : strLeft W b = r.size := by unfold strLeft; rw [h]
/-- What SplitSeq answers: a function value over three variables of its own. -/
theorem splitSeq_at (s p : ByteArray) (w : World) :
    Calls Tryd.prog 28 #[.string s, .string p] w fun e w' => e = .returned (.func (.func 71) #[] #[.pointer (some ⟨w.heap.size + 1, 0, none⟩), .pointer (some ⟨w.heap.size, 0, none⟩), .pointer (some ⟨w.heap.size + 1 + 1, 0, none⟩)]) ∧
      w' = ((w.alloc (.cells #[.string s] 9)).alloc (.cells #[.string p] 9)).alloc (.cells #[.int .i64 0] 3) := by
  go_enter Tryd.func28, Tryd.ntmps28
  go_wp2
  go_ret
  exact ⟨rfl, rfl⟩
set_option maxRecDepth 100000 in
set_option maxHeartbeats 2000000 in
theorem split_iter (n : Nat) (l bs bp bz : Nat) (c : UInt8) (s : ByteArray) (All : List ByteArray) (hAll : (spl c s.data.toList).map tx = All) (J Jx : List ByteArray → World → Prop) (hsp : bs ≠ bp) (hsz : bs ≠ bz) (sJ : Spared bs J)
    (hY : ∀ pre x rest W1, All = pre ++ x :: rest → J pre W1 → YieldAt Fence.wide (n - 1) Tryd.prog l #[.string x] W1 fun e W' =>
      (e = .returned (.bool true) ∧ J (pre ++ [x]) W' ∧ KeepB [bs, bp, bz] W1 W') ∨ (e = .returned (.bool false) ∧ Jx (pre ++ [x]) W'))
    (W : World) (h1 : Boxed W bs 9 (.string s)) (h2 : Boxed W bp 9 (.string ⟨#[c]⟩)) (h3 : Boxed W bz 3 (.int .i64 0)) (h0 : J [] W) (hs : s.size ≤ maxLen) :
    CallsIn Fence.wide n Tryd.prog 71 #[.func (.yield l) #[] #[], .pointer (some ⟨bp, 0, none⟩), .pointer (some ⟨bs, 0, none⟩), .pointer (some ⟨bz, 0, none⟩)] W fun e W' => (∃ v, e = .returned v) ∧
      (J All W' ∨ ∃ pre rest, All = pre ++ rest ∧ Jx pre W') := by
  have c1 := h1.cell
  have c2 := h2.cell
  have c3 := h3.cell
  have HS : Hid (s.size ≤ maxLen) := hs
  have H1 : Hid (Boxed W bs 9 (.string s)) := h1
  have H2 : Hid (Boxed W bp 9 (.string ⟨#[c]⟩)) := h2
  have H3 : Hid (Boxed W bz 3 (.int .i64 0)) := h3
  have HA : Hid ((spl c s.data.toList).map tx = All) := hAll
  clear h1 h2 h3 hs hAll
  refine callsIn_of_wp Tryd.func71 rfl trivial ?_ rfl
  simp only [Tryd.ntmps71, List.size_toArray, List.length_cons, List.length_nil, Nat.reduceAdd, Nat.reduceSub, Array.replicate_succ, Array.replicate_zero, List.push_toArray, List.append_toArray, List.nil_append, List.cons_append]
  gi_wp2
  gi_loopw [7] (fun _ wr => ∃ (pre : List ByteArray) (r : ByteArray), All = pre ++ (spl c r.data.toList).map tx ∧ J pre wr ∧ Boxed wr bs 9 (.string r) ∧ Boxed wr bp 9 (.string ⟨#[c]⟩) ∧ Boxed wr bz 3 (.int .i64 0) ∧ r.size ≤ maxLen) (fun _ wr => strLeft wr bs)
  case atStart => exact ⟨[], s, HA.out.symm, h0, H1.out, H2.out, H3.out, HS.out⟩
  case round =>
    obtain ⟨pre, r, hx, hJ, b1, b2, b3, hr⟩ := hrel
    have HX : Hid (All = pre ++ (spl c r.data.toList).map tx) := hx
    have HJ : Hid (J pre wr) := hJ
    have HB1 : Hid (Boxed wr bs 9 (.string r)) := b1
    have HB2 : Hid (Boxed wr bp 9 (.string ⟨#[c]⟩)) := b2
    have HB3 : Hid (Boxed wr bz 3 (.int .i64 0)) := b3
    have HR : Hid (r.size ≤ maxLen) := hr
    have k1 := b1.cell
    have k2 := b2.cell
    have k3 := b3.cell
    have kf := b1.frozen
    have hl := strLeft_of k1
    have HL : Hid (strLeft wr bs = r.size) := hl
    unfold maxLen at hr
    clear hx hJ b1 b2 b3 hl
    rcases idx_one_is r.data.toList c with hi | ⟨i, hi, hil⟩
    · have HI : Hid (Lib.indexByte r.data.toList c = -1) := hi
      have hx2 : All = pre ++ r :: [] := by rw [HX.out, spl_miss c _ hi, List.map_cons, List.map_nil, tx_self]
      obtain ⟨fn, tmps, assign, body, hy, hR⟩ := hY pre r [] wr hx2 HJ.out
      have HX2 : Hid (All = pre ++ [r]) := hx2
      clear hi hx2
      gi_wp2_with fail
      refine ⟨trivial, (fun h => by cases h), ?_⟩
      refine (callsIn_wide.2 (Tryd.strings_Index_one r c _)).mono ?_
      rintro e w2 ⟨rfl, hw2⟩
      rw [HI.out, hw2]
      clear hw2 w2
      gi_wp2_with fail
      refine ⟨(fun h => by cases h), ?_⟩
      refine hR.mono ?_
      rintro e W3 (⟨rfl, hJ3, hk3⟩ | ⟨rfl, hJx3⟩)
      · rw [← HX2.out] at hJ3
        gi_wp2_with fail
        go_end0
        exact ⟨⟨_, rfl⟩, .inl hJ3⟩
      · gi_wp2_with fail
        go_end0
        exact ⟨⟨_, rfl⟩, .inr ⟨_, [], by rw [List.append_nil]; exact HX2.out, hJx3⟩⟩
    · have HI : Hid (Lib.indexByte r.data.toList c = i) := hi
      have hir : i < r.size := by rw [← size_list]; exact hil
      have e1 : tx (r.data.toList.take i) = r.extract 0 i := by
        rw [extract_seg]; simp [tx]
      have e2 : (r.extract (i + 1) r.size).data.toList = r.data.toList.drop (i + 1) := by
        rw [extract_seg]; simp only; rw [List.take_of_length_le (by rw [List.length_drop, size_list]; omega)]
      have hx2 : All = pre ++ r.extract 0 i :: (spl c (r.extract (i + 1) r.size).data.toList).map tx := by rw [HX.out, spl_hit c _ i hi, List.map_cons, e1, e2]
      obtain ⟨fn, tmps, assign, body, hy, hR⟩ := hY pre _ _ wr hx2 HJ.out
      have HX2 : Hid (All = pre ++ r.extract 0 i :: (spl c (r.extract (i + 1) r.size).data.toList).map tx) := hx2
      have HRS : Hid ((r.extract (i + 1) r.size).size ≤ maxLen ∧ (r.extract (i + 1) r.size).size < r.size) := by
        have : (r.extract (i + 1) r.size).size = r.size - (i + 1) := by simp
        have := HR.out
        exact ⟨by omega, by omega⟩
      have g1 : (0 : Int) ≤ (i : Int) := by omega
      have g2 : (i : Int) ≤ (r.size : Int) := by omega
      have g3 : (i : Int) + 1 ≤ (r.size : Int) := by omega
      have g4 : (0 : Int) ≤ (i : Int) + 1 := by omega
      clear hi hx2 e1 e2
      gi_wp2_with fail
      refine ⟨trivial, (fun h => by cases h), ?_⟩
      refine (callsIn_wide.2 (Tryd.strings_Index_one r c _)).mono ?_
      rintro e w2 ⟨rfl, hw2⟩
      rw [HI.out, hw2]
      clear hw2 w2
      gi_wp2_with fail
      refine ⟨(fun h => by cases h), ?_⟩
      refine hR.mono ?_
      rintro e W3 (⟨rfl, hJ3, hk3⟩ | ⟨rfl, hJx3⟩)
      · have B1 : Boxed W3 bs 9 (.string r) := (hk3 bs (by simp)).trans HB1.out
        have B2 : Boxed W3 bp 9 (.string ⟨#[c]⟩) := (hk3 bp (by simp)).trans HB2.out
        have B3 : Boxed W3 bz 3 (.int .i64 0) := (hk3 bz (by simp)).trans HB3.out
        have m1 := B1.cell
        have m2 := B2.cell
        have mf := B1.frozen
        have HN1 : Hid (Boxed (W3.setCell ⟨bs, 0, none⟩ (.string (r.extract (i + 1) r.size))) bs 9 (.string (r.extract (i + 1) r.size))) := B1.set _
        have HN2 : Hid (Boxed (W3.setCell ⟨bs, 0, none⟩ (.string (r.extract (i + 1) r.size))) bp 9 (.string ⟨#[c]⟩)) := B2.kept (grownBy_setCell' W3 bs _) (by simpa using Ne.symm hsp)
        have HN3 : Hid (Boxed (W3.setCell ⟨bs, 0, none⟩ (.string (r.extract (i + 1) r.size))) bz 3 (.int .i64 0)) := B3.kept (grownBy_setCell' W3 bs _) (by simpa using Ne.symm hsz)
        have HNJ : Hid (J (pre ++ [r.extract 0 i]) (W3.setCell ⟨bs, 0, none⟩ (.string (r.extract (i + 1) r.size)))) := sJ _ _ _ hJ3
        have HNL : Hid (strLeft (W3.setCell ⟨bs, 0, none⟩ (.string (r.extract (i + 1) r.size))) bs = (r.extract (i + 1) r.size).size) := strLeft_of HN1.out.cell
        clear hJ3 hk3 B1 B2 B3
        gi_wp2_with fail
        go_roundw
        case rel => exact ⟨_, _, by rw [List.append_assoc]; exact HX2.out, HNJ.out, HN1.out, HN2.out, HN3.out, HRS.out.1⟩
        case measure => rw [HNL.out, HL.out]; exact HRS.out.2
      · gi_wp2_with fail
        refine bodyPost_ret (results_none rfl _ _ _) rfl ?_
        exact ⟨⟨_, rfl⟩, .inr ⟨_, _, by rw [List.append_assoc]; exact HX2.out, hJx3⟩⟩
end Go.Proofs.YtkmbhgbmdeoppabDoor

/-
  What readWant of package span answers; the listed variables of package strconv hold what their text lays.
-/
namespace Go.Proofs.YtkmbhgbmdeoppabDoor
open Go.RowKit

theorem rdw_keep {w W w3 : World} {g r : Nat} {n u : Value} (h : W.cell? ⟨g, 0, none⟩ = some n ∧ W.cell? ⟨g, 1, none⟩ = some u ∧ W.cell? ⟨r, 0, none⟩ = some (.int .i64 0) ∧ W.cell? ⟨r, 1, none⟩ = some (.int .i64 0) ∧ W.frozen? ⟨r, 0, none⟩ = false ∧ W.frozen? ⟨r, 1, none⟩ = false ∧ g < W.heap.size ∧ r < W.heap.size ∧ Below w.heap.size w W) (hb : Below W.heap.size W w3) :
    w3.cell? ⟨g, 0, none⟩ = some n ∧ w3.cell? ⟨g, 1, none⟩ = some u ∧ w3.cell? ⟨r, 0, none⟩ = some (.int .i64 0) ∧ w3.cell? ⟨r, 1, none⟩ = some (.int .i64 0) ∧ w3.frozen? ⟨r, 0, none⟩ = false ∧ w3.frozen? ⟨r, 1, none⟩ = false ∧ g < w3.heap.size ∧ r < w3.heap.size ∧ Below w.heap.size w w3 := by
  obtain ⟨h1, h2, h3, h4, h5, h6, h7, h8, h9⟩ := h
  have hs := hb.size
  exact ⟨(hb.cell (p := ⟨g, 0, none⟩) h7).trans h1, (hb.cell (p := ⟨g, 1, none⟩) h7).trans h2, (hb.cell (p := ⟨r, 0, none⟩) h8).trans h3, (hb.cell (p := ⟨r, 1, none⟩) h8).trans h4, (hb.frozen (p := ⟨r, 0, none⟩) h8).trans h5, (hb.frozen (p := ⟨r, 1, none⟩) h8).trans h6, by omega, by omega, h9.trans (hb.mono h9.size)⟩
theorem rdw_start {w w3 : World} {r : Nat} (a b : Value) (t : TypeId) (h0 : w3.cell? ⟨r, 0, none⟩ = some (.int .i64 0)) (h1 : w3.cell? ⟨r, 1, none⟩ = some (.int .i64 0)) (f0 : w3.frozen? ⟨r, 0, none⟩ = false) (f1 : w3.frozen? ⟨r, 1, none⟩ = false) (hl : r < w3.heap.size) (hb : Below w.heap.size w w3) :
    (w3.alloc (.cells #[a, b] t)).drew.cell? ⟨w3.heap.size, 0, none⟩ = some a ∧ (w3.alloc (.cells #[a, b] t)).drew.cell? ⟨w3.heap.size, 1, none⟩ = some b ∧ (w3.alloc (.cells #[a, b] t)).drew.cell? ⟨r, 0, none⟩ = some (.int .i64 0) ∧ (w3.alloc (.cells #[a, b] t)).drew.cell? ⟨r, 1, none⟩ = some (.int .i64 0) ∧ (w3.alloc (.cells #[a, b] t)).drew.frozen? ⟨r, 0, none⟩ = false ∧ (w3.alloc (.cells #[a, b] t)).drew.frozen? ⟨r, 1, none⟩ = false ∧ w3.heap.size < (w3.alloc (.cells #[a, b] t)).drew.heap.size ∧ r < (w3.alloc (.cells #[a, b] t)).drew.heap.size ∧ Below w.heap.size w (w3.alloc (.cells #[a, b] t)).drew := by
  have hb2 : Below w3.heap.size w3 (w3.alloc (.cells #[a, b] t)).drew := (below_alloc w3 _).drew
  exact ⟨by simp, by simp, (hb2.cell (p := ⟨r, 0, none⟩) hl).trans h0, (hb2.cell (p := ⟨r, 1, none⟩) hl).trans h1, (hb2.frozen (p := ⟨r, 0, none⟩) hl).trans f0, (hb2.frozen (p := ⟨r, 1, none⟩) hl).trans f1, by simp, by simp; omega, hb.trans (hb2.mono hb.size)⟩
theorem swant_is (a b : Int) (k : Bool) (h : okW (a, b) = k) (w : World) :
    Calls Tryd.prog 47 #[.agg #[.int .i64 a, .int .i64 b]] w fun e w' => e = .returned (.bool k) ∧ Below w.heap.size w w' := by
  subst h; exact swant_any a b w
set_option maxHeartbeats 2000000 in
set_option maxRecDepth 100000 in
theorem srdw_at (s : ByteArray) (a b : Int) (h : rdW s.data.toList = (a, b)) (w : World) (hs : s.size ≤ 140737488351232) (hT : STabs w) :
    Calls Tryd.prog 29 #[.string s] w fun e w' => e = .returned (.tuple #[.agg #[.int .i64 a, .int .i64 b], .bool (okW (a, b) && decide (prW (a, b) = s.data.toList))]) ∧ Below w.heap.size w w' := by
  obtain ⟨x, y, f, hcut⟩ : ∃ (x y : ByteArray) (f : Bool), Lib.cut s.data.toList [45] = (x.data.toList, y.data.toList, f) := ⟨⟨(Lib.cut s.data.toList [45]).1.toArray⟩, ⟨(Lib.cut s.data.toList [45]).2.1.toArray⟩, (Lib.cut s.data.toList [45]).2.2, rfl⟩
  have hlen : x.size ≤ s.size ∧ y.size ≤ s.size := by
    have hl : (Lib.cut s.data.toList [45]).1.length ≤ s.data.toList.length ∧ (Lib.cut s.data.toList [45]).2.1.length ≤ s.data.toList.length := by
      unfold Lib.cut
      split
      · simp only [List.length_take, List.length_drop]; omega
      · simp
    rw [hcut] at hl
    simp only [size_list] at hl
    exact hl
  have HCUT : Hid (Lib.cut s.data.toList [45] = (x.data.toList, y.data.toList, f)) := hcut
  have HX : Hid (nmb x.data.toList = a) := by have := congrArg Prod.fst h; unfold rdW at this; rw [hcut] at this; exact this
  have HY : Hid (nmb y.data.toList = b) := by have := congrArg Prod.snd h; unfold rdW at this; rw [hcut] at this; exact this
  have HT : Hid (STabs w) := hT
  have HS : Hid (s.size ≤ maxLen) := by show _ ≤ _; unfold maxLen; omega
  obtain ⟨hx, hy⟩ := hlen
  have hxs : x.size ≤ 140737488351232 := by omega
  have hys : y.size ≤ 140737488351232 := by omega
  obtain ⟨k, hk⟩ : ∃ k, okW (a, b) = k := ⟨_, rfl⟩
  have HK : Hid (okW (a, b) = k) := hk
  rw [hk]
  clear hcut h hT hk hx hy
  cases k
  · go_enter Tryd.func29, Tryd.ntmps29
    go_wp2_with fail
    refine (scut1_at s x y 45 f HCUT.out _ HS.out).mono ?_
    rintro e w1 ⟨rfl, nq, hw1⟩
    have hb1 : Below (w.alloc (.cells #[.int .i64 0, .int .i64 0] 40)).heap.size (w.alloc (.cells #[.int .i64 0, .int .i64 0] 40)) w1 := by rw [hw1]; exact drewN_below _ _ _
    clear hw1
    have HT1 : Hid (STabs w1) := HT.out.below (below_new hb1)
    go_wp2_with fail
    refine (snum_at x a HX.out _ hxs HT1.out).mono ?_
    rintro e w2 ⟨rfl, hb2⟩
    have HT2 : Hid (STabs w2) := HT1.out.below hb2
    go_wp2_with fail
    refine (snum_at y b HY.out _ hys HT2.out).mono ?_
    rintro e w3 ⟨rfl, hb3⟩
    obtain ⟨r0, r1, rf, rlt, rb⟩ := two_cells (hb1.trans ((hb2.trans (hb3.mono hb2.size)).mono hb1.size))
    have hrf0 := rf 0
    have hrf1 := rf 1
    have hne1 : ¬ w3.heap.size = w.heap.size := by omega
    have hne2 : ¬ w.heap.size = w3.heap.size := by omega
    clear hb1 hb2 hb3 rf
    go_wp2_with fail
    refine wp_region_noPanic ?_
    refine wp_region_held_drew (S := fun w' => w'.cell? ⟨w3.heap.size, 0, none⟩ = some (.int .i64 a) ∧ w'.cell? ⟨w3.heap.size, 1, none⟩ = some (.int .i64 b)) (by kernel_rfl) ?_ (fun hHeld => ?_)
    · go_keep
    refine wpAnyH_take (i := 0) (v := (.agg #[.int .i64 a, .int .i64 b])) rfl (by kernel_rfl) (by kernel_rfl) (by kernel_rfl) (fun _ _ _ h => h) (Or.inl ⟨by rfl, ?_⟩) (by assumption) ?_
    · intro w' hSw; (try dsimp only at hSw); obtain ⟨hs0, hs1⟩ := hSw; go_simp; try with_reducible rfl
    try simp only [Act.put]
    refine wpAnyH_take (i := 1) (v := (.agg #[.int .i64 a, .int .i64 b])) rfl (by kernel_rfl) (by kernel_rfl) (by kernel_rfl) (fun _ _ _ h => h) (Or.inl ⟨by rfl, ?_⟩) (by assumption) ?_
    · intro w' hSw; (try dsimp only at hSw); obtain ⟨hs0, hs1⟩ := hSw; go_simp; try with_reducible rfl
    try simp only [Act.put]
    refine wpAnyH_ready (rs := [2]) (by kernel_rfl) (by simp) ?_
    refine AllReadyH.cons rfl (fun K hK => ?_) AllReadyH.nil
    go_simp
    refine (swant_is a b false HK.out _).mono ?_
    rintro e w4 ⟨rfl, hb⟩
    obtain ⟨q0, q1, q2, q3, q4, q5, q6, q7, q8⟩ := rdw_keep (rdw_start (.int .i64 a) (.int .i64 b) _ r0 r1 hrf0 hrf1 rlt rb) hb
    refine hK.out _ _ ⟨q0, q1⟩ (fun hHeld => ?_)
    clear hK K
    try simp only [Act.put]
    refine wpAnyH_take (i := 3) (v := (.bool false)) rfl (by kernel_rfl) (by kernel_rfl) (by kernel_rfl) (fun _ _ _ h => h) (Or.inl ⟨by rfl, ?_⟩) (by assumption) ?_
    · intro w' hSw; (try dsimp only at hSw); go_simp; try with_reducible rfl
    try simp only [Act.put]
    refine wpAnyH_take (i := 4) rfl (by kernel_rfl) (by kernel_rfl) (by kernel_rfl) (fun _ _ _ h => h) (Or.inr ⟨by rfl, rfl⟩) (by assumption) ?_
    try simp only [Act.put]
    refine wpAnyH_take (i := 5) rfl (by kernel_rfl) (by kernel_rfl) (by kernel_rfl) (fun _ _ _ h => h) (Or.inr ⟨by rfl, rfl⟩) (by assumption) ?_
    try simp only [Act.put]
    refine wpAnyH_take (i := 6) rfl (by kernel_rfl) (by kernel_rfl) (by kernel_rfl) (fun _ _ _ h => h) (Or.inr ⟨by rfl, rfl⟩) (by assumption) ?_
    try simp only [Act.put]
    refine wpAnyH_take (i := 7) rfl (by kernel_rfl) (by kernel_rfl) (by kernel_rfl) (fun _ _ _ h => h) (Or.inr ⟨by rfl, rfl⟩) (by assumption) ?_
    try simp only [Act.put]
    refine wpAnyH_take (i := 8) (v := (.bool false)) rfl (by kernel_rfl) (by kernel_rfl) (by kernel_rfl) (fun _ _ _ h => h) (Or.inl ⟨by rfl, ?_⟩) (by assumption) ?_
    · intro w' hSw; (try dsimp only at hSw); go_simp; try with_reducible rfl
    try simp only [Act.put]
    refine wpAnyH_ready (rs := [9]) (by kernel_rfl) (by simp) ?_
    refine AllReadyH.cons rfl (fun K hK => ?_) AllReadyH.nil
    go_simp
    obtain ⟨c0, c1⟩ := two_set (.int .i64 a) (.int .i64 b) q2 q3
    have p0 : ((w4.setCell ⟨w.heap.size, 0, none⟩ (.int .i64 a)).setCell ⟨w.heap.size, 1, none⟩ (.int .i64 b)).cell? ⟨w3.heap.size, 0, none⟩ = some (.int .i64 a) := by rw [World.cell?_setCell_far _ _ _ _ (by simpa using hne2), World.cell?_setCell_far _ _ _ _ (by simpa using hne2)]; exact q0
    have p1 : ((w4.setCell ⟨w.heap.size, 0, none⟩ (.int .i64 a)).setCell ⟨w.heap.size, 1, none⟩ (.int .i64 b)).cell? ⟨w3.heap.size, 1, none⟩ = some (.int .i64 b) := by rw [World.cell?_setCell_far _ _ _ _ (by simpa using hne2), World.cell?_setCell_far _ _ _ _ (by simpa using hne2)]; exact q1
    have HB5 : Hid (Below w.heap.size w ((w4.setCell ⟨w.heap.size, 0, none⟩ (.int .i64 a)).setCell ⟨w.heap.size, 1, none⟩ (.int .i64 b))) := (q8.setCell (p := ⟨w.heap.size, 0, none⟩) (Nat.le_refl _) _).setCell (p := ⟨w.heap.size, 1, none⟩) (Nat.le_refl _) _
    generalize (w4.setCell ⟨w.heap.size, 0, none⟩ (.int .i64 a)).setCell ⟨w.heap.size, 1, none⟩ (.int .i64 b) = w5 at c0 c1 p0 p1 HB5 ⊢
    refine hK.out _ _ ⟨p0, p1⟩ (fun hHeld => ?_)
    clear hK K q0 q1 q2 q3 q4 q5 q6 q7 q8 hb
    refine wpAnyH_take (i := 10) (v := (.bool false)) rfl (by kernel_rfl) (by kernel_rfl) (by kernel_rfl) (fun _ _ _ h => h) (Or.inl ⟨by rfl, ?_⟩) (by assumption) ?_
    · intro w' hSw; (try dsimp only at hSw); go_simp; try with_reducible rfl
    dsimp [Act.put]
    refine wpAnyH_done (by kernel_rfl) ?_ _
    refine NoPanic.normal ?_
    clear hHeld p0 p1
    go_wp2_with fail
    refine bodyPost_ret (by simp [results, Tryd.results29, go_sem, c0, c1]; try rfl) rfl ?_
    exact ⟨rfl, HB5.out⟩
  · obtain ⟨t, ht⟩ : ∃ t : ByteArray, t.data.toList = prW (a, b) := ⟨⟨(prW (a, b)).toArray⟩, rfl⟩
    have HTT : Hid (t.data.toList = prW (a, b)) := ht
    have HPOW : Hid (∀ W : World, Below w.heap.size w W → PowT W) := fun W hb => (show PowT w from HT.out.pow).below hb
    obtain ⟨r, hr⟩ : ∃ r, decide (prW (a, b) = s.data.toList) = r := ⟨_, rfl⟩
    have hre : (t.toList == s.toList) = r := by
      rw [← hr, ← ht, ByteArray.toList_eq, ByteArray.toList_eq, Bool.eq_iff_iff]; simp
    rw [hr]
    clear ht hr
    go_enter Tryd.func29, Tryd.ntmps29
    go_wp2_with fail
    refine (scut1_at s x y 45 f HCUT.out _ HS.out).mono ?_
    rintro e w1 ⟨rfl, nq, hw1⟩
    have hb1 : Below (w.alloc (.cells #[.int .i64 0, .int .i64 0] 40)).heap.size (w.alloc (.cells #[.int .i64 0, .int .i64 0] 40)) w1 := by rw [hw1]; exact drewN_below _ _ _
    clear hw1
    have HT1 : Hid (STabs w1) := HT.out.below (below_new hb1)
    go_wp2_with fail
    refine (snum_at x a HX.out _ hxs HT1.out).mono ?_
    rintro e w2 ⟨rfl, hb2⟩
    have HT2 : Hid (STabs w2) := HT1.out.below hb2
    go_wp2_with fail
    refine (snum_at y b HY.out _ hys HT2.out).mono ?_
    rintro e w3 ⟨rfl, hb3⟩
    obtain ⟨r0, r1, rf, rlt, rb⟩ := two_cells (hb1.trans ((hb2.trans (hb3.mono hb2.size)).mono hb1.size))
    have hrf0 := rf 0
    have hrf1 := rf 1
    have hne1 : ¬ w3.heap.size = w.heap.size := by omega
    have hne2 : ¬ w.heap.size = w3.heap.size := by omega
    clear hb1 hb2 hb3 rf
    go_wp2_with fail
    go_region_held3 (fun w' => w'.cell? ⟨w3.heap.size, 0, none⟩ = some (.int .i64 a) ∧ w'.cell? ⟨w3.heap.size, 1, none⟩ = some (.int .i64 b)) (go_keep) (first | (go_at_call 47; refine (swant_is a b true HK.out _).mono ?_; rintro e w4 ⟨rfl, hb⟩; have hx := rdw_keep (rdw_start (.int .i64 a) (.int .i64 b) _ r0 r1 hrf0 hrf1 rlt rb) hb) | (go_at_call 25; refine (spwant_at a b HK.out t HTT.out _ (HPOW.out _ hx.2.2.2.2.2.2.2.2)).mono ?_; rintro e w5 ⟨rfl, hb2⟩; have hy := rdw_keep hx hb2))
    obtain ⟨_, _, q2, q3, _, _, _, _, q8⟩ := hy
    obtain ⟨c0, c1⟩ := two_set (.int .i64 a) (.int .i64 b) q2 q3
    have HB5 : Hid (Below w.heap.size w ((w5.setCell ⟨w.heap.size, 0, none⟩ (.int .i64 a)).setCell ⟨w.heap.size, 1, none⟩ (.int .i64 b))) := (q8.setCell (p := ⟨w.heap.size, 0, none⟩) (Nat.le_refl _) _).setCell (p := ⟨w.heap.size, 1, none⟩) (Nat.le_refl _) _
    generalize (w5.setCell ⟨w.heap.size, 0, none⟩ (.int .i64 a)).setCell ⟨w.heap.size, 1, none⟩ (.int .i64 b) = w6 at c0 c1 HB5 ⊢
    clear hx hb hb2
    go_wp2_with fail
    refine bodyPost_ret (by simp [results, Tryd.results29, go_sem, c0, c1]; try rfl) rfl ?_
    exact ⟨rfl, HB5.out⟩
end Go.Proofs.YtkmbhgbmdeoppabDoor

/-
  What Trim of package token answers; a text is no longer than Go allows.
-/
namespace Go.Proofs.YtkmbhgbmdeoppabDoor
open Go.RowKit

set_option maxRecDepth 100000 in
theorem strim_at (s t : ByteArray) (ht : t.data.toList = trimL s.data.toList) (w : World) (hs : s.size ≤ 9223372036854775807) :
    Calls Tryd.prog 30 #[.string s] w fun e w' => e = .returned (.string t) ∧ Below w.heap.size w w' := by
  have HT : Hid (t.data.toList = trimL s.data.toList) := ht
  clear ht
  go_enter Tryd.func30, Tryd.ntmps30
  go_wp2_with fail
  refine (Tryd.strings_Trim_set s ⟨#[32, 9]⟩ _ (by omega) (by decide) (ascii_of_all (by decide))).mono ?_
  rintro e w1 ⟨rfl, hb⟩
  go_wp2_with fail
  go_ret
  refine ⟨ret_str ?_, hb⟩
  apply ByteArray.ext
  apply Array.ext'
  rw [HT.out]
  rfl
end Go.Proofs.YtkmbhgbmdeoppabDoor

/-
  What the program's table tells of a want's type.
-/
namespace Go.Proofs.YtkmbhgbmdeoppabDoor
open Go.RowKit

theorem infoWn : (Tryd.prog.info? 40).map (fun i => (i.zero, i.size, i.bytes)) = some (some (.agg #[.int .i64 0, .int .i64 0]), 2, 16) := by kernel_rfl
end Go.Proofs.YtkmbhgbmdeoppabDoor

/-
  What is kept of the wants that were read, piece by piece: no more than one too many; no program is named here.
-/
namespace Go.Proofs.YtkmbhgbmdeoppabDoor
open Go.RowKit

def trm (x : ByteArray) : List UInt8 := trimL x.data.toList
def kp (pre : List ByteArray) : List Wn := ((wnE (pre.map trm)).getD []).take 21
theorem kp_nil : kp [] = [] := rfl
theorem kp_len (pre : List ByteArray) : (kp pre).length ≤ 21 := List.length_take_le _ _
theorem kp_step (pre : List ByteArray) (x : ByteArray) : wnE ((pre ++ [x]).map trm) = wstep (wnE (pre.map trm)) (trm x) := by
  rw [List.map_append, List.map_cons, List.map_nil, wn_snoc]
theorem kp_more {pre : List ByteArray} {x : ByteArray} {ws : List Wn} {a : Wn} (h : wnE (pre.map trm) = some ws) (hp : paW (trm x) = some a) :
    wnE ((pre ++ [x]).map trm) = some (ws ++ [a]) ∧ ((kp pre).length ≤ 20 → kp (pre ++ [x]) = kp pre ++ [a]) ∧ (20 < (kp pre).length → kp (pre ++ [x]) = kp pre) := by
  have e : wnE ((pre ++ [x]).map trm) = some (ws ++ [a]) := by rw [kp_step, h]; simp only [wstep, hp]
  refine ⟨e, fun hl => ?_, fun hl => ?_⟩
  · unfold kp at hl ⊢
    rw [h, Option.getD_some] at hl ⊢
    rw [e, Option.getD_some]
    rw [List.length_take] at hl
    rw [List.take_of_length_le (by simp; omega), List.take_of_length_le (by omega)]
  · unfold kp at hl ⊢
    rw [h, Option.getD_some] at hl ⊢
    rw [e, Option.getD_some]
    rw [List.length_take] at hl
    rw [List.take_append_of_le_length (by omega)]
theorem kp_dead {pre : List ByteArray} {x : ByteArray} (hp : paW (trm x) = none) : wnE ((pre ++ [x]).map trm) = none := by
  rw [kp_step]
  cases h : wnE (pre.map trm) with
  | none => rfl
  | some ws => simp only [wstep, hp]
theorem tx_trm (P : List (List UInt8)) : (P.map tx).map trm = P.map trimL := by
  rw [List.map_map]; rfl
theorem pa_no {s : List UInt8} {r : List UInt8} (h : cutPre s bytesB = (r, false)) : paSp s = ([], 3) := by
  unfold cutPre at h
  unfold paSp
  rw [if_pos (Prod.mk.inj h).2]
theorem pa_pre {s : List UInt8} {r : List UInt8} (h : cutPre s bytesB = (r, true)) : Lib.hasPrefix s bytesB = true ∧ s.drop 6 = r := by
  unfold cutPre Lib.trimPrefix at h
  obtain ⟨h1, h2⟩ := Prod.mk.inj h
  refine ⟨h2, ?_⟩
  rw [if_pos h2] at h1
  exact h1
theorem pa_done {s r : List UInt8} {All : List ByteArray} {ws : List Wn} (h : cutPre s bytesB = (r, true)) (hA : (spl 44 r).map tx = All) (hw : wnE (All.map trm) = some ws) :
    (20 < (kp All).length → paSp s = ([], 2)) ∧ (¬ 20 < (kp All).length → paSp s = (kp All, 0)) := by
  obtain ⟨h1, h2⟩ := pa_pre h
  have e : wnE ((spl 44 (s.drop 6)).map trimL) = some ws := by rw [h2, ← tx_trm, hA, hw]
  have ek : kp All = ws.take 21 := by unfold kp; rw [hw]; rfl
  have hlen : (kp All).length = min 21 ws.length := by rw [ek, List.length_take]
  refine ⟨fun hl => ?_, fun hl => ?_⟩
  · unfold paSp
    rw [if_neg (by rw [h1]; simp), e]
    dsimp only
    rw [if_pos (by omega)]
  · unfold paSp
    rw [if_neg (by rw [h1]; simp), e]
    dsimp only
    rw [if_neg (by omega), ek, List.take_of_length_le (by omega)]
theorem pa_dead {s r : List UInt8} {All pre rest : List ByteArray} (h : cutPre s bytesB = (r, true)) (hA : (spl 44 r).map tx = All) (hx : All = pre ++ rest) (hw : wnE (pre.map trm) = none) : paSp s = ([], 3) := by
  obtain ⟨h1, h2⟩ := pa_pre h
  have e : wnE ((spl 44 (s.drop 6)).map trimL) = none := by
    rw [h2, ← tx_trm, hA, hx, List.map_append]
    unfold wnE at hw ⊢
    rw [List.foldl_append, hw, wstep_dead]
  unfold paSp
  rw [if_neg (by rw [h1]; simp), e]
theorem spl_len (d : UInt8) (l : List UInt8) : ∀ p ∈ spl d l, p.length ≤ l.length := by
  induction l with
  | nil => intro p hp; simp [spl] at hp; subst hp; simp
  | cons c r ih =>
    intro p hp
    rw [spl] at hp
    split at hp
    · rcases List.mem_cons.1 hp with rfl | hp
      · simp
      · have := ih p hp; simp; omega
    · split at hp
      · simp at hp; subst hp; simp
      · rename_i x xs hx
        rcases List.mem_cons.1 hp with rfl | hp
        · have := ih x (by rw [hx]; simp); simp; omega
        · have := ih p (by rw [hx]; simp [hp]); simp; omega
theorem all_size {r : ByteArray} {All pre rest : List ByteArray} {x : ByteArray} (hA : (spl 44 r.data.toList).map tx = All) (hx : All = pre ++ x :: rest) : x.size ≤ r.size := by
  have hm : x ∈ (spl 44 r.data.toList).map tx := by rw [hA, hx]; simp
  obtain ⟨p, hp, rfl⟩ := List.mem_map.1 hm
  have := spl_len 44 _ p hp
  rw [size_list] at this
  rw [← size_list, tx_list]; exact this
end Go.Proofs.YtkmbhgbmdeoppabDoor

/-
  What Parse of package span answers; a text is no longer than the claim allows; the listed variables of package strconv hold what their text lays.
-/
namespace Go.Proofs.YtkmbhgbmdeoppabDoor
open Go.RowKit Go.Shelf

attribute [local go_sem] Oper.semAt_some

/-- Between two rounds. -/
structure PI (H : Nat) (w : World) (pre : List ByteArray) (W : World) : Prop where
  wants : ∃ v, Boxed W (H + 2) 32 v ∧ W.ownsRow H 40 2 v (kp pre).length (wns (kp pre)) ∧ True
  sbox : ∃ u, Boxed W (H + 3) 9 u
  pbox : Boxed W (H + 4) 9 (.string ⟨#[44]⟩)
  zbox : Boxed W (H + 5) 3 (.int .i64 0)
  res0 : Boxed W H 32 (.slice none 0 0)
  res1 : Boxed W (H + 1) 24 (.int .i64 0)
  okk : ∃ ws, wnE (pre.map trm) = some ws
  bel : Below H w W
/-- A round has left. -/
structure PX (H : Nat) (w : World) (c : Code) (pre : List ByteArray) (W : World) : Prop where
  ret : c = .ret
  dead : wnE (pre.map trm) = none
  res0 : Boxed W H 32 (.slice none 0 0)
  res1 : Boxed W (H + 1) 24 (.int .i64 3)
  bel : Below H w W
theorem PI.own (H B : Nat) (w : World) (hH : H ≤ w.heap.size) (hB : H ≤ B) : OwnFrom B (PI H w) := by
  intro pre W W' row h hg hr
  have hr2 : ∀ r, row = some r → ∃ o : Obj, W.heap[r]? = some o ∧ o.isCells = false := fun r e => (hr r e).2
  have bx : ∀ {b : Nat} {t : TypeId} {v : Value}, Boxed W b t v → Boxed W' b t v := fun {b t v} hb => boxed_own b t (fun (_ : Unit) => v) () W W' row hb hg hr2
  obtain ⟨u, hu⟩ := h.sbox
  exact ⟨holdsRow_own H (H + 2) 32 40 2 (fun pre => (kp pre).length) (fun pre => wns (kp pre)) (fun _ _ => True) pre W W' row h.wants hg hr2, ⟨u, bx hu⟩, bx h.pbox, bx h.zbox, bx h.res0, bx h.res1, h.okk,
    h.bel.grown hg (Nat.le_trans hH h.bel.size) (fun k e => Nat.le_trans hB (hr k e).1)⟩
theorem PX.own (H B : Nat) (w : World) (c : Code) (hH : H ≤ w.heap.size) (hB : H ≤ B) : OwnFrom B (PX H w c) := by
  intro pre W W' row h hg hr
  have hr2 : ∀ r, row = some r → ∃ o : Obj, W.heap[r]? = some o ∧ o.isCells = false := fun r e => (hr r e).2
  have bx : ∀ {b : Nat} {t : TypeId} {v : Value}, Boxed W b t v → Boxed W' b t v := fun {b t v} hb => boxed_own b t (fun (_ : Unit) => v) () W W' row hb hg hr2
  exact ⟨h.ret, h.dead, bx h.res0, bx h.res1, h.bel.grown hg (Nat.le_trans hH h.bel.size) (fun k e => Nat.le_trans hB (hr k e).1)⟩
theorem PI.spared (H : Nat) (w : World) : Spared (H + 3) (PI H w) := by
  intro pre W x h
  obtain ⟨u, hu⟩ := h.sbox
  obtain ⟨v, hv, ho, _⟩ := h.wants
  exact ⟨⟨v, hv.other (by omega) _, ho.kept (grownBy_setCell' W (H + 3) x) (.inr (hu.not_row (by decide) ho).symm), trivial⟩, ⟨x, hu.set x⟩, h.pbox.other (by omega) _, h.zbox.other (by omega) _, h.res0.other (by omega) _, h.res1.other (by omega) _, h.okk,
    h.bel.setCell (p := ⟨H + 3, 0, none⟩) (by show H ≤ H + 3; omega) _⟩
theorem PX.spared (H : Nat) (w : World) (c : Code) : Spared (H + 3) (PX H w c) := by
  intro pre W x h
  exact ⟨h.ret, h.dead, h.res0.other (by omega) _, h.res1.other (by omega) _, h.bel.setCell (p := ⟨H + 3, 0, none⟩) (by show H ≤ H + 3; omega) _⟩
theorem boxed_six (w : World) (r : ByteArray) (W : World) (hW : W = ((((((w.alloc (.cells #[.slice none 0 0] 32)).alloc (.cells #[.int .i64 0] 24)).alloc (.cells #[.slice none 0 0] 32)).alloc (.cells #[.string r] 9)).alloc (.cells #[.string ⟨#[44]⟩] 9)).alloc (.cells #[.int .i64 0] 3))) : Boxed W w.heap.size 32 (.slice none 0 0) ∧ Boxed W (w.heap.size + 1) 24 (.int .i64 0) ∧ Boxed W (w.heap.size + 2) 32 (.slice none 0 0) ∧ Boxed W (w.heap.size + 3) 9 (.string r) ∧
    Boxed W (w.heap.size + 4) 9 (.string ⟨#[44]⟩) ∧ Boxed W (w.heap.size + 5) 3 (.int .i64 0) ∧ W.heap.size = w.heap.size + 6 ∧ Below w.heap.size w W := by
  have hh : W.heap = (((((w.heap.push (.cells #[.slice none 0 0] 32)).push (.cells #[.int .i64 0] 24)).push (.cells #[.slice none 0 0] 32)).push (.cells #[.string r] 9)).push (.cells #[.string ⟨#[44]⟩] 9)).push (.cells #[.int .i64 0] 3) := by rw [hW]; rfl
  have hb : Below w.heap.size w W := by
    rw [hW]
    exact ((((((Below.refl _ w).alloc (Nat.le_refl _) _).alloc (by simp) _).alloc (by simp; omega) _).alloc (by simp; omega) _).alloc (by simp; omega) _).alloc (by simp; omega) _
  have hz : W.heap.size = w.heap.size + 6 := by rw [hh]; simp
  have b0 : Boxed (w.alloc (.cells #[.slice none 0 0] 32)) (w.heap.size + 0) 32 (.slice none 0 0) := by
    have h := Boxed.new w 32 (.slice none 0 0)
    have e : (w).heap.size = w.heap.size + 0 := by simp
    rw [e] at h; exact h
  have b1 : Boxed ((w.alloc (.cells #[.slice none 0 0] 32)).alloc (.cells #[.int .i64 0] 24)) (w.heap.size + 1) 24 (.int .i64 0) := by
    have h := Boxed.new ((w.alloc (.cells #[.slice none 0 0] 32))) 24 (.int .i64 0)
    have e : ((w.alloc (.cells #[.slice none 0 0] 32))).heap.size = w.heap.size + 1 := by simp
    rw [e] at h; exact h
  have b2 : Boxed (((w.alloc (.cells #[.slice none 0 0] 32)).alloc (.cells #[.int .i64 0] 24)).alloc (.cells #[.slice none 0 0] 32)) (w.heap.size + 2) 32 (.slice none 0 0) := by
    have h := Boxed.new (((w.alloc (.cells #[.slice none 0 0] 32)).alloc (.cells #[.int .i64 0] 24))) 32 (.slice none 0 0)
    have e : (((w.alloc (.cells #[.slice none 0 0] 32)).alloc (.cells #[.int .i64 0] 24))).heap.size = w.heap.size + 2 := by simp
    rw [e] at h; exact h
  have b3 : Boxed ((((w.alloc (.cells #[.slice none 0 0] 32)).alloc (.cells #[.int .i64 0] 24)).alloc (.cells #[.slice none 0 0] 32)).alloc (.cells #[.string r] 9)) (w.heap.size + 3) 9 (.string r) := by
    have h := Boxed.new ((((w.alloc (.cells #[.slice none 0 0] 32)).alloc (.cells #[.int .i64 0] 24)).alloc (.cells #[.slice none 0 0] 32))) 9 (.string r)
    have e : ((((w.alloc (.cells #[.slice none 0 0] 32)).alloc (.cells #[.int .i64 0] 24)).alloc (.cells #[.slice none 0 0] 32))).heap.size = w.heap.size + 3 := by simp
    rw [e] at h; exact h
  have b4 : Boxed (((((w.alloc (.cells #[.slice none 0 0] 32)).alloc (.cells #[.int .i64 0] 24)).alloc (.cells #[.slice none 0 0] 32)).alloc (.cells #[.string r] 9)).alloc (.cells #[.string ⟨#[44]⟩] 9)) (w.heap.size + 4) 9 (.string ⟨#[44]⟩) := by
    have h := Boxed.new (((((w.alloc (.cells #[.slice none 0 0] 32)).alloc (.cells #[.int .i64 0] 24)).alloc (.cells #[.slice none 0 0] 32)).alloc (.cells #[.string r] 9))) 9 (.string ⟨#[44]⟩)
    have e : (((((w.alloc (.cells #[.slice none 0 0] 32)).alloc (.cells #[.int .i64 0] 24)).alloc (.cells #[.slice none 0 0] 32)).alloc (.cells #[.string r] 9))).heap.size = w.heap.size + 4 := by simp
    rw [e] at h; exact h
  have b5 : Boxed ((((((w.alloc (.cells #[.slice none 0 0] 32)).alloc (.cells #[.int .i64 0] 24)).alloc (.cells #[.slice none 0 0] 32)).alloc (.cells #[.string r] 9)).alloc (.cells #[.string ⟨#[44]⟩] 9)).alloc (.cells #[.int .i64 0] 3)) (w.heap.size + 5) 3 (.int .i64 0) := by
    have h := Boxed.new ((((((w.alloc (.cells #[.slice none 0 0] 32)).alloc (.cells #[.int .i64 0] 24)).alloc (.cells #[.slice none 0 0] 32)).alloc (.cells #[.string r] 9)).alloc (.cells #[.string ⟨#[44]⟩] 9))) 3 (.int .i64 0)
    have e : ((((((w.alloc (.cells #[.slice none 0 0] 32)).alloc (.cells #[.int .i64 0] 24)).alloc (.cells #[.slice none 0 0] 32)).alloc (.cells #[.string r] 9)).alloc (.cells #[.string ⟨#[44]⟩] 9))).heap.size = w.heap.size + 5 := by simp
    rw [e] at h; exact h
  rw [hW]
  rw [hW] at hz hb
  exact ⟨(((((b0).alloc _).alloc _).alloc _).alloc _).alloc _, ((((b1).alloc _).alloc _).alloc _).alloc _, (((b2).alloc _).alloc _).alloc _, ((b3).alloc _).alloc _, (b4).alloc _, b5, hz, hb⟩
theorem PI.later {H : Nat} {w W W' : World} {pre : List ByteArray} (h : PI H w pre W) (hb : Below W.heap.size W W') (hH : H ≤ w.heap.size) : PI H w pre W' :=
  PI.own H H w hH (Nat.le_refl _) pre W W' none h ⟨hb.os, hb.tape, hb.output, hb.size, fun k hk _ => hb.block k hk⟩ (fun _ e => nomatch e)
theorem keepsF_below {B : Nat} {W W' : World} (h : Below W.heap.size W W') : KeepsFrom B W W' :=
  ⟨h.size, fun k _ _ hk _ => (h.block k (Array.getElem?_eq_some_iff.1 hk).1).trans hk⟩
theorem keepB_below {bs : List Nat} {H : Nat} {W W' : World} (h : Below H W W') (hb : ∀ b ∈ bs, b < H) : KeepB bs W W' := fun b hm => h.block b (hb b hm)
theorem keepB_boxed {H : Nat} {w W W' : World} {pre : List ByteArray} (h : PI H w pre W) (h' : ∀ (b : Nat) (t : TypeId) (v : Value), H + 3 ≤ b → b ≤ H + 5 → Boxed W b t v → Boxed W' b t v) : KeepB [H + 3, H + 4, H + 5] W W' := by
  obtain ⟨u, hu⟩ := h.sbox
  intro b hb
  simp at hb
  rcases hb with rfl | rfl | rfl
  · exact (h' _ _ _ (by omega) (by omega) hu).trans hu.symm
  · exact (h' _ _ _ (by omega) (by omega) h.pbox).trans h.pbox.symm
  · exact (h' _ _ _ (by omega) (by omega) h.zbox).trans h.zbox.symm
theorem PI.put {H B : Nat} {w W W3 w4 : World} {pre : List ByteArray} {x : ByteArray} {a b : Int} {v v' : Value} {tmp : Obj} (hW : PI H w pre W) (h3 : PI H w pre W3) (hb : Below W.heap.size W W3) (hv : Boxed W3 (H + 2) 32 v)
    (hown : W3.ownsRow H 40 2 v (kp pre).length (wns (kp pre))) (hown' : w4.ownsRow H 40 2 v' ((kp pre).length + 1) (wns (kp pre) ++ [.int .i64 a, .int .i64 b])) (hgrow : (W3.alloc tmp).grownBy w4 v.ownBlock)
    (hk : paW (trm x) = some (a, b)) (hl : (kp pre).length ≤ 20) (hH : H ≤ w.heap.size) : KeepsFrom B W (w4.setCell ⟨H + 2, 0, none⟩ v') ∧ KeepB [H + 3, H + 4, H + 5] W (w4.setCell ⟨H + 2, 0, none⟩ v') ∧ PI H w (pre ++ [x]) (w4.setCell ⟨H + 2, 0, none⟩ v') := by
  have hH3 : H ≤ W3.heap.size := Nat.le_trans hH h3.bel.size
  obtain ⟨_, q2, q3, q4, q5⟩ := hv.appended (by decide) hown hH3 (by omega) hown' hgrow
  have kb : ∀ {b : Nat} {t : TypeId} {u : Value}, b ≠ H + 2 → t ≠ 40 → Boxed W3 b t u → Boxed (w4.setCell ⟨H + 2, 0, none⟩ v') b t u := fun hne ht h => ((h.alloc tmp).kept hgrow (h.not_row ht hown)).other hne v'
  obtain ⟨ws, hws⟩ := h3.okk
  obtain ⟨e1, e2, _⟩ := kp_more hws hk
  obtain ⟨u, hu⟩ := h3.sbox
  refine ⟨(keepsF_below hb).trans (q4.from _), ?_, ⟨⟨v', q2, ?_, trivial⟩, ⟨u, kb (by omega) (by decide) hu⟩, kb (by omega) (by decide) h3.pbox, kb (by omega) (by decide) h3.zbox, kb (by omega) (by decide) h3.res0, kb (by omega) (by decide) h3.res1, ⟨_, e1⟩, h3.bel.trans q5⟩⟩
  · obtain ⟨u0, hu0⟩ := hW.sbox
    have kw : ∀ {b : Nat} {t : TypeId} {u : Value}, Boxed W b t u → Boxed W3 b t u := fun h => (hb.block _ h.lt).trans h
    intro b hb
    simp at hb
    rcases hb with rfl | rfl | rfl
    · exact (kb (by omega) (by decide) (kw hu0)).trans hu0.symm
    · exact (kb (by omega) (by decide) (kw hW.pbox)).trans hW.pbox.symm
    · exact (kb (by omega) (by decide) (kw hW.zbox)).trans hW.zbox.symm
  · rw [e2 hl, ← wns_snoc, List.length_append]
    exact q3
theorem PI.stay {H B : Nat} {w W W3 : World} {pre : List ByteArray} {x : ByteArray} {a b : Int} (hW : PI H w pre W) (h3 : PI H w pre W3) (hb : Below W.heap.size W W3) (hk : paW (trm x) = some (a, b)) (hl : 20 < (kp pre).length) :
    KeepsFrom B W W3 ∧ KeepB [H + 3, H + 4, H + 5] W W3 ∧ PI H w (pre ++ [x]) W3 := by
  obtain ⟨ws, hws⟩ := h3.okk
  obtain ⟨e1, _, e2⟩ := kp_more hws hk
  refine ⟨keepsF_below hb, keepB_boxed hW (fun b t v _ _ h => (hb.block _ h.lt).trans h), ⟨?_, h3.sbox, h3.pbox, h3.zbox, h3.res0, h3.res1, ⟨_, e1⟩, h3.bel⟩⟩
  rw [e2 hl]
  exact h3.wants
theorem PI.dead {H B : Nat} {w W W3 : World} {pre : List ByteArray} {x : ByteArray} (h3 : PI H w pre W3) (hb : Below W.heap.size W W3) (hk : paW (trm x) = none) :
    KeepsFrom B W ((W3.setCell ⟨H, 0, none⟩ (.slice none 0 0)).setCell ⟨H + 1, 0, none⟩ (.int .i64 3)) ∧ PX H w .ret (pre ++ [x]) ((W3.setCell ⟨H, 0, none⟩ (.slice none 0 0)).setCell ⟨H + 1, 0, none⟩ (.int .i64 3)) := by
  refine ⟨((keepsF_below hb).trans ((KeepsOthers.setCell _ _ _).from _)).trans ((KeepsOthers.setCell _ _ _).from _), ⟨rfl, kp_dead hk, (h3.res0.set _).other (by omega) _, (h3.res1.other (by omega) _).set _, ?_⟩⟩
  exact (h3.bel.setCell (p := ⟨H, 0, none⟩) (Nat.le_refl _) _).setCell (p := ⟨H + 1, 0, none⟩) (by show H ≤ H + 1; omega) _
theorem fin_world {H D : Nat} {w W : World} {v0 v1 : Value} {t0 t1 : TypeId} (x y : Value) (b0 : Boxed W H t0 v0) (b1 : Boxed W (H + 1) t1 v1) (hb : Below H w W) (hK : W.heap[D]? = some (.deferred (some []))) (hD : w.heap.size ≤ D) (hH : H ≤ w.heap.size) :
    ((W.setCell ⟨H, 0, none⟩ x).setCell ⟨H + 1, 0, none⟩ y).heap[D]? = some (.deferred (some [])) ∧ (((W.setCell ⟨H, 0, none⟩ x).setCell ⟨H + 1, 0, none⟩ y).putObj D (.deferred none)).cell? ⟨H, 0, none⟩ = some x ∧
      (((W.setCell ⟨H, 0, none⟩ x).setCell ⟨H + 1, 0, none⟩ y).putObj D (.deferred none)).cell? ⟨H + 1, 0, none⟩ = some y ∧ Below H w (((W.setCell ⟨H, 0, none⟩ x).setCell ⟨H + 1, 0, none⟩ y).putObj D (.deferred none)) := by
  have hK' : ((W.setCell ⟨H, 0, none⟩ x).setCell ⟨H + 1, 0, none⟩ y).heap[D]? = some (.deferred (some [])) := (KeepsOthers.setCell _ _ _).same D _ ((KeepsOthers.setCell W ⟨H, 0, none⟩ x).same D _ hK rfl) rfl
  refine ⟨hK', ?_, ?_, ?_⟩
  · exact cell_kept ((b0.set x).other (by omega) _).cell (grownBy_putObj' _ D (.deferred none)) (fun r e => by cases e; exact ⟨_, hK', rfl⟩)
  · exact cell_kept ((b1.other (by omega) _).set y).cell (grownBy_putObj' _ D (.deferred none)) (fun r e => by cases e; exact ⟨_, hK', rfl⟩)
  · exact ((hb.setCell (p := ⟨H, 0, none⟩) (Nat.le_refl _) _).setCell (p := ⟨H + 1, 0, none⟩) (by show H ≤ H + 1; omega) _).trans (belowK_b (w := w) hH _ D _ _ hD hK' rfl rfl)
theorem own_fin {H D : Nat} {W : World} {v0 v1 : Value} (x y : Value) (b0 : Boxed W H 32 v0) (b1 : Boxed W (H + 1) 24 v1) (hK : W.heap[D]? = some (.deferred (some []))) {v : Value} {k : Nat} {xs : List Value} {B : Nat}
    (ho : W.ownsRow B 40 2 v k xs) : (((W.setCell ⟨H, 0, none⟩ x).setCell ⟨H + 1, 0, none⟩ y).putObj D (.deferred none)).ownsRow B 40 2 v k xs := by
  have hK' : ((W.setCell ⟨H, 0, none⟩ x).setCell ⟨H + 1, 0, none⟩ y).heap[D]? = some (.deferred (some [])) := (KeepsOthers.setCell _ _ _).same D _ ((KeepsOthers.setCell W ⟨H, 0, none⟩ x).same D _ hK rfl) rfl
  have h1 : (W.setCell ⟨H, 0, none⟩ x).ownsRow B 40 2 v k xs := ho.kept (grownBy_setCell' W H x) (.inr (b0.not_row (by decide) ho).symm)
  have h2 : ((W.setCell ⟨H, 0, none⟩ x).setCell ⟨H + 1, 0, none⟩ y).ownsRow B 40 2 v k xs := h1.kept (grownBy_setCell' _ (H + 1) y) (.inr ((b1.other (by omega) x).not_row (by decide) h1).symm)
  exact ownsRow_putObj h2 _ hK' rfl
set_option maxRecDepth 100000 in
set_option maxHeartbeats 4000000 in
theorem sparse_in (s : ByteArray) (w : World) (hs : s.size ≤ 140737488351232) (hT : STabs w) :
    CallsIn Fence.wide 10 Tryd.prog 10 #[.string s] w fun e w' => ∃ v, e = .returned (.tuple #[v, .int .i64 (paSp s.data.toList).2]) ∧
      w'.ownsRow w.heap.size 40 2 v (paSp s.data.toList).1.length (wns (paSp s.data.toList).1) ∧ Below w.heap.size w w' := by
  obtain ⟨i1, hi1, hy0, hy1, hy2⟩ := info_parts infoWn
  obtain ⟨r, f, hc⟩ : ∃ (r : ByteArray) (f : Bool), cutPre s.data.toList [98, 121, 116, 101, 115, 61] = (r.data.toList, f) := ⟨⟨(Lib.trimPrefix s.data.toList [98, 121, 116, 101, 115, 61]).toArray⟩, Lib.hasPrefix s.data.toList [98, 121, 116, 101, 115, 61], rfl⟩
  have HC : Hid (cutPre s.data.toList (⟨#[98, 121, 116, 101, 115, 61]⟩ : ByteArray).data.toList = (r.data.toList, f)) := hc
  have HT : Hid (STabs w) := hT
  cases f
  · have HP : Hid (paSp s.data.toList = ([], 3)) := pa_no hc
    refine callsIn_of_wp Tryd.func10 rfl trivial ?_ rfl
    simp only [Tryd.ntmps10, List.size_toArray, List.length_cons, List.length_nil, Nat.reduceAdd, Nat.reduceSub, Array.replicate_succ, Array.replicate_zero, List.push_toArray, List.append_toArray, List.nil_append, List.cons_append]
    gi_wp2_with fail
    refine ⟨trivial, ?_⟩
    refine (callsIn_wide.2 (scutPre_at s ⟨#[98, 121, 116, 101, 115, 61]⟩ r false HC.out _)).mono ?_
    rintro e w1 ⟨rfl, hw1⟩
    rw [hw1]
    clear hw1 w1
    gi_wp2_with fail
    obtain ⟨c0, c1, hb⟩ : ((w.alloc (.cells #[.slice none 0 0] 32)).alloc (.cells #[.int .i64 3] 24)).cell? ⟨w.heap.size, 0, none⟩ = some (.slice none 0 0) ∧ ((w.alloc (.cells #[.slice none 0 0] 32)).alloc (.cells #[.int .i64 3] 24)).cell? ⟨w.heap.size + 1, 0, none⟩ = some (.int .i64 3) ∧
        Below w.heap.size w ((w.alloc (.cells #[.slice none 0 0] 32)).alloc (.cells #[.int .i64 3] 24)) := by
      refine ⟨((Boxed.new w _ _).alloc _).cell, ?_, ((Below.refl _ w).alloc (Nat.le_refl _) _).alloc (by simp) _⟩
      have h := (Boxed.new (w.alloc (.cells #[.slice none 0 0] 32)) 24 (.int .i64 3)).cell
      rwa [World.size_alloc] at h
    refine bodyPost_ret (by simp [results, Tryd.f10, go_sem, c0, c1]; try rfl) rfl ?_
    exact ⟨_, by rw [HP.out], by rw [HP.out]; exact World.ownsRow_nil _ _ _ _, hb⟩
  · refine callsIn_of_wp_marks Tryd.func10 rfl trivial ?_ rfl
    simp only [Tryd.ntmps10, List.size_toArray, List.length_cons, List.length_nil, Nat.reduceAdd, Nat.reduceSub, Array.replicate_succ, Array.replicate_zero, List.push_toArray, List.append_toArray, List.nil_append, List.cons_append]
    gi_wp2_with fail
    refine ⟨trivial, ?_⟩
    refine (callsIn_wide.2 (scutPre_at s ⟨#[98, 121, 116, 101, 115, 61]⟩ r true HC.out _)).mono ?_
    rintro e w1 ⟨rfl, hw1⟩
    rw [hw1]
    clear hw1 w1
    gi_wp2_with fail
    refine ⟨trivial, ?_⟩
    refine (callsIn_wide.2 (splitSeq_at r _ _)).mono ?_
    rintro e w1 ⟨rfl, hw1⟩
    obtain ⟨H, hH⟩ : ∃ H, H = w.heap.size := ⟨_, rfl⟩
    obtain ⟨q0, q1, q2, q3, q4, q5, q6, q7⟩ := boxed_six w r w1 hw1
    obtain ⟨All, hA⟩ : ∃ All, (spl 44 r.data.toList).map tx = All := ⟨_, rfl⟩
    have HALL : Hid ((spl 44 r.data.toList).map tx = All) := hA
    have hrs : r.size ≤ maxLen ∧ ∀ x ∈ All, x.size ≤ 140737488351232 := by
      obtain ⟨_, h2⟩ := pa_pre HC.out
      have h3 : r.size ≤ s.size := by rw [← size_list, ← size_list, ← h2, List.length_drop]; omega
      refine ⟨by unfold maxLen; omega, fun x hx => ?_⟩
      rw [← hA] at hx
      obtain ⟨p, hp, rfl⟩ := List.mem_map.1 hx
      have h4 := spl_len 44 _ p hp
      rw [size_list] at h4
      have h5 : (tx p).size = p.length := by rw [← size_list, tx_list]
      omega
    have HRS : Hid (r.size ≤ maxLen ∧ ∀ x ∈ All, x.size ≤ 140737488351232) := hrs
    have HQ : Hid (Boxed w1 (w.heap.size + 3) 9 (.string r) ∧ Boxed w1 (w.heap.size + 4) 9 (.string ⟨#[44]⟩) ∧ Boxed w1 (w.heap.size + 5) 3 (.int .i64 0)) := ⟨q3, q4, q5⟩
    have HI0 : Hid (PI w.heap.size w [] w1) := ⟨⟨_, q2, ⟨rfl, .inl ⟨rfl, rfl⟩⟩, trivial⟩, ⟨_, q3⟩, q4, q5, q0, q1, ⟨[], rfl⟩, q7⟩
    have HSZ : Hid (w1.heap.size = w.heap.size + 6) := q6
    clear hw1 hA hrs q0 q1 q2 q3 q4 q5 q6 q7
    gi_wp2_with fail
    refine range_hands (F := Fence.wide) (n := 10) (ps := #[19]) rfl (by decide) (gf := 71) (lb := #[.pointer (some ⟨w.heap.size + 1 + 1 + 1 + 1, 0, none⟩), .pointer (some ⟨w.heap.size + 1 + 1 + 1, 0, none⟩), .pointer (some ⟨w.heap.size + 1 + 1 + 1 + 1 + 1, 0, none⟩)]) rfl trivial (enters_of Tryd.func71 (by kernel_rfl) rfl)
      (encs := fun x => #[Value.string x]) (fun _ => rfl) (b0 := w.heap.size + 3) (keep := [w.heap.size + 3, w.heap.size + 4, w.heap.size + 5]) (xs := All) (by have := HSZ.out; omega) (by have := HSZ.out; intro b hb; simp at hb; omega)
      ?hit (PI w.heap.size w) (PX w.heap.size w) (PI.own _ _ _ (Nat.le_refl _) (by have := HSZ.out; omega)) (fun c => PX.own _ _ _ c (Nat.le_refl _) (by have := HSZ.out; omega)) (PI.spared _ _) (fun c => PX.spared _ _ c) HI0.out
      (fun x => { tmps := #[.string s, undef, .pointer (some ⟨w.heap.size, 0, none⟩), .pointer (some ⟨w.heap.size + 1, 0, none⟩), .string r, .bool true, .pointer (some ⟨w.heap.size + 1 + 1, 0, none⟩), .string x, undef, undef, .tuple #[.string r, .bool true], .string s, .tuple #[.string r, .bool true], .string r, .bool true, .bool true, .bool false, .string r,
        .func (.func 71) #[] #[.pointer (some ⟨w.heap.size + 1 + 1 + 1 + 1, 0, none⟩), .pointer (some ⟨w.heap.size + 1 + 1 + 1, 0, none⟩), .pointer (some ⟨w.heap.size + 1 + 1 + 1 + 1 + 1, 0, none⟩)], .string x, undef, undef, undef, undef, undef, undef, undef, undef, undef, undef, undef, undef, undef, undef, undef, undef, undef, undef, undef], defers := [] })
      ?assign ?body ?done ?stop
    case hit =>
      intro l J Jx W hW sJ _ hY h0
      obtain ⟨b3, b4, b5⟩ := HQ.out
      have hz := HSZ.out
      have k : ∀ {b : Nat} {t : TypeId} {v : Value}, Boxed w1 b t v → Boxed W b t v := fun {b t v} h => (hW.block b h.lt).trans h
      exact split_iter 9 l (w.heap.size + 3) (w.heap.size + 4) (w.heap.size + 5) 44 r All HALL.out J Jx (by omega) (by omega) sJ (fun pre x rest W1 hx hj => (hY pre x rest W1 hx hj)) W (k b3) (k b4) (k b5) h0 HRS.out.1
    case assign =>
      intro l x W K hK
      gi_wp2
      exact hK
    case body =>
      rintro l pre x rest W hx hHW hI
      have HX : Hid (All = pre ++ x :: rest) := hx
      have HI : Hid (PI w.heap.size w pre W) := hI
      have HW : Hid (w1.heap.size ≤ W.heap.size) := hHW
      obtain ⟨a, b, hrd⟩ : ∃ (a b : Int), rdW (tx (trm x)).data.toList = (a, b) := ⟨_, _, rfl⟩
      have HRD : Hid (rdW (tx (trm x)).data.toList = (a, b)) := hrd
      have hxs : x.size ≤ 140737488351232 := HRS.out.2 x (by rw [hx]; simp)
      have hts : (tx (trm x)).size ≤ 140737488351232 := by
        have h1 : (tx (trm x)).size = (trm x).length := by rw [← size_list, tx_list]
        have h2 := trimL_len x.data.toList
        rw [size_list] at h2
        have h3 : (trm x).length ≤ x.size := h2
        omega
      have HXS : Hid (x.size ≤ 140737488351232 ∧ (tx (trm x)).size ≤ 140737488351232) := ⟨hxs, hts⟩
      clear hx hI hHW hrd hxs hts
      gi_wp2_with fail
      refine ⟨trivial, ?_⟩
      refine (CallsIn.inRound l (callsIn_wide.2 (strim_at x (tx (trm x)) rfl _ (by have := HXS.out.1; omega)))).mono ?_
      rintro e W1 ⟨rfl, hb1⟩
      have HB1 : Hid (Below W.heap.size W W1) := hb1
      clear hb1
      gi_wp2_with fail
      refine ⟨trivial, ?_⟩
      refine (CallsIn.inRound l (callsIn_wide.2 (srdw_at (tx (trm x)) a b HRD.out _ HXS.out.2 (HT.out.below (HI.out.bel.trans (HB1.out.mono HI.out.bel.size)))))).mono ?_
      rintro e W2 ⟨rfl, hb2⟩
      have HB2 : Hid (Below W.heap.size W W2) := HB1.out.trans (hb2.mono HB1.out.size)
      clear hb2
      obtain ⟨k, hk⟩ : ∃ k, (okW (a, b) && decide (prW (a, b) = (tx (trm x)).data.toList)) = k := ⟨_, rfl⟩
      have HKK : Hid ((okW (a, b) && decide (prW (a, b) = (tx (trm x)).data.toList)) = k) := hk
      simp only [hk]
      clear hk
      have hp3 : PI w.heap.size w pre (W2.alloc (.cells #[.int .i64 a, .int .i64 b] 40)) := (HI.out.later HB2.out (Nat.le_refl _)).later (below_alloc _ _) (Nat.le_refl _)
      have HB3 : Hid (Below W.heap.size W (W2.alloc (.cells #[.int .i64 a, .int .i64 b] 40))) := HB2.out.alloc HB2.out.size _
      have HP3 : Hid (PI w.heap.size w pre (W2.alloc (.cells #[.int .i64 a, .int .i64 b] 40))) := hp3
      cases k
      · have HPAN : Hid (paW (trm x) = none) := by
          have h1 := HRD.out
          rw [tx_list] at h1
          refine rdW_no ?_
          rw [h1]
          intro hh
          have h2 := HKK.out
          rw [tx_list] at h2
          rw [hh.1, decide_eq_true hh.2] at h2
          cases h2
        have m0 := hp3.res0.cell
        have m1 := (hp3.res1.other (B' := w.heap.size) (by omega) (.slice none 0 0)).cell
        have f0 := hp3.res0.frozen
        have f1 := (hp3.res1.other (B' := w.heap.size) (by omega) (.slice none 0 0)).frozen
        clear hp3
        gi_wp2_with fail
        exact HP3.out.dead HB3.out HPAN.out
      · have HPAW : Hid (paW (trm x) = some (a, b)) := by
          have h1 := HRD.out
          have h2 := HKK.out
          rw [tx_list] at h1 h2
          rw [Bool.and_eq_true, decide_eq_true_eq] at h2
          have h3 := rdW_yes (s := trm x) (by rw [h1]; exact h2.1) (by rw [h1]; exact h2.2)
          rw [h1] at h3
          exact h3
        obtain ⟨v, hv, hown, _⟩ := hp3.wants
        have hc := hv.cell
        have hf := hv.frozen
        have HV : Hid (Boxed (W2.alloc (.cells #[.int .i64 a, .int .i64 b] 40)) (w.heap.size + 2) 32 v ∧ (W2.alloc (.cells #[.int .i64 a, .int .i64 b] 40)).ownsRow w.heap.size 40 2 v (kp pre).length (wns (kp pre))) := ⟨hv, hown⟩
        clear hp3 hv
        by_cases hl : (kp pre).length ≤ 20
        · have hg : decide (((kp pre).length : Int) ≤ 20) = true := decide_eq_true (by omega)
          have HL : Hid ((kp pre).length ≤ 20) := hl
          rcases hown.2 with ⟨rfl, h0⟩ | ⟨g, cap, cur, rfl, _⟩
          · rw [h0] at hg
            clear hown
            gi_wp2_with (gi_at_builtin; refine wpListIn_append_own _ rfl _ _ 32 rfl w.heap.size 40 i1 (.agg #[.int .i64 0, .int .i64 0]) 2 16 Tryd.underlying32 hi1 hy0 hy1 hy2 rfl (by decide) _ _ _ rfl (HV.out.2.alloc _) ⟨W2.heap.size + 1, 0, none⟩ 1 1 [.int .i64 a, .int .i64 b] rfl rfl ?c1 ?c2 ?c3 ?c4 ?c5 ?_)
            case c1 =>
              intro j z h
              match j, h with
              | 0, h => simp at h; subst h; simp [Addr.add]
              | 1, h => simp at h; subst h; simp [Addr.add]
            case c2 => intro z hx; simp at hx; rcases hx with rfl | rfl <;> rfl
            case c3 => have := HL.out; unfold maxLen; omega
            case c4 => have := HL.out; omega
            case c5 => have := HI.out.bel.size; have := HB2.out.size; simp; omega
            intro v' w4 hown' hgrow _
            obtain ⟨g', cap', rfl⟩ := ownsRow_succ hown'
            have H4 : Hid (KeepsFrom w1.heap.size W (w4.setCell ⟨w.heap.size + 2, 0, none⟩ (.slice (some ⟨g', 0, none⟩) _ cap')) ∧ KeepB [w.heap.size + 3, w.heap.size + 4, w.heap.size + 5] W (w4.setCell ⟨w.heap.size + 2, 0, none⟩ (.slice (some ⟨g', 0, none⟩) _ cap')) ∧ PI w.heap.size w (pre ++ [x]) (w4.setCell ⟨w.heap.size + 2, 0, none⟩ (.slice (some ⟨g', 0, none⟩) _ cap'))) :=
              PI.put HI.out HP3.out HB3.out HV.out.1 HV.out.2 (by rw [h0]; exact hown') hgrow HPAW.out HL.out (Nat.le_refl _)
            have hv1 : Boxed w4 (w.heap.size + 2) 32 _ := (HV.out.1.alloc _).kept hgrow (HV.out.1.not_row (by decide) HV.out.2)
            have hc1 := hv1.cell
            have hf1 := hv1.frozen
            clear hown' hgrow hv1
            gi_wp2_with fail
            exact H4.out
          · clear hown
            gi_wp2_with (gi_at_builtin; refine wpListIn_append_own _ rfl _ _ 32 rfl w.heap.size 40 i1 (.agg #[.int .i64 0, .int .i64 0]) 2 16 Tryd.underlying32 hi1 hy0 hy1 hy2 rfl (by decide) _ _ _ rfl (HV.out.2.alloc _) ⟨W2.heap.size + 1, 0, none⟩ 1 1 [.int .i64 a, .int .i64 b] rfl rfl ?c1 ?c2 ?c3 ?c4 ?c5 ?_)
            case c1 =>
              intro j z h
              match j, h with
              | 0, h => simp at h; subst h; simp [Addr.add]
              | 1, h => simp at h; subst h; simp [Addr.add]
            case c2 => intro z hx; simp at hx; rcases hx with rfl | rfl <;> rfl
            case c3 => have := HL.out; unfold maxLen; omega
            case c4 => have := HL.out; omega
            case c5 => have := HI.out.bel.size; have := HB2.out.size; simp; omega
            intro v' w4 hown' hgrow _
            obtain ⟨g', cap', rfl⟩ := ownsRow_succ hown'
            have H4 : Hid (KeepsFrom w1.heap.size W (w4.setCell ⟨w.heap.size + 2, 0, none⟩ (.slice (some ⟨g', 0, none⟩) _ cap')) ∧ KeepB [w.heap.size + 3, w.heap.size + 4, w.heap.size + 5] W (w4.setCell ⟨w.heap.size + 2, 0, none⟩ (.slice (some ⟨g', 0, none⟩) _ cap')) ∧ PI w.heap.size w (pre ++ [x]) (w4.setCell ⟨w.heap.size + 2, 0, none⟩ (.slice (some ⟨g', 0, none⟩) _ cap'))) :=
              PI.put HI.out HP3.out HB3.out HV.out.1 HV.out.2 hown' hgrow HPAW.out HL.out (Nat.le_refl _)
            have hv1 : Boxed w4 (w.heap.size + 2) 32 _ := (HV.out.1.alloc _).kept hgrow (HV.out.1.not_row (by decide) HV.out.2)
            have hc1 := hv1.cell
            have hf1 := hv1.frozen
            clear hown' hgrow hv1
            gi_wp2_with fail
            exact H4.out
        · have hg : decide (((kp pre).length : Int) ≤ 20) = false := decide_eq_false (by omega)
          have HL : Hid (20 < (kp pre).length) := by show _ < _; omega
          rcases hown.2 with ⟨rfl, h0⟩ | ⟨g, cap, cur, rfl, _⟩
          · omega
          · clear hown
            gi_wp2_with fail
            exact PI.stay HI.out HP3.out HB3.out HPAW.out HL.out
    case done =>
      intro D W hD hI hK
      have HI : Hid (PI w.heap.size w All W) := hI
      obtain ⟨v, hv, hown, _⟩ := hI.wants
      obtain ⟨ws, hws⟩ := hI.okk
      obtain ⟨e1, e2⟩ := pa_done HC.out HALL.out hws
      have hc := hv.cell
      have HD : Hid (w.heap.size ≤ D) := by have := HSZ.out; show _ ≤ _; omega
      have HK : Hid (W.heap[D]? = some (.deferred (some []))) := hK
      have m0 := hI.res0.cell
      have f0 := hI.res0.frozen
      have HOWN : Hid (W.ownsRow w.heap.size 40 2 v (kp All).length (wns (kp All))) := hown
      by_cases hl : 20 < (kp All).length
      · have hg : decide (((kp All).length : Int) > 20) = true := decide_eq_true (by omega)
        have HP : Hid (paSp s.data.toList = ([], 2)) := e1 hl
        have HF : Hid _ := fin_world (.slice none 0 0) (.int .i64 2) HI.out.res0 HI.out.res1 HI.out.bel HK.out HD.out (Nat.le_refl _)
        have m1 := (hI.res1.other (B' := w.heap.size) (by omega) (.slice none 0 0)).cell
        have f1 := (hI.res1.other (B' := w.heap.size) (by omega) (.slice none 0 0)).frozen
        rcases hown.2 with ⟨rfl, h0⟩ | ⟨g, cap, cur, rfl, _⟩
        · omega
        · clear hI hv hD hK hown hl e1 e2 hws
          gi_wp2_with fail
          refine ⟨by simp, .inl ⟨_, _, rfl, run_takeDeferred HF.out.1, ?_⟩⟩
          refine ⟨.tuple #[.slice none 0 0, .int .i64 2], ?_, _, by rw [HP.out], ?_, HF.out.2.2.2⟩
          · obtain ⟨_, c0, c1, _⟩ := HF.out
            simp [results, Tryd.f10, go_sem, c0, c1]
          · rw [HP.out]; exact World.ownsRow_nil _ _ _ _
      · have hg : decide (((kp All).length : Int) > 20) = false := decide_eq_false (by omega)
        have HP : Hid (paSp s.data.toList = (kp All, 0)) := e2 hl
        have HF : Hid _ := fin_world v (.int .i64 0) HI.out.res0 HI.out.res1 HI.out.bel HK.out HD.out (Nat.le_refl _)
        have HO : Hid _ := own_fin v (.int .i64 0) HI.out.res0 HI.out.res1 HK.out HOWN.out
        have m1 := (hI.res1.other (B' := w.heap.size) (by omega) v).cell
        have f1 := (hI.res1.other (B' := w.heap.size) (by omega) v).frozen
        rcases hown.2 with ⟨rfl, h0⟩ | ⟨g, cap, cur, rfl, _⟩
        · have HE : Hid (kp All = []) := List.eq_nil_of_length_eq_zero h0
          rw [h0] at hg
          clear hI hv hD hK hown hl e1 e2 hws
          gi_wp2_with fail
          refine ⟨by simp, .inl ⟨_, _, rfl, run_takeDeferred HF.out.1, ?_⟩⟩
          refine ⟨.tuple #[.slice none 0 0, .int .i64 0], ?_, _, by rw [HP.out], ?_, HF.out.2.2.2⟩
          · obtain ⟨_, c0, c1, _⟩ := HF.out
            simp [results, Tryd.f10, go_sem, c0, c1]
          · rw [HP.out]; dsimp only; rw [HE.out]; exact World.ownsRow_nil _ _ _ _
        · clear hI hv hD hK hown hl e1 e2 hws
          gi_wp2_with fail
          refine ⟨by simp, .inl ⟨_, _, rfl, run_takeDeferred HF.out.1, ?_⟩⟩
          refine ⟨.tuple #[.slice (some ⟨g, 0, none⟩) (kp All).length cap, .int .i64 0], ?_, _, by rw [HP.out], ?_, HF.out.2.2.2⟩
          · obtain ⟨_, c0, c1, _⟩ := HF.out
            simp [results, Tryd.f10, go_sem, c0, c1]
          · rw [HP.out]; exact HO.out
    case stop =>
      intro D c pre rest W hD hx hX hK
      obtain ⟨rfl, hdead, r0, r1, hb⟩ := hX
      have HP : Hid (paSp s.data.toList = ([], 3)) := pa_dead HC.out HALL.out hx hdead
      have HK : Hid (W.heap[D]? = some (.deferred (some []))) := hK
      have HC0 : Hid ((W.putObj D (.deferred none)).cell? ⟨w.heap.size, 0, none⟩ = some (.slice none 0 0) ∧ (W.putObj D (.deferred none)).cell? ⟨w.heap.size + 1, 0, none⟩ = some (.int .i64 3) ∧ Below w.heap.size w (W.putObj D (.deferred none))) :=
        ⟨cell_kept r0.cell (grownBy_putObj' _ D (.deferred none)) (fun r e => by cases e; exact ⟨_, hK, rfl⟩), cell_kept r1.cell (grownBy_putObj' _ D (.deferred none)) (fun r e => by cases e; exact ⟨_, hK, rfl⟩),
          hb.trans (belowK_b (w := w) (Nat.le_refl _) _ D _ _ (by have := HSZ.out; omega) hK rfl rfl)⟩
      clear hx hK r0 r1 hb hD hdead
      gi_wp2_with fail
      refine ⟨by simp, .inl ⟨_, _, rfl, run_takeDeferred HK.out, ?_⟩⟩
      refine ⟨.tuple #[.slice none 0 0, .int .i64 3], ?_, _, by rw [HP.out], ?_, HC0.out.2.2⟩
      · obtain ⟨c0, c1, _⟩ := HC0.out
        simp [results, Tryd.f10, go_sem, c0, c1]
      · rw [HP.out]; exact World.ownsRow_nil _ _ _ _
theorem sparse_at (s : ByteArray) (w : World) (hs : s.size ≤ 140737488351232) (hT : STabs w) :
    Calls Tryd.prog 10 #[.string s] w fun e w' => ∃ v, e = .returned (.tuple #[v, .int .i64 (paSp s.data.toList).2]) ∧
      w'.ownsRow w.heap.size 40 2 v (paSp s.data.toList).1.length (wns (paSp s.data.toList).1) ∧ Below w.heap.size w w' := callsIn_wide.1 (sparse_in s w hs hT)
end Go.Proofs.YtkmbhgbmdeoppabDoor

/-
  Eq of the document's answers on two lists of the same wants answers true and turns nothing that was there.
-/
namespace Go.Proofs.YtkmbhgbmdeoppabDoor
open Go.RowKit

set_option maxHeartbeats 1000000 in
set_option maxRecDepth 100000 in
theorem eqW_same (v v' : Value) (ts : List Wn) (w : World) (h : Wl w v ts) (h' : Wl w v' ts) :
    Calls Tryd.prog 12 #[v, v'] w fun e w' => e = .returned (.bool true) ∧ Below w.heap.size w w' := by
  obtain ⟨ad, cap, hv, hnc, hcm, hc⟩ := h
  obtain ⟨ad', cap', hv', hnc', hcm', hc'⟩ := h'
  subst hv hv'
  unfold maxLen at hcm hcm'
  have HC : Hid (0 < ts.length → ∃ g off, ad = some ⟨g, off, none⟩ ∧ g < w.heap.size ∧
    ∀ (k : Nat) (h : k < ts.length), w.cell? ⟨g, off + k * 2, none⟩ = some (.int .i64 (ts[k]).1) ∧ w.cell? ⟨g, off + k * 2 + 1, none⟩ = some (.int .i64 (ts[k]).2)) := hc
  have HC' : Hid (0 < ts.length → ∃ g off, ad' = some ⟨g, off, none⟩ ∧ g < w.heap.size ∧
    ∀ (k : Nat) (h : k < ts.length), w.cell? ⟨g, off + k * 2, none⟩ = some (.int .i64 (ts[k]).1) ∧ w.cell? ⟨g, off + k * 2 + 1, none⟩ = some (.int .i64 (ts[k]).2)) := hc'
  clear hc hc'
  go_enter Tryd.func12, Tryd.ntmps12
  go_wp2_with fail
  go_loopw [14] (fun i wr => ∃ k : Nat, k ≤ ts.length ∧ i = .int .i64 k ∧ Below w.heap.size w wr) (fun i _ => ts.length - (intOf i).toNat)
  case atStart => exact ⟨0, Nat.zero_le _, rfl, Below.refl _ _⟩
  case round =>
    obtain ⟨k, hk, rfl, hw⟩ := hrel
    by_cases hlt : k < ts.length
    · obtain ⟨g, off, rfl, hgs, hce⟩ := HC.out (by omega)
      obtain ⟨g', off', rfl, hgs', hce'⟩ := HC'.out (by omega)
      obtain ⟨p1, p2⟩ := hce k hlt
      obtain ⟨q1, q2⟩ := hce' k hlt
      have c1 : wr.cell? ⟨g, off + k * 2, none⟩ = some (.int .i64 (ts[k]).1) := by rw [hw.cell (p := ⟨g, off + k * 2, none⟩) hgs]; exact p1
      have c2 : wr.cell? ⟨g, off + k * 2 + 1, none⟩ = some (.int .i64 (ts[k]).2) := by rw [hw.cell (p := ⟨g, off + k * 2 + 1, none⟩) hgs]; exact p2
      have d1 : wr.cell? ⟨g', off' + k * 2, none⟩ = some (.int .i64 (ts[k]).1) := by rw [hw.cell (p := ⟨g', off' + k * 2, none⟩) hgs']; exact q1
      have d2 : wr.cell? ⟨g', off' + k * 2 + 1, none⟩ = some (.int .i64 (ts[k]).2) := by rw [hw.cell (p := ⟨g', off' + k * 2 + 1, none⟩) hgs']; exact q2
      generalize (ts[k]).1 = x at c1 d1
      generalize (ts[k]).2 = y at c2 d2
      have hsz := hw.size
      have hgr : g < wr.heap.size := by omega
      have hgr' : g' < wr.heap.size := by omega
      clear hce hce' p1 p2 q1 q2
      have hki : (k : Int) < (ts.length : Int) := by omega
      have hk0 : (0 : Int) ≤ (k : Int) := by omega
      go_wp2_with fail
      go_quiet (fail)
      go_wp2_with fail
      go_roundw
      case rel => exact ⟨k + 1, by omega, by go_num, (hw.alloc (by omega) _).trans (drewN_below _ _ _)⟩
      case measure => simp [intOf]; omega
    · go_wp2_with fail
      go_ret
      exact ⟨rfl, hw⟩
end Go.Proofs.YtkmbhgbmdeoppabDoor

/-
  Plain lemmas: what ReplaceAll makes of one byte, and that two such steps give the text with a stroke ahead of each quote and each stroke; no program is named here.
-/
namespace Go.Proofs.YtkmbhgbmdeoppabDoor
open Go.RowKit

def rep1 (c : UInt8) (new : List UInt8) (x : UInt8) : List UInt8 := if x = c then new else [x]

theorem rep_none (c : UInt8) (new l : List UInt8) (h : ∀ k : Nat, l[k]? ≠ some c) : l.flatMap (rep1 c new) = l := by
  induction l with
  | nil => rfl
  | cons a l ih =>
    have ha : a ≠ c := fun e => h 0 (by simp [e])
    have hl := ih (fun k hk => h (k + 1) (by simpa using hk))
    rw [List.flatMap_cons, hl]
    simp [rep1, ha]

theorem rep_split (c : UInt8) (new l : List UInt8) (i : Nat) (h : l[i]? = some c) (hn : ∀ k : Nat, k < i → l[k]? ≠ some c) :
    l.flatMap (rep1 c new) = l.take i ++ new ++ (l.drop (i + 1)).flatMap (rep1 c new) := by
  have hi : i < l.length := by
    rcases Nat.lt_or_ge i l.length with h1 | h1
    · exact h1
    · rw [List.getElem?_eq_none h1] at h; cases h
  have e : l = l.take i ++ c :: l.drop (i + 1) := by
    have hc : l[i] = c := by rw [List.getElem?_eq_getElem hi] at h; exact Option.some.inj h
    rw [← hc, ← List.drop_eq_getElem_cons hi, List.take_append_drop]
  have ht : (l.take i).flatMap (rep1 c new) = l.take i := by
    apply rep_none
    intro k hk
    rw [List.getElem?_take] at hk
    split at hk
    · exact hn k (by assumption) hk
    · cases hk
  have e2 : l.flatMap (rep1 c new) = (l.take i ++ c :: l.drop (i + 1)).flatMap (rep1 c new) := by rw [← e]
  rw [e2, List.flatMap_append, List.flatMap_cons, ht]
  simp [rep1]

theorem replaceK_one (c : UInt8) (new : List UInt8) : ∀ (k : Nat) (l : List UInt8), Lib.count l [c] = k → Lib.replaceK [c] new k l = l.flatMap (rep1 c new)
  | 0, l, h => by
    have hi : Lib.index l [c] = -1 := by
      have hge := Lib.index_ge l [c]
      rcases Lib.index_spec l [c] with ⟨hm, _⟩ | ⟨i, hi, _⟩
      · exact hm
      · rw [Lib.count_hit (by simp) hi] at h; omega
    rw [Lib.index_one] at hi
    rw [rep_none c new l (Lib.indexByte_none hi)]
    rfl
  | k + 1, l, h => by
    obtain ⟨i, hi⟩ := Lib.index_of_count (s := l) (old := [c]) (by omega)
    have hc := Lib.count_hit (sub := [c]) (by simp) hi
    rw [Lib.replaceK_hit [c] new k l i hi, List.length_singleton]
    rw [List.length_singleton] at hc
    rw [replaceK_one c new k _ (by omega)]
    rw [Lib.index_one] at hi
    obtain ⟨h1, h2⟩ := Lib.indexByte_some hi
    rw [← rep_split c new l i h1 h2]

theorem replaceAll_one (c : UInt8) (new l : List UInt8) (hne : [c] ≠ new) : Lib.replaceAll l [c] new = l.flatMap (rep1 c new) := by
  unfold Lib.replaceAll Lib.replace
  have : ([c] == new) = false := beq_eq_false_iff_ne.2 hne
  rw [this]
  simp only [Bool.false_eq_true, if_false]
  unfold Lib.replaceNum
  rw [if_pos (Or.inl (by decide))]
  exact replaceK_one c new _ l rfl

theorem rep_len (c : UInt8) (new l : List UInt8) (h : new.length ≤ 2) : (l.flatMap (rep1 c new)).length ≤ 2 * l.length := by
  induction l with
  | nil => simp
  | cons a l ih =>
    have h1 : (rep1 c new a).length ≤ 2 := by
      unfold rep1; split
      · exact h
      · simp
    rw [List.flatMap_cons, List.length_append, List.length_cons]
    omega

theorem rep_rep (l : List UInt8) : (l.flatMap (rep1 92 [92, 92])).flatMap (rep1 34 [92, 34]) = esc l := by
  induction l with
  | nil => rfl
  | cons a l ih =>
    have e : esc (a :: l) = esc1 a ++ esc l := by simp [esc]
    rw [List.flatMap_cons, List.flatMap_append, ih, e]
    congr 1
    unfold esc1
    by_cases h92 : a = 92
    · subst h92; rfl
    · by_cases h34 : a = 34
      · subst h34; rfl
      · simp [rep1, h92, h34]
end Go.Proofs.YtkmbhgbmdeoppabDoor

/-
  Wants with blanks around the commas, in plain lists; no program is named here.
-/
namespace Go.Proofs.YtkmbhgbmdeoppabDoor
open Go.RowKit

def gapT : List (List UInt8) → List (List UInt8)
  | [] => []
  | [x] => [9 :: 32 :: x]
  | x :: y :: r => (9 :: 32 :: (x ++ [32])) :: gapT (y :: r)
def gapsP : List (List UInt8) → List (List UInt8)
  | [] => []
  | [x] => [x]
  | x :: y :: r => (x ++ [32]) :: gapT (y :: r)
theorem rep_stay (x : List UInt8) (h : ∀ b ∈ x, b ≠ 44) : x.flatMap (rep1 44 [32, 44, 9, 32]) = x := by
  apply rep_none
  intro k hk
  exact h 44 (List.mem_of_getElem? hk) rfl
theorem gapT_join : ∀ (L : List (List UInt8)) (_ : ∀ x ∈ L, ∀ b ∈ x, b ≠ 44) (_ : L ≠ []), Lib.join (gapT L) [44] = 9 :: 32 :: (Lib.join L [44]).flatMap (rep1 44 [32, 44, 9, 32])
  | [], _, h => absurd rfl h
  | [x], h, _ => by
    have := rep_stay x (h x (by simp))
    simp [gapT, Lib.join, this]
  | x :: y :: r, h, _ => by
    have ih := gapT_join (y :: r) (fun z hz => h z (List.mem_cons_of_mem _ hz)) (by simp)
    have h1 := rep_stay x (h x (by simp))
    have hne : ∃ z q, gapT (y :: r) = z :: q := by
      cases r with
      | nil => exact ⟨_, _, rfl⟩
      | cons a b => exact ⟨_, _, rfl⟩
    obtain ⟨z, q, hq⟩ := hne
    have e1 : Lib.join (gapT (x :: y :: r)) [44] = (9 :: 32 :: (x ++ [32])) ++ [44] ++ Lib.join (gapT (y :: r)) [44] := by
      show Lib.join ((9 :: 32 :: (x ++ [32])) :: gapT (y :: r)) [44] = _
      rw [hq]; simp [Lib.join]
    have e2 : Lib.join (x :: y :: r) [44] = x ++ [44] ++ Lib.join (y :: r) [44] := by simp [Lib.join]
    rw [e1, ih, e2, List.flatMap_append, List.flatMap_append, h1]
    simp [rep1]
theorem gapsP_join (L : List (List UInt8)) (h : ∀ x ∈ L, ∀ b ∈ x, b ≠ 44) : Lib.join (gapsP L) [44] = (Lib.join L [44]).flatMap (rep1 44 [32, 44, 9, 32]) := by
  match L, h with
  | [], _ => simp [gapsP, Lib.join]
  | [x], h =>
    have := rep_stay x (h x (by simp))
    simp [gapsP, Lib.join, this]
  | x :: y :: r, h =>
    have ih := gapT_join (y :: r) (fun z hz => h z (List.mem_cons_of_mem _ hz)) (by simp)
    have h1 := rep_stay x (h x (by simp))
    have hne : ∃ z q, gapT (y :: r) = z :: q := by
      cases r with
      | nil => exact ⟨_, _, rfl⟩
      | cons a b => exact ⟨_, _, rfl⟩
    obtain ⟨z, q, hq⟩ := hne
    have e1 : Lib.join (gapsP (x :: y :: r)) [44] = (x ++ [32]) ++ [44] ++ Lib.join (gapT (y :: r)) [44] := by
      show Lib.join ((x ++ [32]) :: gapT (y :: r)) [44] = _
      rw [hq]; simp [Lib.join]
    have e2 : Lib.join (x :: y :: r) [44] = x ++ [44] ++ Lib.join (y :: r) [44] := by simp [Lib.join]
    rw [e1, ih, e2, List.flatMap_append, List.flatMap_append, h1]
    simp [rep1]
theorem gapT_trim : ∀ L : List (List UInt8), (gapT L).map trimL = L.map trimL
  | [] => rfl
  | [x] => by
    show [trimL (9 :: 32 :: x)] = [trimL x]
    rw [trimL_first _ _ (by decide), trimL_first _ _ (by decide)]
  | x :: y :: r => by
    show trimL (9 :: 32 :: (x ++ [32])) :: (gapT (y :: r)).map trimL = _
    rw [gapT_trim (y :: r), trimL_first _ _ (by decide), trimL_first _ _ (by decide), trimL_last _ _ (by decide)]
    rfl
theorem gapsP_trim (L : List (List UInt8)) : (gapsP L).map trimL = L.map trimL := by
  match L with
  | [] => rfl
  | [x] => rfl
  | x :: y :: r =>
    show trimL (x ++ [32]) :: (gapT (y :: r)).map trimL = _
    rw [gapT_trim, trimL_last _ _ (by decide)]
    rfl
theorem gapT_no : ∀ (L : List (List UInt8)) (_ : ∀ x ∈ L, ∀ b ∈ x, b ≠ 44), ∀ x ∈ gapT L, ∀ b ∈ x, b ≠ 44
  | [], _ => by simp [gapT]
  | [y], h => by
    intro x hx b hb
    simp [gapT] at hx
    subst hx
    simp at hb
    rcases hb with rfl | rfl | hb
    · decide
    · decide
    · exact h y (by simp) b hb
  | y :: z :: r, h => by
    intro x hx b hb
    rcases List.mem_cons.1 hx with rfl | hx
    · simp at hb
      rcases hb with rfl | rfl | hb | rfl
      · decide
      · decide
      · exact h y (by simp) b hb
      · decide
    · exact gapT_no (z :: r) (fun q hq => h q (List.mem_cons_of_mem _ hq)) x hx b hb
theorem gapsP_no (L : List (List UInt8)) (h : ∀ x ∈ L, ∀ b ∈ x, b ≠ 44) : ∀ x ∈ gapsP L, ∀ b ∈ x, b ≠ 44 := by
  match L, h with
  | [], _ => simp [gapsP]
  | [y], h => exact h
  | y :: z :: r, h =>
    intro x hx b hb
    rcases List.mem_cons.1 hx with rfl | hx
    · simp at hb
      rcases hb with hb | rfl
      · exact h y (by simp) b hb
      · decide
    · exact gapT_no (z :: r) (fun q hq => h q (List.mem_cons_of_mem _ hq)) x hx b hb
end Go.Proofs.YtkmbhgbmdeoppabDoor

/-
  The walk through SpanBack: it answers true and turns nothing that was there; the listed variables of package strconv hold what their text lays.
-/
namespace Go.Proofs.YtkmbhgbmdeoppabDoor
open Go.RowKit

theorem join_le (L : List (List UInt8)) (h : ∀ x ∈ L, x.length ≤ 11) : (Lib.join L [44]).length ≤ 12 * L.length := by
  match L, h with
  | [], _ => simp [Lib.join]
  | [x], h =>
    have := h x (by simp)
    simp [Lib.join]; omega
  | x :: y :: r, h =>
    have ih := join_le (y :: r) (fun z hz => h z (List.mem_cons_of_mem _ hz))
    have h1 := h x (by simp)
    have e2 : Lib.join (x :: y :: r) [44] = x ++ [44] ++ Lib.join (y :: r) [44] := by simp [Lib.join]
    rw [e2, List.length_append, List.length_append, List.length_cons]
    simp only [List.length_cons, List.length_nil] at *
    omega
theorem prSp_len {l : List Wn} {t : List UInt8} (h : prSp l = (t, 0)) : t.length ≤ 300 ∧ chkW l = 0 := by
  have hc : chkW l = 0 := by rw [← prSp_code l, h]
  rw [prSp_ok hc] at h
  obtain ⟨h1, h2, h3⟩ := chkW_zero hc
  have e := (Prod.mk.inj h).1
  refine ⟨?_, hc⟩
  rw [← e, List.length_append]
  have := join_le (l.map prW) (fun x hx => by
    obtain ⟨w, hw, rfl⟩ := List.mem_map.1 hx
    exact prW_len (List.all_eq_true.1 h1 w hw))
  rw [List.length_map] at this
  show 6 + _ ≤ _
  omega
theorem prSp_gap {l : List Wn} {t : List UInt8} (h : prSp l = (t, 0)) : paSp (t.flatMap (rep1 44 [32, 44, 9, 32])) = (l, 0) := by
  have hc : chkW l = 0 := by rw [← prSp_code l, h]
  rw [prSp_ok hc] at h
  rw [← (Prod.mk.inj h).1, List.flatMap_append]
  have hn : ∀ x ∈ l.map prW, ∀ b ∈ x, b ≠ 44 := by
    intro x hx
    obtain ⟨w, _, rfl⟩ := List.mem_map.1 hx
    exact prW_no44
  rw [rep_stay bytesB (by decide), ← gapsP_join _ hn]
  refine paSp_gap l hc _ ?_ (gapsP_no _ hn)
  rw [gapsP_trim, List.map_map]
  apply List.map_congr_left
  intro w _
  exact trim_prW w
set_option maxHeartbeats 2000000 in
set_option maxRecDepth 100000 in
theorem walkSpanBack (a0 : Value) (l0 : List Wn) (w : World) (z0 : Wl w a0 l0) (_m0 : WfW l0) (_b0 : l0.length ≤ 8796093021952) (hm : ∃ m, w.cell? ⟨0, 0, none⟩ = some (.int .i64 m)) (ht : STabs w) :
    Calls Tryd.prog 4 #[a0] w fun e w' => e = .returned (.bool true) ∧ Below w.heap.size w w' := by
  obtain ⟨m, hm⟩ := hm
  have HF : Hid (Wl w a0 l0) := z0
  have HT : Hid (STabs w) := ht
  have HM : Hid (w.cell? ⟨0, 0, none⟩ = some (.int .i64 m)) := hm
  obtain ⟨t, c, hp⟩ := pair_bi (prSp l0)
  have HP : Hid (prSp l0 = (t.data.toList, c)) := hp
  have HE : Hid (paSp (⟨#[]⟩ : ByteArray).data.toList = ([], 3)) := paSp_nil
  clear z0 ht hm hp
  go_enter Tryd.func4, Tryd.ntmps4
  go_wp2_with fail
  refine (sprint_at _ l0 t c HP.out _ HF.out HT.out.pow).mono ?_
  rintro e w1 ⟨rfl, hb1⟩
  have HB1 : Hid (Below w.heap.size w w1) := hb1
  clear hb1
  go_wp2_with fail
  refine (sparse_at ⟨#[]⟩ w1 (by decide) (HT.out.below HB1.out)).mono ?_
  rintro e w2 ⟨v2, rfl, _, hb2⟩
  have HB2 : Hid (Below w.heap.size w w2) := HB1.out.trans (hb2.mono HB1.out.size)
  rw [HE.out]
  clear hb2
  by_cases hc : c = 0
  · subst hc
    obtain ⟨hl, hchk⟩ := prSp_len HP.out
    have HTS : Hid (t.size ≤ 300) := by rw [size_list] at hl; exact hl
    have HPA : Hid (paSp t.data.toList = (l0, 0)) := by have h := paSp_back l0 hchk; rw [HP.out] at h; exact h
    have HPG : Hid (paSp (t.data.toList.flatMap (rep1 44 [32, 44, 9, 32])) = (l0, 0)) := prSp_gap HP.out
    clear hl hchk
    go_wp2_with fail
    refine (sparse_at t w2 (by have := HTS.out; omega) (HT.out.below HB2.out)).mono ?_
    rintro e w3 ⟨v3, rfl, ho3, hb3⟩
    rw [HPA.out] at ho3 ⊢
    have HO3 : Hid (Wl w3 v3 l0) := Wl.own ho3
    have HB3 : Hid (Below w.heap.size w w3) := HB2.out.trans (hb3.mono HB2.out.size)
    clear ho3 hb3
    go_wp2_with fail
    have hcm := Lib.countB_mul_le ⟨#[44]⟩ (Nat.le_refl 1) t.size t (Nat.le_refl _)
    have e44 : (⟨#[44]⟩ : ByteArray).size = 1 := rfl
    rw [e44] at hcm
    refine (Tryd.strings_ReplaceAll t ⟨#[44]⟩ ⟨#[32, 44, 9, 32]⟩ m w3 (by have := HTS.out; omega) (cell_keep HB3.out HM.out) (Nat.le_refl 1) (by show t.size + Lib.countB t ⟨#[44]⟩ * 4 ≤ _; have := HTS.out; omega)).mono ?_
    rintro e w4 ⟨rfl, hb4⟩
    obtain ⟨t2, ht2⟩ : ∃ t2 : ByteArray, (⟨(Lib.replaceAll t.data.toList (⟨#[44]⟩ : ByteArray).data.toList (⟨#[32, 44, 9, 32]⟩ : ByteArray).data.toList).toArray⟩ : ByteArray) = t2 := ⟨_, rfl⟩
    have ht2l : t2.data.toList = t.data.toList.flatMap (rep1 44 [32, 44, 9, 32]) := by
      rw [← ht2]
      show Lib.replaceAll _ [44] [32, 44, 9, 32] = _
      exact replaceAll_one 44 [32, 44, 9, 32] _ (by decide)
    have ht2s : t2.size ≤ 1200 := by
      rw [← size_list, ht2l]
      have gen : ∀ l : List UInt8, (l.flatMap (rep1 44 [32, 44, 9, 32])).length ≤ 4 * l.length := by
        intro l
        induction l with
        | nil => simp
        | cons a l ih =>
          rw [List.flatMap_cons, List.length_append, List.length_cons]
          have : (rep1 44 [32, 44, 9, 32] a).length ≤ 4 := by unfold rep1; split <;> simp
          omega
      have h := gen t.data.toList
      rw [size_list] at h
      have := HTS.out
      omega
    have HT2 : Hid (paSp t2.data.toList = (l0, 0) ∧ t2.size ≤ 1200) := ⟨by rw [ht2l]; exact HPG.out, ht2s⟩
    have HB4 : Hid (Below w.heap.size w w4) := HB3.out.trans (hb4.mono HB3.out.size)
    have HO3b : Hid (Wl w4 v3 l0) := HO3.out.below hb4
    rw [ht2]
    clear hb4 ht2 ht2l ht2s hcm e44
    go_wp2_with fail
    refine (sparse_at t2 w4 (by have := HT2.out.2; omega) (HT.out.below HB4.out)).mono ?_
    rintro e w5 ⟨v5, rfl, ho5, hb5⟩
    rw [HT2.out.1] at ho5 ⊢
    have HO5 : Hid (Wl w5 v5 l0) := Wl.own ho5
    have HO3c : Hid (Wl w5 v3 l0) := HO3b.out.below hb5
    have HB5 : Hid (Below w.heap.size w w5) := HB4.out.trans (hb5.mono HB4.out.size)
    clear ho5 hb5
    go_wp2_with fail
    refine (eqW_same a0 v3 _ w5 (HF.out.below HB5.out) HO3c.out).mono ?_
    rintro e w6 ⟨rfl, hb6⟩
    have HB6 : Hid (Below w.heap.size w w6) := HB5.out.trans (hb6.mono HB5.out.size)
    have HO5b : Hid (Wl w6 v5 l0) := HO5.out.below hb6
    clear hb6
    go_wp2_with fail
    refine (eqW_same a0 v5 _ w6 (HF.out.below HB6.out) HO5b.out).mono ?_
    rintro e w7 ⟨rfl, hb7⟩
    have HB7 : Hid (Below w.heap.size w w7) := HB6.out.trans (hb7.mono HB6.out.size)
    clear hb7
    go_wp2_with fail
    go_ret
    exact ⟨by first | rfl | simp, HB7.out⟩
  · have hcb : (c != 0) = true := by simpa using hc
    have hte : t = ⟨#[]⟩ := by
      have h := HP.out
      rw [prSp_bad (by rw [← prSp_code l0, h]; exact hc)] at h
      apply ByteArray.ext; apply Array.ext'; exact (Prod.mk.inj h).1.symm
    subst hte
    clear hc
    go_wp2_with fail
    go_ret
    exact ⟨by first | rfl | simp, HB2.out⟩
end Go.Proofs.YtkmbhgbmdeoppabDoor

/-
  A list of fields that came in, opened as a plain list of names and values; no program is named here.
-/
namespace Go.Proofs.YtkmbhgbmdeoppabDoor
open Go.RowKit Go.ChangeShapes Go.WideShapes Go.Deep

def bytesOfV : Value → List UInt8
  | .string s => s.data.toList
  | _ => []
theorem add_form (b off n : Nat) : (⟨b, off, none⟩ : Addr).add n = ⟨b, off + n, none⟩ := by
  by_cases h0 : n = 0
  · subst h0; simp [Addr.add]
  · simp [Addr.add, h0]
def fl1 {H : Type} (y : Fld) : DataW H := .agg [.lit (.string y.1), .lit (.string y.2)]

theorem open_fl {H : Type} {enc : TypeId × Value → H} {P : Program} {w : World} {base : Nat} {spare : Nat → Bool} {held : Bool} {t e : TypeId} {f0 f1 : Field} {fuel : Nat} {v : Value} {x : DataW H × List MemPlace}
    (ht : P.underlying t = some (.slice e)) (he : P.underlying e = some (.struct #[f0, f1])) (ce : P.cellsOf e = 2) (o0 : f0.offset = 0) (o1 : f1.offset = 1) (c0 : P.cellsOf f0.type = 1) (c1 : P.cellsOf f1.type = 1)
    (s0 : P.underlying f0.type = some .string) (s1 : P.underlying f1.type = some .string) (h : DataW.trod enc P w base spare held fuel t [v] = some x) :
    ∃ (ls : List Fld) (sp : List (DataW H)), Fl w v ls ∧ Most maxLen ls ∧ (x.1 = .nil ∧ ls = [] ∨ x.1 = .slice (ls.map fl1) sp) := by
  rcases open_slice_pairs ht he ce o0 o1 c0 c1 h with ⟨hcs, hx⟩ | ⟨a, len, cap, m, n, V0, V1, D0, D1, P0, P1, hcs, _, hl, hm, hmm, hx, hi⟩
  · simp only [List.cons.injEq, and_true] at hcs
    subst hcs
    have hM : Most maxLen [] := fun y hy => by cases hy
    exact ⟨[], [], Fl.nil w, hM, Or.inl ⟨by rw [hx], rfl⟩⟩
  · simp only [List.cons.injEq, and_true] at hcs
    subst hcs
    have hlm : len ≤ m := by rw [hmm]; split <;> omega
    have each : ∀ i, i < len → V0 i = .string ⟨(bytesOfV (V0 i)).toArray⟩ ∧ V1 i = .string ⟨(bytesOfV (V1 i)).toArray⟩ ∧ D0 i = .lit (.string (bytesOfV (V0 i))) ∧ D1 i = .lit (.string (bytesOfV (V1 i))) ∧ (bytesOfV (V0 i)).length ≤ maxLen ∧ (bytesOfV (V1 i)).length ≤ maxLen := by
      intro i hil
      obtain ⟨_, _, t0, t1⟩ := hi i (by omega)
      obtain ⟨a0, ha0, hd0, hz0⟩ := DataW.trod_string s0 t0
      obtain ⟨a1, ha1, hd1, hz1⟩ := DataW.trod_string s1 t1
      simp only [List.cons.injEq, and_true] at ha0 ha1
      simp only [Prod.mk.injEq] at hd0 hd1
      rw [ha0, ha1, hd0.1, hd1.1]
      refine ⟨rfl, rfl, rfl, rfl, ?_, ?_⟩
      · show a0.data.toList.length ≤ maxLen; rw [size_list]; exact hz0
      · show a1.data.toList.length ≤ maxLen; rw [size_list]; exact hz1
    refine ⟨(List.range len).map fun i => (bytesOfV (V0 i), bytesOfV (V1 i)), (List.range (m - len)).map fun j => .agg [D0 (len + j), D1 (len + j)], ⟨some a, cap, by simp, by simpa using hl, hm, fun h0 => ?_⟩, ?_, .inr ?_⟩
    rotate_left
    · intro y hy
      obtain ⟨i, hir, rfl⟩ := List.mem_map.1 hy
      obtain ⟨_, _, _, _, h5, h6⟩ := each i (List.mem_range.1 hir)
      exact ⟨h5, h6⟩
    · rw [hx]
      show DataW.slice _ _ = DataW.slice _ _
      congr 1
      rw [List.map_map]
      refine List.map_congr_left fun i hir => ?_
      obtain ⟨_, _, h3, h4, _⟩ := each i (List.mem_range.1 hir)
      show DataW.agg [D0 i, D1 i] = DataW.agg _
      rw [h3, h4]
    · simp only [List.length_map, List.length_range] at h0 ⊢
      obtain ⟨b, off, spot⟩ := a
      have hc0 := (hi 0 (by omega)).1
      have hspot : spot = none := by simpa [Addr.add] using World.cell?_spot hc0
      subst hspot
      refine ⟨b, off, rfl, ?_, fun k hk => ?_⟩
      · rw [add_form] at hc0
        exact cell_in hc0
      · obtain ⟨q0, q1, _⟩ := hi k (by omega)
        obtain ⟨h1, h2, _⟩ := each k hk
        rw [add_form] at q0 q1
        rw [List.getElem_map, List.getElem_range]
        refine ⟨?_, ?_⟩
        · rw [q0, h1]; rfl
        · rw [Nat.add_assoc, q1, h2]; rfl
end Go.Proofs.YtkmbhgbmdeoppabDoor

/-
  Pairs of numbers that came in, opened as plain data; no program is named here.
-/
namespace Go.Proofs.YtkmbhgbmdeoppabDoor
open Go.RowKit Go.ChangeShapes Go.WideShapes Go.Deep

def intOfW : Value → Int
  | .int _ n => n
  | _ => 0
def wn1 {H : Type} (y : Wn) : DataW H := .agg [.lit (.int .i64 y.1), .lit (.int .i64 y.2)]

theorem open_wl {H : Type} {enc : TypeId × Value → H} {P : Program} {w : World} {base : Nat} {spare : Nat → Bool} {held : Bool} {t e : TypeId} {f0 f1 : Field} {fuel : Nat} {v : Value} {x : DataW H × List MemPlace}
    (ht : P.underlying t = some (.slice e)) (he : P.underlying e = some (.struct #[f0, f1])) (ce : P.cellsOf e = 2) (o0 : f0.offset = 0) (o1 : f1.offset = 1) (c0 : P.cellsOf f0.type = 1) (c1 : P.cellsOf f1.type = 1)
    (s0 : P.underlying f0.type = some (.int .i64)) (s1 : P.underlying f1.type = some (.int .i64)) (h : DataW.trod enc P w base spare held fuel t [v] = some x) :
    ∃ (ts : List Wn) (sp : List (DataW H)), Wl w v ts ∧ WfW ts ∧ (x.1 = .nil ∧ ts = [] ∨ x.1 = .slice (ts.map wn1) sp) := by
  rcases open_slice_pairs ht he ce o0 o1 c0 c1 h with ⟨hcs, hx⟩ | ⟨a, len, cap, m, n, V0, V1, D0, D1, P0, P1, hcs, _, hl, hm, hmm, hx, hi⟩
  · simp only [List.cons.injEq, and_true] at hcs
    subst hcs
    have hM : WfW [] := fun y hy => by cases hy
    exact ⟨[], [], Wl.nil w, hM, Or.inl ⟨by rw [hx], rfl⟩⟩
  · simp only [List.cons.injEq, and_true] at hcs
    subst hcs
    have hlm : len ≤ m := by rw [hmm]; split <;> omega
    have each : ∀ i, i < len → V0 i = .int .i64 (intOfW (V0 i)) ∧ V1 i = .int .i64 (intOfW (V1 i)) ∧ D0 i = .lit (.int .i64 (intOfW (V0 i))) ∧ D1 i = .lit (.int .i64 (intOfW (V1 i))) ∧ (Lit.int .i64 (intOfW (V0 i))).wf = true ∧ (Lit.int .i64 (intOfW (V1 i))).wf = true := by
      intro i hil
      obtain ⟨_, _, t0, t1⟩ := hi i (by omega)
      obtain ⟨a0, ha0, hd0, hz0⟩ := DataW.trod_int s0 t0
      obtain ⟨a1, ha1, hd1, hz1⟩ := DataW.trod_int s1 t1
      simp only [List.cons.injEq, and_true] at ha0 ha1
      simp only [Prod.mk.injEq] at hd0 hd1
      rw [ha0, ha1, hd0.1, hd1.1]
      exact ⟨rfl, rfl, rfl, rfl, hz0, hz1⟩
    refine ⟨(List.range len).map fun i => (intOfW (V0 i), intOfW (V1 i)), (List.range (m - len)).map fun j => .agg [D0 (len + j), D1 (len + j)], ⟨some a, cap, by simp, by simpa using hl, hm, fun h0 => ?_⟩, ?_, .inr ?_⟩
    rotate_left
    · intro y hy
      obtain ⟨i, hir, rfl⟩ := List.mem_map.1 hy
      obtain ⟨_, _, _, _, h5, h6⟩ := each i (List.mem_range.1 hir)
      exact ⟨h5, h6⟩
    · rw [hx]
      show DataW.slice _ _ = DataW.slice _ _
      congr 1
      rw [List.map_map]
      refine List.map_congr_left fun i hir => ?_
      obtain ⟨_, _, h3, h4, _⟩ := each i (List.mem_range.1 hir)
      show DataW.agg [D0 i, D1 i] = DataW.agg _
      rw [h3, h4]
    · simp only [List.length_map, List.length_range] at h0 ⊢
      obtain ⟨b, off, spot⟩ := a
      have hc0 := (hi 0 (by omega)).1
      have hspot : spot = none := by simpa [Addr.add] using World.cell?_spot hc0
      subst hspot
      refine ⟨b, off, rfl, ?_, fun k hk => ?_⟩
      · rw [add_form] at hc0
        exact cell_in hc0
      · obtain ⟨q0, q1, _⟩ := hi k (by omega)
        obtain ⟨h1, h2, _⟩ := each k hk
        rw [add_form] at q0 q1
        rw [List.getElem_map, List.getElem_range]
        refine ⟨?_, ?_⟩
        · rw [q0, h1]; rfl
        · rw [Nat.add_assoc, q1, h2]; rfl
end Go.Proofs.YtkmbhgbmdeoppabDoor
