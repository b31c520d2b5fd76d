/-
  What readParts of package span answers; a text has fewer than 2^32 - 15 bytes; the listed variables of package strconv hold what their text lays.
-/
import Derived.Test.YtkmbhgbmdeoppabDoorMc
import Derived.Lib.BufferWrite
import Derived.Laws.Tables
import Derived.Laws.CopyOwn
import Derived.Laws.IdiomStrings
import Derived.Lib.SlBytesRow
import Derived.Deep.OwnRows
import Derived.Shelf.RegionOpenPlain
import Derived.Test.YtkmbhgbmdeoppabDoorRows
import Derived.Test.YtkmbhgbmdeoppabDoorShelf
import Derived.Laws.Rows
import Derived.Lib.Buffer
import Derived.Lib.ItoaLen
import Derived.Deep.RegionHeld3
import Derived.Below
import Derived.Laws.IdiomCopy
import Derived.Lib.ConvBytes
import Derived.Lib.LazyBuf
import Derived.Lib.BufferMore
import Derived.Laws.Slices
namespace Go.Proofs.YtkmbhgbmdeoppabDoor
open Go.RowKit

def slen : Value → Nat | .slice _ n _ => n | _ => 0
theorem rdP_lens (b rest : List UInt8) (size : Int) : (rdP b rest size).1.2.length ≤ rest.length ∧ (rdP b rest size).2.1.length ≤ rest.length := by
  obtain ⟨r1, op, h1⟩ : ∃ r1 op, cutPre rest (hdB b) = (r1, op) := ⟨_, _, rfl⟩
  obtain ⟨c, r2, told, h2⟩ : ∃ c r2 told, Lib.cut r1 c4 = (c, r2, told) := ⟨_, _, _, rfl⟩
  obtain ⟨y, n, e, h3⟩ : ∃ y n e, paC c = ((y, n), e) := ⟨_, _, _, rfl⟩
  have l1 : r1.length ≤ rest.length := by
    have : r1 = (cutPre rest (hdB b)).1 := by rw [h1]
    rw [this]
    unfold cutPre Lib.trimPrefix
    split
    · rw [List.length_drop]; omega
    · exact Nat.le_refl _
  have l2 : r2.length ≤ r1.length := by
    have : r2 = (Lib.cut r1 c4).2.1 := by rw [h2]
    rw [this]
    unfold Lib.cut
    split
    · simp only [List.length_drop]; omega
    · simp
  rw [rdP_of h1 h2 h3]
  split
  · refine ⟨?_, ?_⟩
    · simp only [List.length_take]; omega
    · show (cutPre _ _).1.length ≤ _
      unfold cutPre Lib.trimPrefix
      split
      · simp only [List.length_drop]; omega
      · simp only [List.length_drop]; omega
  · simp
theorem rdP_bi (b s : ByteArray) (size : Int) : ∃ (p q : Int) (t bh : ByteArray) (ok : Bool), rdP b.data.toList s.data.toList size = (((p, q), t.data.toList), (bh.data.toList, ok)) ∧ t.size ≤ s.size ∧ bh.size ≤ s.size := by
  have h := rdP_lens b.data.toList s.data.toList size
  rw [size_list] at h
  exact ⟨_, _, ⟨(rdP b.data.toList s.data.toList size).1.2.toArray⟩, ⟨(rdP b.data.toList s.data.toList size).2.1.toArray⟩, _, rfl, h⟩
set_option maxHeartbeats 4000000 in
set_option maxRecDepth 100000 in
theorem srdps_at (b s : ByteArray) (size : Int) (m : Int) (w : World) (hm : w.cell? ⟨0, 0, none⟩ = some (.int .i64 m)) (hs : s.size < 4294967281) (hb : b.size ≤ 140737488351232) (hT : STabs w) :
    Calls Tryd.prog 13 #[.string b, .string s, .int .i64 size] w fun e w' => ∃ (l : List Wn) (ts : List (List UInt8)) (v1 v2 : Value), e = .returned (.tuple #[v1, v2]) ∧ DEnd b.data.toList size s.data.toList l ts ∧
      (∀ x ∈ l, okC x size = true) ∧ ts.length = l.length ∧ (∀ (i : Nat) (h : i < l.length) (h2 : i < ts.length), ts[i].length = (l[i]).2.toNat - (l[i]).1.toNat) ∧ l.length ≤ 21 ∧
      w'.ownsRow w.heap.size 29 2 v1 l.length (wns l) ∧ w'.ownsRow w.heap.size 9 1 v2 ts.length (strsV ts) ∧ Below w.heap.size w w' := by
  obtain ⟨i9, hi9, hz90, hz91, hz92⟩ := info_parts info9
  obtain ⟨ic, hic, hzc0, hzc1, hzc2⟩ := info_parts infoSc
  have HM : Hid (w.cell? ⟨0, 0, none⟩ = some (.int .i64 m)) := hm
  have HB : Hid (b.size ≤ 140737488351232) := hb
  have HS : Hid (s.size < 4294967281) := hs
  have HT : Hid (STabs w) := hT
  clear hm hb hs hT
  go_enter Tryd.func13, Tryd.ntmps13
  go_wp2_with fail
  go_loopw [1, 6, 7] (fun sv v1 v2 wr => ∃ (l : List Wn) (ts : List (List UInt8)) (rest : ByteArray), sv = .string rest ∧ l.length ≤ 21 ∧ DI b.data.toList size s.data.toList l ts rest.data.toList ∧ rest.size ≤ s.size ∧
      wr.ownsRow w.heap.size 29 2 v1 l.length (wns l) ∧ wr.ownsRow w.heap.size 9 1 v2 ts.length (strsV ts) ∧ Below w.heap.size w wr) (fun _ v1 _ _ => 22 - slen v1)
  case atStart => exact ⟨[], [], s, rfl, by simp, DI.start _ _ _, Nat.le_refl _, World.ownsRow_nil _ _ _ _, World.ownsRow_nil _ _ _ _, Below.refl _ _⟩
  case round =>
    obtain ⟨l, ts, rest, rfl, hl21, hdi, hrs, hownA, hownB, hw⟩ := hrel
    have HDI : Hid (DI b.data.toList size s.data.toList l ts rest.data.toList) := hdi
    have hbt := hdi.both
    have HBT : Hid (ts.length = l.length) := hbt
    obtain ⟨ta, tc, htv, htm, htnc, _⟩ := own_form2 hownA
    obtain ⟨wa, wc, hwv, hwm, hwnc, _⟩ := own_form2 hownB
    subst htv hwv
    have HOA : Hid (wr.ownsRow w.heap.size 29 2 (.slice ta l.length tc) l.length (wns l)) := hownA
    have HOB : Hid (wr.ownsRow w.heap.size 9 1 (.slice wa ts.length wc) ts.length (strsV ts)) := hownB
    have HW : Hid (Below w.heap.size w wr) := hw
    have HRS : Hid (rest.size ≤ s.size) := hrs
    have HL21 : Hid (l.length ≤ 21) := hl21
    unfold maxLen at htm hwm
    clear hdi hownA hownB hw hbt
    by_cases h20 : l.length ≤ 20
    · have g20 : decide ((l.length : Int) ≤ 20) = true := decide_eq_true (by omega)
      obtain ⟨p, q, t, bh, ok, hr, htl, hbl⟩ := rdP_bi b rest size
      have HR : Hid (rdP b.data.toList rest.data.toList size = (((p, q), t.data.toList), (bh.data.toList, ok))) := hr
      have HSZ : Hid (t.size ≤ 281474976710656 ∧ bh.size ≤ s.size ∧ l.length ≤ 20) := ⟨by have := HS.out; omega, by omega, h20⟩
      clear hr htl hbl h20
      go_wp2_with fail
      refine (srdp_at b rest t bh p q size ok HR.out m _ (cell_keep HW.out HM.out) (by have := HS.out; have := HRS.out; omega) HB.out (HT.out.below HW.out)).mono ?_
      rintro e w2 ⟨rfl, hb2⟩
      have HOA2 : Hid (w2.ownsRow w.heap.size 29 2 (.slice ta l.length tc) l.length (wns l)) := own_below3 HOA.out hb2
      have HOB2 : Hid (w2.ownsRow w.heap.size 9 1 (.slice wa ts.length wc) ts.length (strsV ts)) := own_below3 HOB.out hb2
      have HW2 : Hid (Below w.heap.size w w2) := HW.out.trans (hb2.mono HW.out.size)
      clear hb2
      cases ok
      · have HW2A : Hid (Below w.heap.size w (w2.alloc (.cells #[.int .i64 p, .int .i64 q] 29))) := HW2.out.alloc HW2.out.size _
        go_wp2_with fail
        go_ret2
        exact ⟨l, ts, _, _, rfl, HDI.out.stop (by rw [HR.out]), HDI.out.oks, HBT.out, HDI.out.lens, HL21.out, HOA2.out.alloc _, HOB2.out.alloc _, HW2A.out⟩
      · have hownA3 := own_below3 HOA2.out (below_alloc w2 (.cells #[.int .i64 p, .int .i64 q] 29))
        have HOA3 : Hid ((w2.alloc (.cells #[.int .i64 p, .int .i64 q] 29)).ownsRow w.heap.size 29 2 (.slice ta l.length tc) l.length (wns l)) := hownA3
        clear hownA3
        go_wp2_with (at_builtin; refine wpList_append_own _ rfl _ _ 22 rfl w.heap.size 29 ic (.agg #[.int .i64 0, .int .i64 0]) 2 16 Tryd.underlying22 hic hzc0 hzc1 hzc2 rfl (by decide) _ _ _ rfl (HOA3.out.alloc _) ⟨w2.heap.size + 1, 0, none⟩ 1 1 [.int .i64 p, .int .i64 q] rfl rfl ?c1 ?c2 ?c3 ?c4 ?c5 ?_)
        case c1 =>
          intro j z h
          match j, h with
          | 0, h => simp at h; subst h; simp [Addr.add]
          | 1, h => simp at h; subst h; simp [Addr.add]
        case c2 => intro z hx; simp at hx; rcases hx with rfl | rfl <;> rfl
        case c3 => have := HSZ.out; unfold maxLen; omega
        case c4 => have := HSZ.out; omega
        case c5 => have := HW2.out.size; simp; omega
        intro v1' w4 hown' hgrow _
        obtain ⟨g1, cp1, rfl⟩ : ∃ g cap, v1' = .slice (some ⟨g, 0, none⟩) (l.length + 1) cap := by
          rcases hown'.2 with ⟨_, h0⟩ | ⟨g, cap, _, h, _⟩
          · omega
          · exact ⟨g, cap, h⟩
        have HOB4 : Hid (w4.ownsRow w.heap.size 9 1 (.slice wa ts.length wc) ts.length (strsV ts)) :=
          own_kept (own_below3 HOB2.out (below_alloc2 w2 _ _)) hgrow (sep_types (own_below3 HOA2.out (below_alloc2 w2 (.cells #[.int .i64 p, .int .i64 q] 29) (.cells #[.int .i64 p, .int .i64 q] 29))) (own_below3 HOB2.out (below_alloc2 w2 _ _)) (by decide))
        have HOA4 : Hid (w4.ownsRow w.heap.size 29 2 (.slice (some ⟨g1, 0, none⟩) (l.length + 1) cp1) (l ++ [(p, q)]).length (wns (l ++ [(p, q)]))) := by
          show World.ownsRow _ _ _ _ _ _ _
          rw [← wns_snoc, List.length_append]; exact hown'
        have HW4 : Hid (Below w.heap.size w w4) := (HW2.out.trans ((below_alloc2 w2 (.cells #[.int .i64 p, .int .i64 q] 29) (.cells #[.int .i64 p, .int .i64 q] 29)).mono HW2.out.size)).grown hgrow (by have := HW2.out.size; simp; omega) (fun bb hb => (HOA2.out.lt bb hb).1)
        clear hown' hgrow
        go_wp2_with fail
        refine (clone_big t _ HSZ.out.1).mono ?_
        rintro e w5 ⟨rfl, hb5⟩
        have HOA5 : Hid (w5.ownsRow w.heap.size 29 2 (.slice (some ⟨g1, 0, none⟩) (l.length + 1) cp1) (l ++ [(p, q)]).length (wns (l ++ [(p, q)]))) := own_below3 HOA4.out hb5
        have HOB5 : Hid (w5.ownsRow w.heap.size 9 1 (.slice wa ts.length wc) ts.length (strsV ts)) := own_below3 HOB4.out hb5
        have HW5 : Hid (Below w.heap.size w w5) := HW4.out.trans (hb5.mono HW4.out.size)
        clear hb5
        go_wp2_with (at_builtin; refine wpList_append_own _ rfl _ _ 23 rfl w.heap.size 9 i9 (.string ⟨#[]⟩) 1 16 Tryd.underlying23 hi9 hz90 hz91 hz92 rfl (by decide) _ _ _ rfl (HOB5.out.alloc _) ⟨w5.heap.size, 0, none⟩ 1 1 [.string t] rfl rfl (one_news (by simp)) (by simp [Value.oneCell']) ?c3 ?c4 ?c5 ?_)
        case c3 => have := HSZ.out; have := HBT.out; unfold maxLen; omega
        case c4 => have := HSZ.out; have := HBT.out; omega
        case c5 => have := HW5.out.size; simp; omega
        intro v2' w6 hown' hgrow _
        have HOA6 : Hid (w6.ownsRow w.heap.size 29 2 (.slice (some ⟨g1, 0, none⟩) (l.length + 1) cp1) (l ++ [(p, q)]).length (wns (l ++ [(p, q)]))) :=
          own_kept (own_below3 HOA5.out (below_alloc w5 _)) hgrow (sep_types (own_below3 HOB5.out (below_alloc w5 (.cells #[.string t] 9))) (own_below3 HOA5.out (below_alloc w5 _)) (by decide))
        have HOB6 : Hid (w6.ownsRow w.heap.size 9 1 v2' (ts ++ [t.data.toList]).length (strsV (ts ++ [t.data.toList]))) := by
          show World.ownsRow _ _ _ _ _ _ _
          have e : strsV (ts ++ [t.data.toList]) = strsV ts ++ [.string t] := by unfold strsV; rw [List.map_append]; rfl
          rw [e, List.length_append]; exact hown'
        have HW6 : Hid (Below w.heap.size w w6) := (HW5.out.trans ((below_alloc w5 (.cells #[.string t] 9)).mono HW5.out.size)).grown hgrow (by have := HW5.out.size; simp; omega) (fun bb hb => (HOB5.out.lt bb hb).1)
        clear hown' hgrow
        go_wp2_with fail
        go_roundw
        case rel => exact ⟨_, _, _, rfl, by have := HSZ.out.2.2; simp; omega, HDI.out.step HR.out, HSZ.out.2.1, HOA6.out, HOB6.out, HW6.out⟩
        case measure => have := HSZ.out.2.2; simp [slen]; omega
    · have g20 : decide ((l.length : Int) ≤ 20) = false := decide_eq_false (by omega)
      have HFULL : Hid (20 < l.length) := by show _ < _; omega
      go_wp2_with fail
      go_ret2
      exact ⟨l, ts, _, _, rfl, HDI.out.full HFULL.out, HDI.out.oks, HBT.out, HDI.out.lens, HL21.out, HOA.out, HOB.out, HW.out⟩
end Go.Proofs.YtkmbhgbmdeoppabDoor

/-
  What Unbundle of package span answers; a text has fewer than 2^32 - 15 bytes; the listed variables of package strconv hold what their text lays.
-/
namespace Go.Proofs.YtkmbhgbmdeoppabDoor
open Go.RowKit

theorem info8 : (Tryd.prog.info? 5).map (fun i => (i.zero, i.size, i.bytes)) = some (some (.int .u8 0), 1, 1) := by kernel_rfl
/-- 'copy(dst, s)', s a text that fits into a row from a place on, as one step of a region that draws. -/
theorem step_copy_row {P : Program} {ops : Array Oper} {o : Oper} {a : Act} {w : World} {K : Act → World → Prop} {Q : Exit → Act → World → Prop} {E : Prop}
    (hg : o.guard = none) (d x : Operand) (dT sT : TypeId) (hop : o.op = Op.call { callee := Callee.builtin Builtin.copy, args := #[d, x], argTypes := #[dT, sT] })
    (elem : TypeId) (hu : P.underlying dT = some (.slice elem)) (hs : (P.info? elem).map (·.size) = some 1)
    (b off dLen dCap : Nat) (hd : a.eval d = .slice (some ⟨b, off, none⟩) dLen dCap) (t : ByteArray) (hx : a.eval x = .string t) (hle : t.size ≤ dLen)
    (cur : Array Value) (ty : TypeId) (hrow : w.heap[b]? = some (.cells cur ty (0, 0))) (hfit : off + t.size ≤ cur.size)
    (hK : K (a.put o.dst (goInt t.size)) (w.setRow b (cur.toList.take off ++ Lib.byteCells t.data.toList ++ cur.toList.drop (off + t.size)).toArray)) :
    if Region.wanted o (yielded ops a.tmps) = true then Oper.wp P o a w K Q else E := by
  have hw : Region.wanted o (yielded ops a.tmps) = true := by simp [Region.wanted, hg]
  rw [if_pos hw]
  have hrun := Lib.run_copy_row_string (P := P) w dT sT o.type elem b off dLen dCap t cur ty hu hs hrow hle hfit
  unfold Oper.wp
  simp [execOp, hop, resolve, invoke, builtin, hd, hx, hrun, Result.andThen]
  rw [List.append_assoc] at hK
  exact hK
theorem ovl_cells2 (bd t : List UInt8) (p n : Nat) (hn : n = t.length) : (List.take p (Lib.byteCells bd) ++ (Lib.byteCells t ++ List.drop (p + n) (Lib.byteCells bd))).toArray = (Lib.byteCells (ovl bd p t)).toArray := by
  subst hn
  congr 1
  unfold ovl Lib.byteCells
  simp
theorem made_cells (n : Nat) : madeCells #[.int .u8 0] n = (Lib.byteCells (List.replicate n 0)).toArray := by
  apply Array.ext'
  rw [toList_madeCells_one]
  unfold Lib.byteCells
  simp
set_option maxHeartbeats 4000000 in
set_option maxRecDepth 100000 in
theorem sunbundle_at (b s : ByteArray) (size : Int) (m : Int) (w : World) (hm : w.cell? ⟨0, 0, none⟩ = some (.int .i64 m)) (hs : s.size < 4294967281) (hb : b.size ≤ 140737488351232) (hT : STabs w) :
    Calls Tryd.prog 5 #[.string b, .string s, .int .i64 size] w fun e w' => ∃ (l : List Wn) (ts : List (List UInt8)) (c : Int) (v1 v2 : Value), e = .returned (.tuple #[v1, v2, .int .i64 c]) ∧ UnbR b.data.toList s.data.toList size l ts c ∧
      w'.ownsRow w.heap.size 29 2 v1 l.length (wns l) ∧ w'.ownsRow w.heap.size 9 1 v2 ts.length (strsV ts) ∧ Below w.heap.size w w' := by
  obtain ⟨i5, hi5, hz50, hz51, hz52⟩ := info_parts info8
  have HM : Hid (w.cell? ⟨0, 0, none⟩ = some (.int .i64 m)) := hm
  have HB : Hid (b.size ≤ 140737488351232 ∧ b.size ≤ maxLen) := ⟨hb, by unfold maxLen; omega⟩
  have HS : Hid (s.size < 4294967281) := hs
  have HT : Hid (STabs w) := hT
  clear hm hb hs hT
  go_enter Tryd.func5, Tryd.ntmps5
  go_wp2_with fail
  refine (srdps_at b s size m _ HM.out HS.out HB.out.1 HT.out).mono ?_
  rintro e w1 ⟨l, ts, v1, v2, rfl, hend, hok, hboth, hlens, hl21, hownA, hownB, hb1⟩
  have HEND : Hid (DEnd b.data.toList size s.data.toList l ts) := hend
  have HOK : Hid (∀ x ∈ l, okC x size = true) := hok
  have HBT : Hid (ts.length = l.length) := hboth
  have HLN : Hid (∀ (i : Nat) (h : i < l.length) (h2 : i < ts.length), ts[i].length = (l[i]).2.toNat - (l[i]).1.toNat) := hlens
  obtain ⟨ta, tc, htv, htm, htnc, _⟩ := own_form2 hownA
  obtain ⟨wa, wc, hwv, hwm, hwnc, _⟩ := own_form2 hownB
  subst htv hwv
  have HOA : Hid (w1.ownsRow w.heap.size 29 2 (.slice ta l.length tc) l.length (wns l)) := hownA
  have HOB : Hid (w1.ownsRow w.heap.size 9 1 (.slice wa ts.length wc) ts.length (strsV ts)) := hownB
  have HW : Hid (Below w.heap.size w w1) := hb1
  have HWL : Hid (Wl w1 (.slice ta l.length tc) l) := Wl.own hownA
  unfold maxLen at htm hwm
  clear hend hok hboth hlens hownA hownB hb1
  by_cases h0 : l.length = 0
  · have g0 : ((l.length : Int) == 0) = true := beq_iff_eq.2 (by omega)
    have HL0 : Hid (l = [] ∧ ts = []) := ⟨List.eq_nil_of_length_eq_zero h0, List.eq_nil_of_length_eq_zero (by rw [HBT.out]; exact h0)⟩
    clear h0
    go_wp2_with fail
    go_ret3
    refine ⟨[], [], 3, _, _, rfl, ?_, World.ownsRow_nil _ _ _ _, World.ownsRow_nil _ _ _ _, HW.out⟩
    have h := HEND.out
    rw [HL0.out.1, HL0.out.2] at h
    exact h.none
  · have g0 : ((l.length : Int) == 0) = false := beq_eq_false_iff_ne.2 (by omega)
    obtain ⟨n, hn, hn1, hn2⟩ : ∃ n : Nat, size = (n : Int) ∧ 1 ≤ n ∧ n ≤ 99999 := by
      obtain ⟨x, hx⟩ : ∃ x, x ∈ l := by
        cases l with
        | nil => exact absurd rfl h0
        | cons x r => exact ⟨x, by simp⟩
      have := okC_is (HOK.out x hx)
      exact ⟨size.toNat, by omega, by omega, by omega⟩
    subst hn
    have HSL : Hid (Sl w1 (.slice wa ts.length wc) ts) := Sl.own HOB.out (by rw [HBT.out]; omega)
    have HN : Hid (1 ≤ n ∧ n ≤ 99999) := ⟨hn1, hn2⟩
    have HP0 : Hid ((w1.alloc (.cells (madeCells #[.int .u8 0] n) 5)).heap[w1.heap.size]? = some (.cells (Lib.byteCells (List.replicate n 0)).toArray 5 (0, 0))) := by
      show _ = _
      rw [← made_cells]; exact heap_alloc_new _ _
    clear h0 hn1 hn2
    go_wp2_with (refine wpList_make_row _ rfl _ _ 44 rfl 5 i5 (.int .u8 0) Tryd.underlying44 hi5 hz50 hz51 rfl .i64 .i64 n rfl rfl (by rw [hz52]; have := HN.out; omega) (by have := HN.out; omega) ?_)
    go_loopw [30] (fun i wr => ∃ k : Nat, k ≤ l.length ∧ i = .int .i64 k ∧ wr.heap[w1.heap.size]? = some (.cells (Lib.byteCells (ovls (List.replicate n 0) (l.take k) (ts.take k))).toArray 5 (0, 0)) ∧ Below w1.heap.size w1 wr) (fun i _ => l.length - (intOf i).toNat)
    case atStart => exact ⟨0, Nat.zero_le _, rfl, by rw [List.take_zero]; exact HP0.out, below_alloc _ _⟩
    case round =>
      obtain ⟨k, hk, rfl, hrow, hw⟩ := hrel
      have HROW : Hid (wr.heap[w1.heap.size]? = some (.cells (Lib.byteCells (ovls (List.replicate n 0) (l.take k) (ts.take k))).toArray 5 (0, 0))) := hrow
      have HWR : Hid (Below w1.heap.size w1 wr) := hw
      have HK : Hid (k ≤ l.length) := hk
      have hgl : w1.heap.size < wr.heap.size := (Array.getElem?_eq_some_iff.1 hrow).1
      clear hrow
      by_cases hlt : k < l.length
      · obtain ⟨ad', cap', hv', _, _, hc'⟩ := HWL.out
        simp only [Value.slice.injEq] at hv'
        obtain ⟨rfl, _, rfl⟩ := hv'
        obtain ⟨g, off, rfl, hgs, hce⟩ := hc' (by omega)
        obtain ⟨c1, c2⟩ := hce k hlt
        obtain ⟨sg, so, sc, hsv, _, _, hsg, hsc⟩ := HSL.out
        simp only [Value.slice.injEq] at hsv
        obtain ⟨rfl, _, rfl⟩ := hsv
        have hkt : k < ts.length := by rw [HBT.out]; exact hlt
        have c3 := hsc k hkt
        have hxk := HOK.out l[k] (List.getElem_mem hlt)
        have hlk := HLN.out k hlt hkt
        obtain ⟨o1, o2, o3, o4⟩ := okC_is hxk
        obtain ⟨i, hi⟩ : ∃ i : Nat, (l[k]).1 = (i : Int) := ⟨(l[k]).1.toNat, by omega⟩
        obtain ⟨j, hj⟩ : ∃ j : Nat, (l[k]).2 = (j : Int) := ⟨(l[k]).2.toNat, by omega⟩
        obtain ⟨tk, htk⟩ : ∃ tk : ByteArray, tk = ⟨(ts[k]).toArray⟩ := ⟨_, rfl⟩
        have htl : tk.data.toList = ts[k] := by rw [htk]
        have htz : tk.size = j - i := by rw [← size_list, htl, hlk, hi, hj]; omega
        rw [hi] at o1 o2
        rw [hj] at o2 o3
        have d1 : wr.cell? ⟨g, off + k * 2, none⟩ = some (.int .i64 (i : Int)) := by rw [hw.cell (p := ⟨g, off + k * 2, none⟩) hgs, ← hi]; exact c1
        have d2 : wr.cell? ⟨g, off + k * 2 + 1, none⟩ = some (.int .i64 (j : Int)) := by rw [hw.cell (p := ⟨g, off + k * 2 + 1, none⟩) hgs, ← hj]; exact c2
        have d3 : wr.cell? ⟨sg, so + k, none⟩ = some (.string tk) := by rw [hw.cell (p := ⟨sg, so + k, none⟩) hsg, htk]; exact c3
        have hgr : g < wr.heap.size := by omega
        have hsgr : sg < wr.heap.size := by omega
        have HSTEP : Hid (ovls (List.replicate n 0) (l.take (k + 1)) (ts.take (k + 1)) = ovl (ovls (List.replicate n 0) (l.take k) (ts.take k)) i tk.data.toList) := by
          show _ = _
          rw [ovls_take _ _ _ _ hlt hkt, htl, hi]; rfl
        have HOL : Hid ((ovls (List.replicate n 0) (l.take k) (ts.take k)).length = n) := by
          have h := ovls_len (List.replicate n 0) (n : Int) l ts (by simp) HOK.out HLN.out k hk (by omega)
          show _ = _
          omega
        have hki : (k : Int) < (l.length : Int) := by omega
        have hkj : (k : Int) < (ts.length : Int) := by omega
        have hk0 : (0 : Int) ≤ (k : Int) := by omega
        have hij : i < j := by omega
        have hjn : j ≤ n := by omega
        have HIJ : Hid (i < j ∧ j ≤ n ∧ tk.size = j - i ∧ k < l.length) := ⟨hij, hjn, htz, hlt⟩
        have hsl : ∀ W : World, (Instr.slice 44 (.slice (some ⟨w1.heap.size, 0, none⟩) n n) (some (.int .i64 (i : Int))) (some (.int .i64 (j : Int))) none).run Tryd.prog W = .ok (.slice (some ⟨w1.heap.size, 0 + i, none⟩) (j - i) (n - i)) W :=
          fun W => Lib.run_slice_window W 44 5 Tryd.underlying44 Tryd.sizeOf5 w1.heap.size 0 n n i j hij hjn
        clear hce c1 c2 c3 hsc hxk hlk htk htl hi hj o1 o2 o3 o4 hc'
        go_wp2_with fail
        have mixed : Tryd.prog.follows Departure.mixedOrders = true := by kernel_rfl
        have HR2 : Hid ((wr.alloc (.cells #[.int .i64 (i : Int), .int .i64 (j : Int)] 29)).drew.heap[w1.heap.size]? = some (.cells (Lib.byteCells (ovls (List.replicate n 0) (l.take k) (ts.take k))).toArray 5 (0, 0))) := by
          show (wr.alloc _).heap[_]? = _
          rw [(below_alloc wr _).block _ hgl]; exact HROW.out
        go_region_law_o (refine step_copy_row rfl _ _ 44 9 rfl 5 Tryd.underlying44 (by kernel_rfl) w1.heap.size (0 + i) (j - i) (n - i) (by simp [Act.eval, Act.put]) tk (by simp [Act.eval, Act.put]) (by rw [HIJ.out.2.2.1]; exact Nat.le_refl _) _ 5 HR2.out (by have h1 := HIJ.out; have h2 := HOL.out; simp [Lib.byteCells]; omega) ?_)
        all_goals
          obtain ⟨w3, hw3⟩ : ∃ w3, w3 = ((wr.alloc (.cells #[.int .i64 (i : Int), .int .i64 (j : Int)] 29)).drew.setRow w1.heap.size (List.take i (Lib.byteCells (ovls (List.replicate n 0) (List.take k l) (List.take k ts))) ++ (Lib.byteCells tk.data.toList ++ List.drop (i + (j - i)) (Lib.byteCells (ovls (List.replicate n 0) (List.take k l) (List.take k ts))))).toArray) := ⟨_, rfl⟩
          have HROW3 : Hid (w3.heap[w1.heap.size]? = some (.cells (Lib.byteCells (ovls (List.replicate n 0) (l.take (k + 1)) (ts.take (k + 1)))).toArray 5 (0, 0))) := by
            show _ = _
            rw [hw3, setRow_heap _ _ _ _ _ _ HR2.out, ovl_cells2 _ _ _ _ (by rw [size_list]; exact HIJ.out.2.2.1.symm), ← HSTEP.out]
          have HW3 : Hid (Below w1.heap.size w1 w3) := by
            show Below _ _ _
            rw [hw3]
            exact below_setRow (HWR.out.alloc HWR.out.size _).drew (Nat.le_refl _) _
          rw [← hw3]
          clear hw3
          go_wp2_with fail
          go_roundw
          case rel => exact ⟨k + 1, HIJ.out.2.2.2, by go_num, HROW3.out, HW3.out⟩
          case measure => have := HIJ.out; simp [intOf]; omega
      · have HEnd : Hid (k = l.length) := by show _ = _; omega
        have hkf : ¬ (k : Int) < (l.length : Int) := by omega
        obtain ⟨bd, hbd⟩ : ∃ bd : ByteArray, bd.data.toList = ovls (List.replicate n 0) (l.take k) (ts.take k) := ⟨⟨(ovls (List.replicate n 0) (l.take k) (ts.take k)).toArray⟩, rfl⟩
        have hbz : bd.size = n := by
          have h := ovls_len (List.replicate n 0) (n : Int) l ts (by simp) HOK.out HLN.out k hk (by rw [HBT.out]; exact hk)
          rw [← size_list, hbd]; omega
        have HBD : Hid (bd.data.toList = ovls (List.replicate n 0) l ts ∧ bd.size = n) := by
          refine ⟨?_, hbz⟩
          rw [hbd, List.take_of_length_le (by have := HEnd.out; omega), List.take_of_length_le (by have := HEnd.out; have := HBT.out; omega)]
        have hcv : (convert 44 9 (.slice (some ⟨w1.heap.size, 0, none⟩) n n)).run Tryd.prog wr = .ok (.string bd) wr := by
          have h := run_convert_bytes_back (P := Tryd.prog) wr 44 9 5 ⟨w1.heap.size, 0, none⟩ n bd.data.toList Tryd.underlying44 Tryd.underlying5 Tryd.underlying9 (by
            intro j hj
            have hj2 : j < (ovls (List.replicate n 0) (l.take k) (ts.take k)).length := by rw [← hbd]; exact hj
            have e1 : (⟨w1.heap.size, 0, none⟩ : Addr).add j = ⟨w1.heap.size, j, none⟩ := by
              by_cases h0 : j = 0
              · subst h0; simp [Addr.add]
              · simp [Addr.add, h0]
            rw [e1, Lib.cell_of_heap HROW.out]
            simp only [Lib.byteCells]
            rw [List.getElem?_toArray, List.getElem?_map, List.getElem?_eq_getElem hj2]
            simp only [Option.map_some, hbd])
          rw [size_list, hbz] at h
          exact h
        clear hbd hbz
        obtain ⟨t, c, ht⟩ := pair_bi (bdl b.data.toList bd.data.toList l)
        have HT2 : Hid (bdl b.data.toList bd.data.toList l = (t.data.toList, c)) := ht
        have HWW : Hid (Below w.heap.size w wr) := HW.out.trans (HWR.out.mono HW.out.size)
        clear ht
        go_wp2_with fail
        refine (sbundle_at b bd (.slice ta l.length tc) l t c HT2.out _ (HWL.out.below HWR.out) HB.out.2 (HT.out.below HWW.out).pow).mono ?_
        rintro e w4 ⟨rfl, hb4⟩
        have HW4 : Hid (Below w1.heap.size w1 w4) := HWR.out.trans (hb4.mono HWR.out.size)
        clear hb4
        have HWF : Hid (Below w.heap.size w w4) := HW.out.trans (HW4.out.mono HW.out.size)
        have HOA4 : Hid (w4.ownsRow w.heap.size 29 2 (.slice ta l.length tc) l.length (wns l)) := own_below3 HOA.out HW4.out
        have HOB4 : Hid (w4.ownsRow w.heap.size 9 1 (.slice wa ts.length wc) ts.length (strsV ts)) := own_below3 HOB.out HW4.out
        have HNO : Hid (¬ (c = 0 ∧ t = s) → UnbR b.data.toList s.data.toList (n : Int) [] [] 3) := by
          intro hn
          refine HEND.out.no (bd := List.replicate n 0) (by simp) HOK.out ?_
          rw [← HBD.out.1, HT2.out]
          intro e
          obtain ⟨e1, e2⟩ := Prod.mk.inj e
          exact hn ⟨e2, by apply ByteArray.ext; apply Array.ext'; exact e1⟩
        by_cases hc : c = 0
        · subst hc
          by_cases hts : t = s
          · have hte : (t.toList == s.toList) = true := by rw [hts]; exact beq_self_eq_true _
            have HY : Hid (UnbR b.data.toList s.data.toList (n : Int) l ts 0) := HEND.out.yes (bd := bd.data.toList) (by rw [size_list, HBD.out.2]) (by rw [HT2.out, hts])
            clear HNO hts
            go_wp2_with fail
            go_ret3
            exact ⟨l, ts, 0, _, _, rfl, HY.out, HOA4.out, HOB4.out, HWF.out⟩
          · have hte : (t.toList == s.toList) = false := by
              rw [beq_eq_false_iff_ne, ByteArray.toList_eq, ByteArray.toList_eq]
              intro e; apply hts; apply ByteArray.ext; apply Array.ext'; exact e
            have HY : Hid (UnbR b.data.toList s.data.toList (n : Int) [] [] 3) := HNO.out (fun h => hts h.2)
            clear HNO hts
            go_wp2_with fail
            go_ret3
            exact ⟨[], [], 3, _, _, rfl, HY.out, World.ownsRow_nil _ _ _ _, World.ownsRow_nil _ _ _ _, HWF.out⟩
        · have hcb : (c != 0) = true := by simpa using hc
          have HY : Hid (UnbR b.data.toList s.data.toList (n : Int) [] [] 3) := HNO.out (fun h => hc h.1)
          clear HNO hc
          go_wp2_with fail
          go_ret3
          exact ⟨[], [], 3, _, _, rfl, HY.out, World.ownsRow_nil _ _ _ _, World.ownsRow_nil _ _ _ _, HWF.out⟩
end Go.Proofs.YtkmbhgbmdeoppabDoor

/-
  What chr of the document's answers computes, a contract over the program's text.
-/
namespace Go.Proofs.YtkmbhgbmdeoppabDoor
open Go.RowKit

theorem mk_data (s : ByteArray) (l : List UInt8) (h : s.data.toList = l) : s = ⟨l.toArray⟩ := by
  apply ByteArray.ext
  rw [← h, Array.toArray_toList]
theorem app_list (a b : ByteArray) : (a ++ b).data.toList = a.data.toList ++ b.data.toList := by
  rw [ByteArray.data_append, Array.toList_append]

set_option maxHeartbeats 1000000 in
set_option maxRecDepth 100000 in
theorem rchr_any (u : Nat) (h : u < 256) (w : World) :
    Calls Tryd.prog 19 #[.int .i64 (u : Int)] w fun e w' => e = .returned (.string ⟨#[UInt8.ofNat u]⟩) ∧ Below w.heap.size w w' := by
  have h1 : (u : Int) < 256 := by omega
  have h0 : (0 : Int) ≤ (u : Int) := by omega
  have hcv := run_convert_bytes_back (P := Tryd.prog) (w.alloc (.cells #[.int .u8 (u : Int)] 5)) 44 9 5 ⟨w.heap.size, 0, none⟩ 1 [UInt8.ofNat u] Tryd.underlying44 Tryd.underlying5 Tryd.underlying9 (fun j hj => by
    have hj' : j < 1 := hj
    obtain rfl : j = 0 := by omega
    rw [show (⟨w.heap.size, 0, none⟩ : Addr).add 0 = ⟨w.heap.size, 0, none⟩ from rfl, World.cell?_alloc_at _ _ _ _ (by simp)]
    simp [Nat.mod_eq_of_lt h])
  rw [show ([UInt8.ofNat u] : List UInt8).length = 1 from rfl] at hcv
  go_enter Tryd.func19, Tryd.ntmps19
  go_wp2_with fail
  go_ret
  exact ⟨rfl, (Below.refl _ w).alloc (Nat.le_refl _) _⟩
end Go.Proofs.YtkmbhgbmdeoppabDoor

/-
  What chr and Digits of the document's answers compute, each a contract over the program's text.
-/
namespace Go.Proofs.YtkmbhgbmdeoppabDoor
open Go.RowKit

theorem dec_len (u : Nat) (h : u ≤ 9223372036854775807) : (Lib.decDigits u).length ≤ 21 := by
  have := Lib.itoa_length_le (u : Int) (by omega) (by omega)
  rw [Lib.itoa, if_neg (by omega)] at this
  simpa using this

set_option maxHeartbeats 1000000 in
set_option maxRecDepth 100000 in
theorem rdigits_any (N : Nat) : ∀ (u : Nat) (_ : u ≤ N) (_ : u ≤ 9223372036854775807) (w : World),
    Calls Tryd.prog 70 #[.int .i64 (u : Int)] w fun e w' => e = .returned (.string ⟨(Lib.decDigits u).toArray⟩) ∧ Below w.heap.size w w' := by
  induction N with
  | zero =>
    intro u h1 h2 w
    obtain rfl : u = 0 := by omega
    have c := rchr_any 48 (by omega) w
    go_enter Tryd.func70, Tryd.ntmps70
    go_wp2_with fail
    refine c.mono ?_
    rintro e w1 ⟨rfl, hb⟩
    go_wp2_with fail
    go_ret
    exact ⟨ret_str (by rw [Lib.decDigits_one (by omega)]; rfl), hb⟩
  | succ N ih =>
    intro u h1 h2 w
    by_cases h10 : u < 10
    · have c := rchr_any (48 + u) (by omega) w
      have hi : (u : Int) < 10 := by omega
      have HL : Hid (Lib.decDigits u = [UInt8.ofNat (48 + u)]) := Lib.decDigits_one h10
      rw [Int.natCast_add] at c
      clear ih
      go_enter Tryd.func70, Tryd.ntmps70
      go_wp2_with fail
      refine c.mono ?_
      rintro e w1 ⟨rfl, hb⟩
      go_wp2_with fail
      go_ret
      exact ⟨ret_str (by rw [HL.out, UInt8.ofNat_add]; rfl), hb⟩
    · have c1 := ih (u / 10) (by omega) (by omega) w
      have c2 := rchr_any (48 + u % 10) (by omega)
      have hlen := dec_len (u / 10) (by omega)
      obtain ⟨t, ht⟩ : ∃ t : ByteArray, t = ⟨(Lib.decDigits (u / 10)).toArray⟩ := ⟨_, rfl⟩
      rw [← ht] at c1
      have hts : t.size ≤ 21 := by rw [← size_list, ht]; exact hlen
      have HL : Hid (Lib.decDigits u = t.data.toList ++ [UInt8.ofNat (48 + u % 10)]) := by
        show Lib.decDigits u = _
        rw [Lib.decDigits, dif_neg h10, ht]
      have hi : ¬ (u : Int) < 10 := by omega
      have hmx : (u : Int) ≤ 9223372036854775807 := by omega
      rw [Int.natCast_ediv] at c1
      clear ih ht hlen
      go_enter Tryd.func70, Tryd.ntmps70
      go_wp2_with fail
      refine c1.mono ?_
      rintro e w1 ⟨rfl, hb1⟩
      have c3 := c2 w1
      rw [Int.natCast_add, Int.natCast_emod] at c3
      clear c2
      go_wp2_with fail
      refine c3.mono ?_
      rintro e w2 ⟨rfl, hb2⟩
      have HB : Hid (Below w.heap.size w w2) := hb1.trans (hb2.mono hb1.size)
      clear hb1 hb2 c3
      go_wp2_with fail
      go_ret
      exact ⟨ret_str (mk_data _ _ (by rw [app_list, HL.out, UInt8.ofNat_add]; rfl)), HB.out⟩
end Go.Proofs.YtkmbhgbmdeoppabDoor

/-
  What the document's ContentPrint answers; all numbers fit.
-/
namespace Go.Proofs.YtkmbhgbmdeoppabDoor
open Go.RowKit

set_option maxRecDepth 100000 in
theorem rdig_at (n : Int) (h0 : 0 ≤ n) (hn : n ≤ 9223372036854775807) (t : ByteArray) (ht : t.data.toList = Lib.decDigits n.toNat) (w : World) :
    Calls Tryd.prog 70 #[.int .i64 n] w fun e w' => e = .returned (.string t) ∧ Below w.heap.size w w' := by
  obtain ⟨u, hu⟩ : ∃ u : Nat, n = u := ⟨n.toNat, by omega⟩
  have hT : t = ⟨(Lib.decDigits u).toArray⟩ := by
    have e : n.toNat = u := by omega
    rw [e] at ht
    apply ByteArray.ext; apply Array.ext'; exact ht
  subst hu
  rw [hT]
  exact rdigits_any u u (Nat.le_refl _) (by omega) w
set_option maxHeartbeats 2000000 in
set_option maxRecDepth 100000 in
theorem rcprint_at (a b size : Int) (t : ByteArray) (c : Int) (h : prC (a, b) size = (t.data.toList, c)) (w : World) :
    Calls Tryd.prog 46 #[.agg #[.int .i64 a, .int .i64 b], .int .i64 size] w fun e w' => e = .returned (.tuple #[.string t, .int .i64 c]) ∧ Below w.heap.size w w' := by
  have hw0 := below_alloc w (.cells #[.int .i64 a, .int .i64 b] 29)
  by_cases hok : okC (a, b) size = true
  · rw [prC_ok hok] at h
    obtain ⟨ht, rfl⟩ := Prod.mk.inj h
    have hl := ctB_len hok
    obtain ⟨h1, h2, h3, h4⟩ := okC_is hok
    simp only at h1 h2 h3 h4
    have g1 : ¬ a < 0 := by omega
    have g2 : ¬ b ≤ a := by omega
    have g3 : ¬ size < b := by omega
    have g4 : ¬ 99999 < size := by omega
    have hwr : IntKind.i64.wrap (b - 1) = b - 1 := by rw [IntKind.wrap_i64]; omega
    obtain ⟨x, hx⟩ : ∃ x : ByteArray, x.data.toList = Lib.decDigits a.toNat := ⟨⟨(Lib.decDigits a.toNat).toArray⟩, rfl⟩
    obtain ⟨y, hy⟩ : ∃ y : ByteArray, y.data.toList = Lib.decDigits (b - 1).toNat := ⟨⟨(Lib.decDigits (b - 1).toNat).toArray⟩, rfl⟩
    obtain ⟨z, hz⟩ : ∃ z : ByteArray, z.data.toList = Lib.decDigits size.toNat := ⟨⟨(Lib.decDigits size.toNat).toArray⟩, rfl⟩
    have HE : Hid ((⟨#[98, 121, 116, 101, 115, 32]⟩ : ByteArray) ++ x ++ ⟨#[45]⟩ ++ y ++ ⟨#[47]⟩ ++ z = t) := by
      show _ = _
      apply ByteArray.ext; apply Array.ext'
      rw [← ht]
      unfold ctB
      simp [ByteArray.data_append, hx, hy, hz]
    have hxs : x.size ≤ 5 := by rw [← size_list, hx]; exact dec_len5 _ (by omega)
    have hys : y.size ≤ 5 := by rw [← size_list, hy]; exact dec_len5 _ (by omega)
    have hzs : z.size ≤ 5 := by rw [← size_list, hz]; exact dec_len5 _ (by omega)
    have HCA : Hid (∀ W, Calls Tryd.prog 70 #[.int .i64 a] W fun e w' => e = .returned (.string x) ∧ Below W.heap.size W w') := fun W => rdig_at a (by omega) (by omega) x hx W
    have HCB : Hid (∀ W, Calls Tryd.prog 70 #[.int .i64 (b - 1)] W fun e w' => e = .returned (.string y) ∧ Below W.heap.size W w') := fun W => rdig_at (b - 1) (by omega) (by omega) y hy W
    have HCC : Hid (∀ W, Calls Tryd.prog 70 #[.int .i64 size] W fun e w' => e = .returned (.string z) ∧ Below W.heap.size W w') := fun W => rdig_at size (by omega) (by omega) z hz W
    obtain ⟨T, G, x0, hG, HG1, HG2, HG3⟩ := below_class (w.alloc (.cells #[.int .i64 a, .int .i64 b] 29))
    haveI : Nonempty T := ⟨x0⟩
    have HWK : Hid (w.alloc (.cells #[.int .i64 a, .int .i64 b] 29) = G x0) := hG
    have hall : ∀ x, (G x).cell? ⟨w.heap.size, 0, none⟩ = some (.int .i64 a) ∧ (G x).cell? ⟨w.heap.size, 1, none⟩ = some (.int .i64 b) ∧ Below w.heap.size w (G x) := by
      intro x
      have h1 := HG1.out x
      rw [← hG] at h1
      exact ⟨new_cell h1 0, new_cell h1 1, hw0.trans (h1.mono hw0.size)⟩
    have hc0 : ∀ x, (G x).cell? ⟨w.heap.size, 0, none⟩ = some (.int .i64 a) := fun x => (hall x).1
    have hc1 : ∀ x, (G x).cell? ⟨w.heap.size, 1, none⟩ = some (.int .i64 b) := fun x => (hall x).2.1
    have HBW : Hid (∀ x, Below w.heap.size w (G x)) := fun x => (hall x).2.2
    clear hall hG hw0 h hx hy hz hok ht h1 h2 h3 h4 hl
    go_enter Tryd.func46, Tryd.ntmps46
    go_wp2_with fail
    rw [HWK.out]
    refine region_in G (by kernel_rfl) (by kernel_rfl) (HG3.out _) ?_
    repeat (go_big_quiet_step (first | (go_at_call 70; with_reducible first | exact (HCA.out _).mono fun e W h => ⟨h.1, HG2.out _ W h.2⟩ | exact (HCB.out _).mono fun e W h => ⟨h.1, HG2.out _ W h.2⟩ | exact (HCC.out _).mono fun e W h => ⟨h.1, HG2.out _ W h.2⟩)))
    refine wpQuiet_nil ?_
    rintro _ ⟨x1, rfl⟩
    go_wp2_with fail
    go_ret2
    exact ⟨by rw [← HE.out]; rfl, HBW.out _⟩
  · have hok2 : okC (a, b) size = false := by simpa using hok
    rw [prC_bad hok2] at h
    obtain ⟨ht, rfl⟩ := Prod.mk.inj h
    have HT : Hid (t = ⟨#[]⟩) := by apply ByteArray.ext; apply Array.ext'; exact ht.symm
    have hn : ¬ (0 ≤ a ∧ a < b ∧ b ≤ size ∧ size ≤ 99999) := fun h => by rw [okC_of h] at hok2; cases hok2
    have hcs : a < 0 ∨ (¬ a < 0 ∧ b ≤ a) ∨ (¬ a < 0 ∧ ¬ b ≤ a ∧ size < b) ∨ (¬ a < 0 ∧ ¬ b ≤ a ∧ ¬ size < b ∧ 99999 < size) := by omega
    clear hn hok hok2 h ht
    rcases hcs with g1 | ⟨g1, g2⟩ | ⟨g1, g2, g3⟩ | ⟨g1, g2, g3, g4⟩
    all_goals
      go_enter Tryd.func46, Tryd.ntmps46
      go_wp2_with fail
      go_ret2
      exact ⟨by rw [HT.out]; rfl, hw0⟩
end Go.Proofs.YtkmbhgbmdeoppabDoor

/-
  What count of the document's answers computes, a contract over the program's text; no condition but that a string is no longer than Go allows.
-/
namespace Go.Proofs.YtkmbhgbmdeoppabDoor
open Go.RowKit

theorem ret_in {a b : Int} (h : a = b) : Ending.returned (.int .i64 a) = .returned (.int .i64 b) := by rw [h]
theorem head_at (s : ByteArray) (h : 0 < s.size) : s.data.toList.head? = some s[0] := by
  have h' : 0 < s.data.toList.length := by rw [size_list]; exact h
  rw [List.head?_eq_getElem?, List.getElem?_eq_getElem h']
  rfl
theorem numb_18 (l : List UInt8) (h : l.all isDig = true) (hl : l.length ≤ 18) : 0 ≤ numb l ∧ numb l < 1000000000000000000 := by
  obtain ⟨a, b⟩ := numb_dig l h
  refine ⟨a, Int.lt_of_lt_of_le b ?_⟩
  have : (10 : Nat) ^ l.length ≤ 10 ^ 18 := Nat.pow_le_pow_right (by decide) hl
  have e : ((10 : Nat) ^ l.length : Int) = (10 : Int) ^ l.length := rfl
  omega

theorem cnt_no (l : List UInt8) (most : Int) (h : l.length = 0 ∨ 18 < l.length ∨ (1 < l.length ∧ l.head? = some 48) ∨ l.all isDig = false) : cnt l most = -1 := if_pos h
theorem cnt_big (l : List UInt8) (most : Int) (h : most < numb l) : cnt l most = -1 := by
  unfold cnt; split <;> first | rfl | exact if_pos h
theorem cnt_yes (l : List UInt8) (most : Int) (h : ¬ (l.length = 0 ∨ 18 < l.length ∨ (1 < l.length ∧ l.head? = some 48) ∨ l.all isDig = false)) (h' : ¬ most < numb l) : cnt l most = numb l := by
  unfold cnt; rw [if_neg h, if_neg h']

set_option maxHeartbeats 1000000 in
set_option maxRecDepth 100000 in
theorem count_go (s : ByteArray) (most : Int) (w : World) (h0 : s.size ≠ 0) (h18 : s.size ≤ 18) (hh : ¬ (1 < s.size ∧ s.data.toList.head? = some 48)) :
    Calls Tryd.prog 45 #[.string s, .int .i64 most] w fun e w' => e = .returned (.int .i64 (cnt s.data.toList most)) ∧ w' = w := by
  have hp : 0 < s.size := by omega
  have hl : s.data.toList.length = s.size := size_list s
  have HN : Hid (s.data.toList.all isDig = true → ¬ (s.data.toList.length = 0 ∨ 18 < s.data.toList.length ∨ (1 < s.data.toList.length ∧ s.data.toList.head? = some 48) ∨ s.data.toList.all isDig = false)) := by
    intro ha
    rintro (g | g | g | g)
    · omega
    · omega
    · exact hh (by rw [hl] at g; exact g)
    · rw [ha] at g; cases g
  have HF : Hid (s.data.toList.all isDig = false → cnt s.data.toList most = -1) := fun h => cnt_no _ _ (.inr (.inr (.inr h)))
  have he : s.toList.isEmpty = false := by rw [ByteArray.toList_eq, isEmpty_size]; simpa using h0
  have hd : decide (18 < (s.size : Int)) = false := decide_eq_false (by omega)
  have HE : Hid (s.size = 1 ∨ 1 < s.size ∧ s[0] ≠ 48) := by
    by_cases h1 : s.size = 1
    · exact .inl h1
    · exact .inr ⟨by omega, fun h => hh ⟨by omega, by rw [head_at s hp, h]⟩⟩
  clear hl hh
  have two : ∀ b : Bool, decide (1 < (s.size : Int)) = b → (b = true → ((s[0].toNat : Int) == 48) = false) → 
    Calls Tryd.prog 45 #[.string s, .int .i64 most] w fun e w' => e = .returned (.int .i64 (cnt s.data.toList most)) ∧ w' = w := by
    intro b hb hz
    cases b
    all_goals
      first | replace hz := hz rfl | clear hz
      go_enter Tryd.func45, Tryd.ntmps45
      go_wp2_with fail
      go_loop [5, 26] (fun n i => ∃ k : Nat, k ≤ s.size ∧ i = .int .i64 k ∧ n = .int .i64 (numb (s.data.toList.take k)) ∧ (s.data.toList.take k).all isDig = true) (fun _ i => s.size - (intOf i).toNat)
      case atStart => exact ⟨0, Nat.zero_le _, rfl, rfl, rfl⟩
      case round =>
        obtain ⟨k, hk, rfl, rfl, ha⟩ := hrel
        have HA : Hid ((s.data.toList.take k).all isDig = true) := ha
        have hbd := numb_18 _ ha (by rw [List.length_take, size_list]; omega)
        clear ha
        by_cases hlt : k < s.size
        · have HS : Hid (numb (s.data.toList.take (k + 1)) = numb (s.data.toList.take k) * 10 + (s[k].toNat : Int) - 48) := by
            show numb _ = _
            rw [take_snoc s k hlt, numb_snoc]
          have hc := s[k].toNat_lt
          by_cases c1 : (s[k].toNat : Int) < 48
          · have HX : Hid (s.data.toList.all isDig = false) := all_false s isDig k hlt (by
              cases h : isDig s[k]
              · rfl
              · have := (dig_iff _).1 h; omega)
            go_wp2_with fail
            go_ret
            exact ⟨ret_in (HF.out HX.out).symm, rfl⟩
          · by_cases c2 : 57 < (s[k].toNat : Int)
            · have HX : Hid (s.data.toList.all isDig = false) := all_false s isDig k hlt (by
                cases h : isDig s[k]
                · rfl
                · have := (dig_iff _).1 h; omega)
              go_wp2_with fail
              go_ret
              exact ⟨ret_in (HF.out HX.out).symm, rfl⟩
            · have hb2 := numb_18 (s.data.toList.take (k + 1)) (by
                rw [take_snoc s k hlt, List.all_append, HA.out, List.all_cons, (dig_iff _).2 (by omega)]; rfl) (by rw [List.length_take, size_list]; omega)
              rw [HS.out] at hb2
              have c3 : 48 ≤ (s[k].toNat : Int) := by omega
              have c4 : (s[k].toNat : Int) ≤ 57 := by omega
              clear c1 c2
              go_wp2_with fail
              go_round
              case rel => exact ⟨k + 1, by omega, by go_num, by rw [HS.out]; go_num, by rw [take_snoc s k hlt, List.all_append, HA.out, List.all_cons, (dig_iff _).2 (by omega)]; rfl⟩
              case measure => simp [intOf]; omega
        · obtain rfl : k = s.size := by omega
          have HA' : Hid (s.data.toList.all isDig = true) := by have := HA.out; rw [take_all] at this; exact this
          by_cases hm : most < numb (s.data.toList.take s.size)
          · have HM : Hid (most < numb s.data.toList) := by rw [take_all] at hm; exact hm
            go_wp2_with fail
            go_ret
            exact ⟨ret_in (cnt_big _ _ HM.out).symm, rfl⟩
          · have HM : Hid (numb s.data.toList ≤ most) := by rw [take_all] at hm; exact Int.not_lt.1 hm
            go_wp2_with fail
            go_ret
            exact ⟨ret_in (by rw [cnt_yes _ _ (HN.out HA'.out) (Int.not_lt.2 HM.out), take_all]), rfl⟩
  rcases HE.out with h1 | ⟨h1, h2⟩
  · exact two false (decide_eq_false (by omega)) (fun h => by cases h)
  · refine two true (decide_eq_true (by omega)) (fun _ => ?_)
    rw [beq_eq_false_iff_ne]
    intro h
    apply h2
    apply UInt8.toNat_inj.1
    show s[0].toNat = 48
    omega

set_option maxHeartbeats 1000000 in
theorem count_any (s : ByteArray) (most : Int) (w : World) (hs : s.size ≤ maxLen) :
    Calls Tryd.prog 45 #[.string s, .int .i64 most] w fun e w' => e = .returned (.int .i64 (cnt s.data.toList most)) ∧ w' = w := by
  unfold maxLen at hs
  have hl : s.data.toList.length = s.size := size_list s
  by_cases h0 : s.size = 0
  · have HC : Hid (cnt s.data.toList most = -1) := cnt_no _ _ (.inl (by omega))
    have he : s.toList.isEmpty = true := by rw [ByteArray.toList_eq, isEmpty_size]; simpa using h0
    clear hl
    go_enter Tryd.func45, Tryd.ntmps45
    go_wp2_with fail
    go_ret
    exact ⟨ret_in HC.out.symm, rfl⟩
  by_cases h18 : 18 < s.size
  · have HC : Hid (cnt s.data.toList most = -1) := cnt_no _ _ (.inr (.inl (by omega)))
    have he : s.toList.isEmpty = false := by rw [ByteArray.toList_eq, isEmpty_size]; simpa using h0
    have hd : decide (18 < (s.size : Int)) = true := decide_eq_true (by omega)
    clear hl
    go_enter Tryd.func45, Tryd.ntmps45
    go_wp2_with fail
    go_ret
    exact ⟨ret_in HC.out.symm, rfl⟩
  by_cases hh : 1 < s.size ∧ s.data.toList.head? = some 48
  · have HC : Hid (cnt s.data.toList most = -1) := cnt_no _ _ (.inr (.inr (.inl (by rw [hl]; exact hh))))
    have he : s.toList.isEmpty = false := by rw [ByteArray.toList_eq, isEmpty_size]; simpa using h0
    have hd : decide (18 < (s.size : Int)) = false := decide_eq_false (by omega)
    have h1 := hh.1
    have hp : 0 < s.size := by omega
    have hd1 : decide (1 < (s.size : Int)) = true := decide_eq_true (by omega)
    have hz : s[0] = 48 := by have := hh.2; rw [head_at s hp] at this; exact Option.some.inj this
    have hq : ((s[0].toNat : Int) == 48) = true := by rw [hz]; rfl
    clear hl hh hz
    go_enter Tryd.func45, Tryd.ntmps45
    go_wp2_with fail
    go_ret
    exact ⟨ret_in HC.out.symm, rfl⟩
  exact count_go s most w h0 (by omega) hh
end Go.Proofs.YtkmbhgbmdeoppabDoor

/-
  Parts of a text, as laws of the slice operation.
-/
namespace Go.Proofs.YtkmbhgbmdeoppabDoor
open Go.RowKit

theorem slice_from (s : ByteArray) (a : Nat) (ha : a ≤ s.size) : ∃ r : ByteArray, r.data.toList = s.data.toList.drop a ∧ r.size = s.size - a ∧ ∀ w, (Instr.slice 9 (.string s) (some (.int .i64 (a : Int))) none none).run Tryd.prog w = .ok (.string r) w := by
  refine ⟨s.extract a s.size, ?_, ?_, fun w => ?_⟩
  · rw [Lib.extract_data, List.take_of_length_le (by rw [List.length_drop, size_list]; omega)]
  · rw [ByteArray.size_extract]; omega
  · rw [run_slice_string_l w 9 s Tryd.underlying9 .i64 (a : Int) (by omega) (by omega)]; rfl
theorem slice_part (s : ByteArray) (a b : Nat) (ha : a ≤ b) (hb : b ≤ s.size) : ∃ r : ByteArray, r.data.toList = (s.data.toList.drop a).take (b - a) ∧ r.size = b - a ∧ ∀ w, (Instr.slice 9 (.string s) (some (.int .i64 (a : Int))) (some (.int .i64 (b : Int))) none).run Tryd.prog w = .ok (.string r) w := by
  refine ⟨s.extract a b, ?_, ?_, fun w => ?_⟩
  · rw [Lib.extract_data]
  · rw [ByteArray.size_extract]; omega
  · rw [run_slice_string w 9 s .i64 .i64 _ _ Tryd.underlying9 (by omega) (by omega) (by omega)]; rfl
theorem slice_to (s : ByteArray) (b : Nat) (hb : b ≤ s.size) : ∃ r : ByteArray, r.data.toList = s.data.toList.take b ∧ r.size = b ∧ ∀ w, (Instr.slice 9 (.string s) none (some (.int .i64 (b : Int))) none).run Tryd.prog w = .ok (.string r) w := by
  refine ⟨s.extract 0 b, ?_, ?_, fun w => ?_⟩
  · rw [Lib.extract_data]; simp
  · rw [ByteArray.size_extract]; omega
  · rw [run_slice_string_h w 9 s Tryd.underlying9 .i64 (b : Int) (by omega) (by omega)]; rfl
end Go.Proofs.YtkmbhgbmdeoppabDoor

/-
  What the document's ContentParse answers; a text is no longer than Go allows.
-/
namespace Go.Proofs.YtkmbhgbmdeoppabDoor
open Go.RowKit

set_option maxHeartbeats 4000000 in
set_option maxRecDepth 100000 in
theorem rcparse_at (s : ByteArray) (a b z c : Int) (h : paC s.data.toList = (((a, b), z), c)) (w : World) (hs : s.size ≤ maxLen) :
    Calls Tryd.prog 22 #[.string s] w fun e w' => e = .returned (.tuple #[.agg #[.int .i64 a, .int .i64 b], .int .i64 z, .int .i64 c]) ∧ Below w.heap.size w w' := by
  obtain ⟨i, hi⟩ : ∃ i, Lib.indexByte s.data.toList 45 = i := ⟨_, rfl⟩
  obtain ⟨j, hj⟩ : ∃ j, Lib.indexByte s.data.toList 47 = j := ⟨_, rfl⟩
  have HI : Hid (Lib.indexByte s.data.toList 45 = i) := hi
  have HJ : Hid (Lib.indexByte s.data.toList 47 = j) := hj
  have e1 : Lib.index s.data.toList [45] = i := by rw [Lib.index_one]; exact hi
  have e2 : Lib.index s.data.toList [47] = j := by rw [Lib.index_one]; exact hj
  have hw0 := below_alloc w (.cells #[.int .i64 0, .int .i64 0] 29)
  have hsz0 : (w.alloc (.cells #[.int .i64 0, .int .i64 0] 29)).heap.size = w.heap.size + 1 := by simp
  obtain ⟨k0, k1, kf, kg, _⟩ := two_cells (Below.refl _ (w.alloc (.cells #[.int .i64 0, .int .i64 0] 29)))
  have kf0 := kf 0
  have kf1 := kf 1
  unfold maxLen at hs
  by_cases hbad : i < 6 ∨ j < i
  · have hr : a = 0 ∧ b = 0 ∧ z = 0 ∧ c = 3 := by
      unfold paC at h
      rw [e1, e2, if_pos hbad] at h
      simp only [Prod.mk.injEq] at h
      obtain ⟨⟨⟨h1, h2⟩, h3⟩, h4⟩ := h
      exact ⟨h1.symm, h2.symm, h3.symm, h4.symm⟩
    obtain ⟨rfl, rfl, rfl, rfl⟩ := hr
    have hcs : (s.size : Int) < 6 ∨ (¬ (s.size : Int) < 6 ∧ i < 6) ∨ (¬ (s.size : Int) < 6 ∧ ¬ i < 6 ∧ j < i) := by omega
    clear h hi hj e1 e2 hbad kf
    rcases hcs with g1 | ⟨g1, g2⟩ | ⟨g1, g2, g3⟩
    all_goals
      go_enter Tryd.func22, Tryd.ntmps22
      go_wp2_with fail
      refine (Tryd.strings_Index_one s 45 _).mono ?_
      rintro e w1 ⟨rfl, rfl⟩
      rw [HI.out]
      go_wp2_with fail
      refine (Tryd.strings_Index_one s 47 _).mono ?_
      rintro e w1 ⟨rfl, rfl⟩
      rw [HJ.out]
      go_wp2_with fail
      refine bodyPost_ret (by simp [results, Tryd.results22, go_sem, k0, k1]; try rfl) rfl ?_
      exact ⟨rfl, hw0⟩
  · obtain ⟨m, rfl⟩ : ∃ m : Nat, i = m := ⟨i.toNat, by omega⟩
    obtain ⟨n, rfl⟩ : ∃ n : Nat, j = n := ⟨j.toNat, by omega⟩
    have hns : n < s.size := by
      rcases idx_one_is s.data.toList 47 with h1 | ⟨k, h1, h2⟩
      · rw [hj] at h1; omega
      · rw [hj] at h1; rw [size_list] at h2; omega
    have hmn : m < n := by
      have : m ≠ n := by
        intro e
        have q1 := (Lib.indexByte_some hi).1
        have q2 := (Lib.indexByte_some hj).1
        rw [e, q2] at q1; simp at q1
      omega
    have hm6 : 6 ≤ m := by omega
    obtain ⟨p, hpl, hps, hsl1⟩ := slice_part s 6 m hm6 (by omega)
    obtain ⟨q, hql, hqs, hsl2⟩ := slice_part s (m + 1) n (by omega) (by omega)
    obtain ⟨r, hrl, hrs, hsl3⟩ := slice_from s (n + 1) (by omega)
    have sl1 : ∀ W, (Instr.slice 9 (.string s) (some (.int .i64 6)) (some (.int .i64 (m : Int))) none).run Tryd.prog W = .ok (.string p) W := hsl1
    have sl2 : ∀ W, (Instr.slice 9 (.string s) (some (.int .i64 ((m : Int) + 1))) (some (.int .i64 (n : Int))) none).run Tryd.prog W = .ok (.string q) W := fun W => by
      have := hsl2 W
      rwa [show ((m + 1 : Nat) : Int) = (m : Int) + 1 by omega] at this
    have sl3 : ∀ W, (Instr.slice 9 (.string s) (some (.int .i64 ((n : Int) + 1))) none none).run Tryd.prog W = .ok (.string r) W := fun W => by
      have := hsl3 W
      rwa [show ((n + 1 : Nat) : Int) = (n : Int) + 1 by omega] at this
    obtain ⟨x1, hx1⟩ : ∃ x1, cnt p.data.toList 99999 = x1 := ⟨_, rfl⟩
    obtain ⟨x2, hx2⟩ : ∃ x2, cnt q.data.toList 99999 = x2 := ⟨_, rfl⟩
    obtain ⟨x3, hx3⟩ : ∃ x3, cnt r.data.toList 99999 = x3 := ⟨_, rfl⟩
    have b1 := cnt_most p.data.toList 99999 (by omega)
    have b2 := cnt_most q.data.toList 99999 (by omega)
    rw [hx1] at b1
    rw [hx2] at b2
    have hX : paX s.data.toList = (x1, x2 + 1) := by
      unfold paX
      rw [e1, e2, ← hx1, ← hx2, hpl, hql]
      simp only [Int.toNat_natCast, List.drop_take]
    have hN : paN s.data.toList = x3 := by
      unfold paN
      rw [e2, ← hx3, hrl]; rfl
    obtain ⟨t, d, hpr⟩ := pair_bi (prC (x1, x2 + 1) x3)
    have HPR : Hid (prC (x1, x2 + 1) x3 = (t.data.toList, d)) := hpr
    have hgood : d = 0 → t = s → a = x1 ∧ b = x2 + 1 ∧ z = x3 ∧ c = 0 := by
      intro hd ht
      subst hd ht
      have hok : okC (x1, x2 + 1) x3 = true := by
        cases hq : okC (x1, x2 + 1) x3 with
        | true => rfl
        | false => rw [prC_bad hq] at hpr; cases (Prod.mk.inj hpr).2
      rw [prC_ok hok] at hpr
      unfold paC at h
      rw [e1, e2, if_neg hbad, hX, hN, if_pos ⟨hok, (Prod.mk.inj hpr).1⟩] at h
      simp only [Prod.mk.injEq] at h
      obtain ⟨⟨⟨h1, h2⟩, h3⟩, h4⟩ := h
      exact ⟨h1.symm, h2.symm, h3.symm, h4.symm⟩
    have hno : ¬ (d = 0 ∧ t = s) → a = 0 ∧ b = 0 ∧ z = 0 ∧ c = 3 := by
      intro hn
      have : ¬ (okC (x1, x2 + 1) x3 = true ∧ ctB (x1, x2 + 1) x3 = s.data.toList) := by
        rintro ⟨hok, hct⟩
        rw [prC_ok hok] at hpr
        exact hn ⟨(Prod.mk.inj hpr).2.symm, by apply ByteArray.ext; apply Array.ext'; rw [← (Prod.mk.inj hpr).1, hct]⟩
      unfold paC at h
      rw [e1, e2, if_neg hbad, hX, hN, if_neg this] at h
      simp only [Prod.mk.injEq] at h
      obtain ⟨⟨⟨h1, h2⟩, h3⟩, h4⟩ := h
      exact ⟨h1.symm, h2.symm, h3.symm, h4.symm⟩
    have HGOOD : Hid (d = 0 → t = s → a = x1 ∧ b = x2 + 1 ∧ z = x3 ∧ c = 0) := hgood
    have HNO : Hid (¬ (d = 0 ∧ t = s) → a = 0 ∧ b = 0 ∧ z = 0 ∧ c = 3) := hno
    have HX1 : Hid (cnt p.data.toList 99999 = x1) := hx1
    have HX2 : Hid (cnt q.data.toList 99999 = x2) := hx2
    have HX3 : Hid (cnt r.data.toList 99999 = x3) := hx3
    have hw1 : IntKind.i64.wrap ((m : Int) + 1) = (m : Int) + 1 := by rw [IntKind.wrap_i64]; omega
    have hw2 : IntKind.i64.wrap ((n : Int) + 1) = (n : Int) + 1 := by rw [IntKind.wrap_i64]; omega
    have hw3 : IntKind.i64.wrap (x2 + 1) = x2 + 1 := by rw [IntKind.wrap_i64]; omega
    have hpz : p.size ≤ maxLen := by unfold maxLen; omega
    have hqz : q.size ≤ maxLen := by unfold maxLen; omega
    have hrz : r.size ≤ maxLen := by unfold maxLen; omega
    have HCP : Hid (∀ W, Calls Tryd.prog 45 #[.string p, .int .i64 99999] W fun e w' => e = .returned (.int .i64 x1) ∧ w' = W) := fun W => by
      have := count_any p 99999 W hpz
      rwa [HX1.out] at this
    have HCQ : Hid (∀ W, Calls Tryd.prog 45 #[.string q, .int .i64 99999] W fun e w' => e = .returned (.int .i64 x2) ∧ w' = W) := fun W => by
      have := count_any q 99999 W hqz
      rwa [HX2.out] at this
    have HCR : Hid (∀ W, Calls Tryd.prog 45 #[.string r, .int .i64 99999] W fun e w' => e = .returned (.int .i64 x3) ∧ w' = W) := fun W => by
      have := count_any r 99999 W hrz
      rwa [HX3.out] at this
    have g1 : ¬ (s.size : Int) < 6 := by omega
    have g2 : ¬ (m : Int) < 6 := by omega
    have g3 : ¬ (n : Int) < (m : Int) := by omega
    clear h hi hj e1 e2 hbad kf hpl hql hrl hsl1 hsl2 hsl3 hx1 hx2 hx3 hX hN hpr hgood hno hpz hqz hrz HX1 HX2 HX3
    go_enter Tryd.func22, Tryd.ntmps22
    go_wp2_with fail
    refine (Tryd.strings_Index_one s 45 _).mono ?_
    rintro e w1 ⟨rfl, rfl⟩
    rw [HI.out]
    go_wp2_with fail
    refine (Tryd.strings_Index_one s 47 _).mono ?_
    rintro e w1 ⟨rfl, rfl⟩
    rw [HJ.out]
    go_wp2_with fail
    go_region_held3 (fun _ => True) (trivial) (first | (go_at_call 45; first | (with_reducible refine (HCP.out _).mono ?_; rintro e w3 ⟨rfl, rfl⟩) | (with_reducible refine (HCQ.out _).mono ?_; rintro e w3 ⟨rfl, rfl⟩)))
    all_goals
      go_wp2_with fail
      refine (HCR.out _).mono ?_
      rintro e w3 ⟨rfl, rfl⟩
      go_wp2_with fail
      refine (rcprint_at x1 (x2 + 1) x3 t d HPR.out _).mono ?_
      rintro e w3 ⟨rfl, hb3⟩
      have hf0 : w3.cell? ⟨w.heap.size, 0, none⟩ = some (.int .i64 0) := (hb3.cell (p := ⟨w.heap.size, 0, none⟩) (by simp; omega)).trans (by simp)
      have hf1 : w3.cell? ⟨w.heap.size, 1, none⟩ = some (.int .i64 0) := (hb3.cell (p := ⟨w.heap.size, 1, none⟩) (by simp; omega)).trans (by simp)
      have hf2 : w3.cell? ⟨w.heap.size + 1, 0, none⟩ = some (.int .i64 x1) := (hb3.cell (p := ⟨w.heap.size + 1, 0, none⟩) (by simp)).trans (by simp)
      have hf3 : w3.cell? ⟨w.heap.size + 1, 1, none⟩ = some (.int .i64 (x2 + 1)) := (hb3.cell (p := ⟨w.heap.size + 1, 1, none⟩) (by simp)).trans (by simp)
      have hfz : ∀ o, w3.frozen? ⟨w.heap.size, o, none⟩ = false := fun o => (hb3.frozen (p := ⟨w.heap.size, o, none⟩) (by simp; omega)).trans (by simp)
      have hz0 := hfz 0
      have hz1 := hfz 1
      have hbel : Below w.heap.size w w3 := (((Below.refl _ w).alloc (Nat.le_refl _) _).alloc (by simp) _).drew.trans (hb3.mono (by simp; omega))
      have hgs3 : w.heap.size + 1 < w3.heap.size := by have := hb3.size; simp at this; omega
      clear hb3 hfz
      by_cases hd : d = 0
      · subst hd
        by_cases hus : t = s
        · subst hus
          obtain ⟨rfl, rfl, rfl, rfl⟩ := HGOOD.out rfl rfl
          go_wp2_with fail
          obtain ⟨c0, c1⟩ := two_set (.int .i64 a) (.int .i64 (x2 + 1)) hf0 hf1
          obtain ⟨w4, hw4⟩ : ∃ w4, w4 = (w3.setCell ⟨w.heap.size, 0, none⟩ (.int .i64 a)).setCell ⟨w.heap.size, 1, none⟩ (.int .i64 (x2 + 1)) := ⟨_, rfl⟩
          have hb4 : Below w.heap.size w w4 := by rw [hw4]; exact (hbel.setCell (p := ⟨w.heap.size, 0, none⟩) (Nat.le_refl _) _).setCell (p := ⟨w.heap.size, 1, none⟩) (Nat.le_refl _) _
          rw [← hw4] at c0 c1 ⊢
          clear hw4
          refine bodyPost_ret (by simp [results, Tryd.results22, go_sem, c0, c1]; try rfl) rfl ?_
          exact ⟨rfl, hb4⟩
        · have hne : (t.toList == s.toList) = false := by
            rw [beq_eq_false_iff_ne, ByteArray.toList_eq, ByteArray.toList_eq]
            intro e; apply hus; apply ByteArray.ext; apply Array.ext'; exact e
          obtain ⟨rfl, rfl, rfl, rfl⟩ := HNO.out (fun e => hus e.2)
          go_wp2_with fail
          obtain ⟨c0, c1⟩ := two_set (.int .i64 0) (.int .i64 0) hf0 hf1
          obtain ⟨w4, hw4⟩ : ∃ w4, w4 = (w3.setCell ⟨w.heap.size, 0, none⟩ (.int .i64 0)).setCell ⟨w.heap.size, 1, none⟩ (.int .i64 0) := ⟨_, rfl⟩
          have hb4 : Below w.heap.size w w4 := by rw [hw4]; exact (hbel.setCell (p := ⟨w.heap.size, 0, none⟩) (Nat.le_refl _) _).setCell (p := ⟨w.heap.size, 1, none⟩) (Nat.le_refl _) _
          rw [← hw4] at c0 c1 ⊢
          clear hw4
          refine bodyPost_ret (by simp [results, Tryd.results22, go_sem, c0, c1]; try rfl) rfl ?_
          exact ⟨rfl, hb4⟩
      · have hdb : (d != 0) = true := by simpa using hd
        obtain ⟨rfl, rfl, rfl, rfl⟩ := HNO.out (fun e => hd e.1)
        go_wp2_with fail
        obtain ⟨c0, c1⟩ := two_set (.int .i64 0) (.int .i64 0) hf0 hf1
        obtain ⟨w4, hw4⟩ : ∃ w4, w4 = (w3.setCell ⟨w.heap.size, 0, none⟩ (.int .i64 0)).setCell ⟨w.heap.size, 1, none⟩ (.int .i64 0) := ⟨_, rfl⟩
        have hb4 : Below w.heap.size w w4 := by rw [hw4]; exact (hbel.setCell (p := ⟨w.heap.size, 0, none⟩) (Nat.le_refl _) _).setCell (p := ⟨w.heap.size, 1, none⟩) (Nat.le_refl _) _
        rw [← hw4] at c0 c1 ⊢
        clear hw4
        refine bodyPost_ret (by simp [results, Tryd.results22, go_sem, c0, c1]; try rfl) rfl ?_
        exact ⟨rfl, hb4⟩
end Go.Proofs.YtkmbhgbmdeoppabDoor

/-
  What allOf of the document's answers computes; no condition but that a string is no longer than Go allows.
-/
namespace Go.Proofs.YtkmbhgbmdeoppabDoor
open Go.RowKit

set_option maxHeartbeats 400000 in
set_option maxRecDepth 100000 in
theorem allOf_any (s f : ByteArray) (w : World) (hs : s.size ≤ maxLen) :
    Calls Tryd.prog 39 #[.string s, .string f] w fun e w' => e = .returned (.bool (allIn f.data.toList s.data.toList)) ∧ w' = w := by
  unfold maxLen at hs
  go_enter Tryd.func39, Tryd.ntmps39
  go_wp2_with fail
  go_loop [8] (fun i => ∃ k : Nat, k ≤ s.size ∧ i = .int .i64 k ∧ allIn f.data.toList (s.data.toList.take k) = true) (fun i => s.size - (intOf i).toNat)
  case atStart => exact ⟨0, Nat.zero_le _, rfl, rfl⟩
  case round =>
    obtain ⟨k, hk, rfl, hall⟩ := hrel
    have HA : Hid (allIn f.data.toList (s.data.toList.take k) = true) := hall
    clear hall
    by_cases hlt : k < s.size
    · cases ht : f.data.toList.contains s[k]
      · have HT : Hid (f.data.toList.contains s[k] = false) := ht
        clear ht
        go_wp2_with fail
        rw [extract_one s k hlt]
        refine (Tryd.strings_Contains_one _ _ _).mono ?_
        rintro e w' ⟨rfl, rfl⟩
        rw [← Lib.contains_iff_indexByte, HT.out]
        go_wp2_with fail
        go_ret
        refine ⟨ret_bool ?_, rfl⟩
        rw [allIn, all_false s (fun c => f.data.toList.contains c) k hlt HT.out]
      · have HT : Hid (f.data.toList.contains s[k] = true) := ht
        clear ht
        go_wp2_with fail
        rw [extract_one s k hlt]
        refine (Tryd.strings_Contains_one _ _ _).mono ?_
        rintro e w' ⟨rfl, rfl⟩
        rw [← Lib.contains_iff_indexByte, HT.out]
        go_wp2_with fail
        go_round
        case rel => exact ⟨k + 1, by omega, by go_num, by rw [take_snoc s k hlt, allIn, List.all_append, List.all_cons, HT.out, Bool.true_and, List.all_nil, Bool.and_true]; exact HA.out⟩
        case measure => simp [intOf]; omega
    · obtain rfl : k = s.size := by omega
      go_wp2_with fail
      go_ret
      refine ⟨ret_bool ?_, rfl⟩
      have h := HA.out
      rw [take_all] at h
      rw [h]
end Go.Proofs.YtkmbhgbmdeoppabDoor

/-
  What Token of the document's answers compute; no condition but that a string is no longer than Go allows.
-/
namespace Go.Proofs.YtkmbhgbmdeoppabDoor
open Go.RowKit

theorem isTok_all (c : UInt8) : [97, 98, 99, 100, 101, 102, 103, 104, 105, 106, 107, 108, 109, 110, 111, 112, 113, 114, 115, 116, 117, 118, 119, 120, 121, 122, 65, 66, 67, 68, 69, 70, 71, 72, 73, 74, 75, 76, 77, 78, 79, 80, 81, 82, 83, 84, 85, 86, 87, 88, 89, 90, 48, 49, 50, 51, 52, 53, 54, 55, 56, 57, 33, 35, 36, 37, 38, 39, 42, 43, 45, 46, 94, 95, 96, 124, 126].contains c = isTok c := by
  have := byAll (fun c => [97, 98, 99, 100, 101, 102, 103, 104, 105, 106, 107, 108, 109, 110, 111, 112, 113, 114, 115, 116, 117, 118, 119, 120, 121, 122, 65, 66, 67, 68, 69, 70, 71, 72, 73, 74, 75, 76, 77, 78, 79, 80, 81, 82, 83, 84, 85, 86, 87, 88, 89, 90, 48, 49, 50, 51, 52, 53, 54, 55, 56, 57, 33, 35, 36, 37, 38, 39, 42, 43, 45, 46, 94, 95, 96, 124, 126].contains c == isTok c) (by decide +kernel) c
  simpa using this

theorem allIn_tok (f l : List UInt8) (h : f = [97, 98, 99, 100, 101, 102, 103, 104, 105, 106, 107, 108, 109, 110, 111, 112, 113, 114, 115, 116, 117, 118, 119, 120, 121, 122, 65, 66, 67, 68, 69, 70, 71, 72, 73, 74, 75, 76, 77, 78, 79, 80, 81, 82, 83, 84, 85, 86, 87, 88, 89, 90, 48, 49, 50, 51, 52, 53, 54, 55, 56, 57, 33, 35, 36, 37, 38, 39, 42, 43, 45, 46, 94, 95, 96, 124, 126]) : allIn f l = l.all isTok := by
  subst h
  exact congrArg l.all (funext fun c => isTok_all c)

set_option maxHeartbeats 400000 in
set_option maxRecDepth 100000 in
theorem rtoken_any (s : ByteArray) (w : World) (hs : s.size ≤ maxLen) :
    Calls Tryd.prog 16 #[.string s] w fun e w' => e = .returned (.bool (token s.data.toList)) ∧ w' = w := by
  cases he : s.toList.isEmpty
  · have H : Hid (token s.data.toList = s.data.toList.all isTok) := by
      show token s.data.toList = _
      rw [token, ← ByteArray.toList_eq, he]; rfl
    go_enter Tryd.func16, Tryd.ntmps16
    go_wp2_with fail
    refine (allOf_any _ _ _ hs).mono ?_
    rintro e w' ⟨rfl, rfl⟩
    go_wp2_with fail
    go_ret
    refine ⟨ret_bool ?_, rfl⟩
    rw [H.out]
    exact allIn_tok _ _ rfl
  · have H : Hid (token s.data.toList = false) := by
      show token s.data.toList = _
      rw [token, ← ByteArray.toList_eq, he]; rfl
    go_enter Tryd.func16, Tryd.ntmps16
    go_wp2_with fail
    go_ret
    exact ⟨ret_bool H.out.symm, rfl⟩
end Go.Proofs.YtkmbhgbmdeoppabDoor

/-
  What the function outside of the document's answers computes.
-/
namespace Go.Proofs.YtkmbhgbmdeoppabDoor
open Go.RowKit

set_option maxHeartbeats 400000 in
set_option maxRecDepth 100000 in
theorem outside_any (a b c : Int) (w : World) :
    Calls Tryd.prog 17 #[.int .i64 a, .int .i64 b, .int .i64 c] w fun e w' => e = .returned (.bool (decide (a < b ∨ c < a))) ∧ w' = w := by
  by_cases h : a < b
  · rw [decide_eq_true (Or.inl h)]
    go_enter Tryd.func17, Tryd.ntmps17
    go_wp2
    go_ret
    exact ⟨rfl, rfl⟩
  · have hd : decide (a < b) = false := decide_eq_false h
    by_cases h2 : c < a
    · rw [decide_eq_true (Or.inr h2)]
      go_enter Tryd.func17, Tryd.ntmps17
      go_wp2
      go_ret
      exact ⟨ret_bool (by simp), rfl⟩
    · rw [decide_eq_false (by omega)]
      have hd2 : decide (c < a) = false := decide_eq_false h2
      go_enter Tryd.func17, Tryd.ntmps17
      go_wp2
      go_ret
      exact ⟨ret_bool (by simp), rfl⟩
end Go.Proofs.YtkmbhgbmdeoppabDoor

/-
  What the function outside of the document's answers computes, as a letter.
-/
namespace Go.Proofs.YtkmbhgbmdeoppabDoor
open Go.RowKit

theorem out_is (a b c : Int) : decide (a < b ∨ c < a) = !decide (b ≤ a ∧ a ≤ c) := by
  by_cases h : b ≤ a ∧ a ≤ c
  · rw [decide_eq_true h, decide_eq_false (by omega)]; rfl
  · rw [decide_eq_false h, decide_eq_true (by omega)]; rfl
theorem rout_at (a b c : Int) (r : Bool) (h : (!decide (b ≤ a ∧ a ≤ c)) = r) (w : World) :
    Calls Tryd.prog 17 #[.int .i64 a, .int .i64 b, .int .i64 c] w fun e w' => e = .returned (.bool r) ∧ Below w.heap.size w w' := by
  refine (outside_any a b c w).mono ?_
  rintro e w' ⟨rfl, rfl⟩
  exact ⟨ret_bool ((out_is a b c).trans h), Below.refl _ _⟩
end Go.Proofs.YtkmbhgbmdeoppabDoor

/-
  What the document's Bundle answers; texts are no longer than Go allows.
-/
namespace Go.Proofs.YtkmbhgbmdeoppabDoor
open Go.RowKit

theorem pt_len {b body : List UInt8} {x : Wn} (hb : b.length ≤ 30) (h : okC x body.length = true) : (ptB b body.length x (ctOf body x)).length ≤ 100100 := by
  have h1 := ctB_len h
  have h2 := ctOf_len h
  obtain ⟨h3, h4, h5, h6⟩ := okC_is h
  have h7 := hd_len b
  unfold ptB
  simp only [List.length_append, List.length_cons, List.length_nil]
  omega
theorem pts_len {b body : List UInt8} {l : List Wn} (hb : b.length ≤ 30) (h : ∀ x ∈ l, okC x body.length = true) : (l.flatMap (fun x => ptB b body.length x (ctOf body x))).length ≤ 100100 * l.length := by
  induction l with
  | nil => simp
  | cons x l ih =>
    have h1 := ih (fun y hy => h y (List.mem_cons_of_mem _ hy))
    have h2 := pt_len hb (h x (by simp))
    rw [List.flatMap_cons, List.length_append, List.length_cons]; omega
set_option maxHeartbeats 4000000 in
set_option maxRecDepth 100000 in
theorem rbundle_at (b body : ByteArray) (v : Value) (ls : List Wn) (t : ByteArray) (c : Int) (h : bdl b.data.toList body.data.toList ls = (t.data.toList, c)) (w : World) (hf : Wl w v ls) (hb : b.size ≤ maxLen) :
    Calls Tryd.prog 23 #[.string b, .string body, v] w fun e w' => e = .returned (.tuple #[.string t, .int .i64 c]) ∧ Below w.heap.size w w' := by
  have HF : Hid (Wl w v ls) := hf
  obtain ⟨ad, cap, rfl, hcap, hcm, _⟩ := id hf
  obtain ⟨tk, htk⟩ : ∃ tk, token b.data.toList = tk := ⟨_, rfl⟩
  have HTK : Hid (token b.data.toList = tk) := htk
  have HH : Hid (bdl b.data.toList body.data.toList ls = (t.data.toList, c)) := h
  have HB : Hid (b.size ≤ maxLen) := hb
  have hokb : okBn b.data.toList = (tk && decide (b.size ≤ 30)) := by unfold okBn; rw [htk, size_list]
  unfold maxLen at hcm
  clear hf htk h hb
  cases tk
  · have HE : Hid (t = ⟨#[]⟩ ∧ c = 3) := by
      have := HH.out
      rw [bdl_syn (by rw [hokb]; rfl)] at this
      obtain ⟨h1, h2⟩ := Prod.mk.inj this
      exact ⟨by apply ByteArray.ext; apply Array.ext'; exact h1.symm, h2.symm⟩
    clear hokb
    go_enter Tryd.func23, Tryd.ntmps23
    go_wp2_with fail
    refine (rtoken_any b _ HB.out).mono ?_
    rintro e w1 ⟨rfl, hww⟩
    rw [hww, HTK.out]
    clear hww w1
    go_wp2_with fail
    go_ret2
    exact ⟨by rw [HE.out.1, HE.out.2]; rfl, Below.refl _ _⟩
  · by_cases h30 : b.size ≤ 30
    · have g30 : ¬ (30 : Int) < (b.size : Int) := by omega
      have hok : okBn b.data.toList = true := by rw [hokb, decide_eq_true h30]; rfl
      have HOK : Hid (okBn b.data.toList = true) := hok
      clear hokb hok
      by_cases hln : ls.length = 0 ∨ 20 < ls.length
      · have HE : Hid (t = ⟨#[]⟩ ∧ c = 1) := by
          have := HH.out
          rw [bdl_arg HOK.out hln] at this
          obtain ⟨h1, h2⟩ := Prod.mk.inj this
          exact ⟨by apply ByteArray.ext; apply Array.ext'; exact h1.symm, h2.symm⟩
        have HO : Hid ((!decide ((1 : Int) ≤ (ls.length : Int) ∧ (ls.length : Int) ≤ 20)) = true) := by
          show _ = _
          rw [decide_eq_false (by omega)]; rfl
        clear hln
        go_enter Tryd.func23, Tryd.ntmps23
        go_wp2_with fail
        refine (rtoken_any b _ HB.out).mono ?_
        rintro e w1 ⟨rfl, hww⟩
        rw [hww, HTK.out]
        clear hww w1
        go_wp2_with fail
        refine (rout_at _ 1 20 true HO.out _).mono ?_
        rintro e w2 ⟨rfl, hb2⟩
        go_wp2_with fail
        go_ret2
        exact ⟨by rw [HE.out.1, HE.out.2]; rfl, hb2⟩
      · have HO : Hid ((!decide ((1 : Int) ≤ (ls.length : Int) ∧ (ls.length : Int) ≤ 20)) = false) := by
          show _ = _
          rw [decide_eq_true (by omega)]; rfl
        have HLN : Hid (¬ (ls.length = 0 ∨ 20 < ls.length)) := hln
        have hl20 : ls.length ≤ 20 := by omega
        have HBAD : Hid (∀ k (hk : k < ls.length), okC ls[k] body.size = false → t = ⟨#[]⟩ ∧ c = 1) := by
          intro k hk hno
          have := HH.out
          rw [bdl_bad HOK.out HLN.out (by rw [List.all_eq_false]; exact ⟨ls[k], List.getElem_mem hk, by rw [size_list, hno]; simp⟩)] at this
          obtain ⟨h1, h2⟩ := Prod.mk.inj this
          exact ⟨by apply ByteArray.ext; apply Array.ext'; exact h1.symm, h2.symm⟩
        clear hln
        go_enter Tryd.func23, Tryd.ntmps23
        go_wp2_with fail
        refine (rtoken_any b _ HB.out).mono ?_
        rintro e w1 ⟨rfl, hww⟩
        rw [hww, HTK.out]
        clear hww w1
        go_wp2_with fail
        refine (rout_at _ 1 20 false HO.out _).mono ?_
        rintro e w2 ⟨rfl, hb2⟩
        have HF2 : Hid (Wl w2 (.slice ad ls.length cap) ls) := HF.out.below hb2
        have HB2 : Hid (Below w.heap.size w w2) := hb2
        have hsz2 := hb2.size
        clear hb2
        go_wp2_with fail
        go_loopw [8, 26] (fun o i wr => ∃ (k : Nat) (u : ByteArray), k ≤ ls.length ∧ i = .int .i64 k ∧ o = .string u ∧ u.data.toList = (ls.take k).flatMap (fun x => ptB b.data.toList body.data.toList.length x (ctOf body.data.toList x)) ∧ Hid (∀ x ∈ ls.take k, okC x body.data.toList.length = true) ∧ Below w2.heap.size w2 wr) (fun _ i _ => ls.length - (intOf i).toNat)
        case atStart => exact ⟨0, ⟨#[]⟩, Nat.zero_le _, rfl, rfl, rfl, fun x hx => by simp at hx, Below.refl _ _⟩
        case round =>
          obtain ⟨k, u, hk, rfl, rfl, hu, hall, hw⟩ := hrel
          have hsz := hw.size
          have HU : Hid (u.data.toList = (ls.take k).flatMap (fun x => ptB b.data.toList body.data.toList.length x (ctOf body.data.toList x))) := hu
          have hus : u.size ≤ 2002000 := by
            have h1 := pts_len (by rw [size_list]; exact h30) hall.out
            have h2 := List.length_take_le k ls
            rw [← hu, size_list] at h1
            omega
          clear hu
          by_cases hlt : k < ls.length
          · obtain ⟨ad', cap', hv', _, _, hc'⟩ := HF2.out
            simp only [Value.slice.injEq] at hv'
            obtain ⟨rfl, _, rfl⟩ := hv'
            obtain ⟨g, off, rfl, hgs, hce⟩ := hc' (by omega)
            obtain ⟨c1, c2⟩ := hce k hlt
            obtain ⟨p, hp⟩ : ∃ p, p = (ls[k]).1 := ⟨_, rfl⟩
            obtain ⟨q, hq⟩ : ∃ q, q = (ls[k]).2 := ⟨_, rfl⟩
            rw [← hp] at c1
            rw [← hq] at c2
            have hE : ls[k] = (p, q) := by rw [hp, hq]
            have d1 : wr.cell? ⟨g, off + k * 2, none⟩ = some (.int .i64 p) := (hw.cell (p := ⟨g, off + k * 2, none⟩) hgs).trans c1
            have d2 : wr.cell? ⟨g, off + k * 2 + 1, none⟩ = some (.int .i64 q) := (hw.cell (p := ⟨g, off + k * 2 + 1, none⟩) hgs).trans c2
            have hgr : g < wr.heap.size := by omega
            have hki : (k : Int) < (ls.length : Int) := by omega
            have hk0 : (0 : Int) ≤ (k : Int) := by omega
            have hw0 := hw.alloc hsz (.cells #[.int .i64 p, .int .i64 q] 29)
            clear hce c1 c2 hp hq hc'
            obtain ⟨y, d, hpr⟩ := pair_bi (prC (p, q) (body.size : Int))
            have HPR : Hid (prC (p, q) (body.size : Int) = (y.data.toList, d)) := hpr
            by_cases hoc : okC (p, q) body.size = true
            · rw [prC_ok hoc] at hpr
              obtain ⟨hy, rfl⟩ := Prod.mk.inj hpr
              have hys : y.size ≤ 23 := by rw [← size_list, ← hy]; exact ctB_len hoc
              obtain ⟨o1, o2, o3, o4⟩ := okC_is hoc
              simp only at o1 o2 o3 o4
              obtain ⟨pn, rfl⟩ : ∃ pn : Nat, p = pn := ⟨p.toNat, by omega⟩
              obtain ⟨qn, rfl⟩ : ∃ qn : Nat, q = qn := ⟨q.toNat, by omega⟩
              obtain ⟨z, hzl, hzs, hsl⟩ := slice_part body pn qn (by omega) (by omega)
              have hzs2 : z.size ≤ 99999 := by omega
              have hct : ctOf body.data.toList ((pn : Int), (qn : Int)) = z.data.toList := by
                unfold ctOf
                simp only [Int.toNat_natCast]
                exact hzl.symm
              have HN : Hid ((u ++ ((((((⟨#[45, 45]⟩ : ByteArray) ++ b) ++ ⟨#[13, 10, 67, 111, 110, 116, 101, 110, 116, 45, 82, 97, 110, 103, 101, 58, 32]⟩ ++ y) ++ ⟨#[13, 10, 13, 10]⟩) ++ z) ++ ⟨#[13, 10]⟩)).data.toList = (ls.take (k + 1)).flatMap (fun x => ptB b.data.toList body.data.toList.length x (ctOf body.data.toList x))) := by
                show _ = _
                rw [List.take_succ_eq_append_getElem hlt, List.flatMap_append, List.flatMap_cons, List.flatMap_nil, List.append_nil, ← HU.out, hE, hct]
                unfold ptB hdB
                rw [size_list, hy]
                simp [ByteArray.data_append]
              have HALL : Hid (∀ x ∈ ls.take (k + 1), okC x body.data.toList.length = true) := by
                intro x hx
                rw [List.take_succ_eq_append_getElem hlt] at hx
                rcases List.mem_append.1 hx with hx | hx
                · exact hall.out x hx
                · rw [List.mem_singleton.1 hx, hE, size_list]; exact hoc
              clear hpr hy hoc hall hct hzl hE
              go_wp2_with fail
              refine (rcprint_at _ _ _ y 0 HPR.out _).mono ?_
              rintro e w3 ⟨rfl, hb3⟩
              have q0 : w3.cell? ⟨wr.heap.size, 0, none⟩ = some (.int .i64 (pn : Int)) := (hb3.cell (p := ⟨wr.heap.size, 0, none⟩) (by simp)).trans (by simp)
              have q1 : w3.cell? ⟨wr.heap.size, 1, none⟩ = some (.int .i64 (qn : Int)) := (hb3.cell (p := ⟨wr.heap.size, 1, none⟩) (by simp)).trans (by simp)
              have hw3 := hw0.trans (hb3.mono hw0.size)
              clear hb3 hw0 hw
              go_wp2_with fail
              go_roundw
              case rel => exact ⟨k + 1, _, by omega, by go_num, rfl, HN.out, HALL, hw3⟩
              case measure => simp [intOf]; omega
            · have hoc2 : okC (p, q) body.size = false := by simpa using hoc
              rw [prC_bad hoc2] at hpr
              obtain ⟨hy, rfl⟩ := Prod.mk.inj hpr
              have HE : Hid (t = ⟨#[]⟩ ∧ c = 1) := HBAD.out k hlt (by rw [hE]; exact hoc2)
              clear hpr hy hoc hoc2 hall hE
              go_wp2_with fail
              refine (rcprint_at _ _ _ y 1 HPR.out _).mono ?_
              rintro e w3 ⟨rfl, hb3⟩
              have hw3 := hw0.trans (hb3.mono hw0.size)
              clear hb3 hw0 hw
              go_wp2_with fail
              go_ret2
              exact ⟨by rw [HE.out.1, HE.out.2]; rfl, HB2.out.trans (hw3.mono hsz2)⟩
          · have HE : Hid ((((u ++ ⟨#[45, 45]⟩) ++ b) ++ ⟨#[45, 45, 13, 10]⟩ : ByteArray) = t ∧ c = 0) := by
              have := HH.out
              have ht : ls.take k = ls := List.take_of_length_le (by omega)
              rw [bdl_ok HOK.out HLN.out (by rw [List.all_eq_true]; intro x hx; exact hall.out x (by rw [ht]; exact hx))] at this
              obtain ⟨h1, h2⟩ := Prod.mk.inj this
              refine ⟨?_, h2.symm⟩
              apply ByteArray.ext; apply Array.ext'
              rw [← h1, ← ht, ← HU.out]
              unfold tlB
              simp [ByteArray.data_append]
            go_wp2_with fail
            go_ret2
            exact ⟨by rw [← HE.out.1, HE.out.2]; rfl, HB2.out.trans (hw.mono hsz2)⟩
    · have g30 : (30 : Int) < (b.size : Int) := by omega
      have HE : Hid (t = ⟨#[]⟩ ∧ c = 3) := by
        have := HH.out
        rw [bdl_syn (by rw [hokb, decide_eq_false h30]; rfl)] at this
        obtain ⟨h1, h2⟩ := Prod.mk.inj this
        exact ⟨by apply ByteArray.ext; apply Array.ext'; exact h1.symm, h2.symm⟩
      clear hokb h30
      go_enter Tryd.func23, Tryd.ntmps23
      go_wp2_with fail
      refine (rtoken_any b _ HB.out).mono ?_
      rintro e w1 ⟨rfl, hww⟩
      rw [hww, HTK.out]
      clear hww w1
      go_wp2_with fail
      go_ret2
      exact ⟨by rw [HE.out.1, HE.out.2]; rfl, Below.refl _ _⟩
end Go.Proofs.YtkmbhgbmdeoppabDoor

/-
  A row of bytes that lies in one block and is written piece by piece; no program is named here.
-/
namespace Go.Proofs.YtkmbhgbmdeoppabDoor
open Go.RowKit

/-- The block holds the bytes. -/
def BodyAt (G : Nat) (bd : List UInt8) (W : World) : Prop :=
  (∃ cur fr, W.heap[G]? = some (.cells cur 5 fr)) ∧ ∀ (i : Nat) (h : i < bd.length), W.cell? ⟨G, i, none⟩ = some (.int .u8 (bd[i].toNat : Int)) ∧ W.frozen? ⟨G, i, none⟩ = false
theorem BodyAt.lt {G : Nat} {bd : List UInt8} {W : World} (h : BodyAt G bd W) : G < W.heap.size := by
  obtain ⟨cur, fr, h⟩ := h.1
  exact (Array.getElem?_eq_some_iff.1 h).1
theorem BodyAt.same {G : Nat} {bd : List UInt8} {W W' : World} (h : BodyAt G bd W) (he : W'.heap[G]? = W.heap[G]?) : BodyAt G bd W' :=
  ⟨by rw [he]; exact h.1, fun i hi => ⟨(World.cell?_of_block (w := W) (a := ⟨G, i, none⟩) he).trans (h.2 i hi).1, (World.frozen?_of_block (w := W) (a := ⟨G, i, none⟩) he).trans (h.2 i hi).2⟩⟩
theorem BodyAt.below {G : Nat} {bd : List UInt8} {W W' : World} (h : BodyAt G bd W) (hb : Below W.heap.size W W') : BodyAt G bd W' := h.same (hb.block G h.lt)
theorem BodyAt.grown {G B size n : Nat} {e : TypeId} {v : Value} {xs : List Value} {bd : List UInt8} {W W' : World} (h : BodyAt G bd W) (ho : W.ownsRow B e size v n xs) (he : e ≠ 5) (hg : W.grownBy W' v.ownBlock) : BodyAt G bd W' := by
  refine h.same (hg.block G h.lt ?_)
  intro hv
  obtain ⟨cur, fr, hG⟩ := h.1
  rcases ho.2 with ⟨rfl, _⟩ | ⟨g, cap, cu, rfl, _, hgb, _⟩
  · cases hv
  · obtain rfl : g = G := by simpa [Value.ownBlock] using hv.symm
    rw [hG] at hgb
    injection hgb with hgb
    injection hgb with _ h2
    exact he h2.symm
theorem cells_setCells {G : Nat} {t : TypeId} : ∀ (vs : List Value) (o : Nat) (W : World), (∃ cur fr, W.heap[G]? = some (.cells cur t fr)) → ∃ cur fr, (W.setCells G o vs).heap[G]? = some (.cells cur t fr)
  | [], _, _, h => h
  | v :: r, o, W, h => by
    obtain ⟨cur, fr, h⟩ := h
    exact cells_setCells r (o + 1) _ ⟨_, fr, Lib.heap_setCell_same h v⟩
theorem BodyAt.put {G i : Nat} {bd t : List UInt8} {W : World} (h : BodyAt G bd W) (hf : i + t.length ≤ bd.length) : BodyAt G (ovl bd i t) (W.setCells G i (t.map fun x => Value.int .u8 (x.toNat : Int))) := by
  refine ⟨cells_setCells _ _ _ h.1, fun j hj => ⟨?_, ?_⟩⟩
  · rw [ovl_len hf] at hj
    have hml : (t.map fun x => Value.int .u8 (x.toNat : Int)).length = t.length := by rw [List.length_map]
    by_cases hin : i ≤ j ∧ j < i + t.length
    · have h1 := World.cell?_setCells_in G (t.map fun x => Value.int .u8 (x.toNat : Int)) i W (fun k hk => by
        rw [hml] at hk
        rw [(h.2 (i + k) (by omega)).1]; rfl) (j - i) (by rw [hml]; omega)
      rw [show i + (j - i) = j by omega] at h1
      rw [h1, List.getElem_map]
      have e := ovl_in hf hin.1 hin.2
      rw [List.getElem?_eq_getElem (by rw [ovl_len hf]; exact hj), List.getElem?_eq_getElem (by omega)] at e
      rw [Option.some.inj e]
    · rw [World.cell?_setCells_out G _ i W ⟨G, j, none⟩ (fun _ _ => by rw [hml]; show j < i ∨ i + t.length ≤ j; omega), (h.2 j hj).1]
      have e := ovl_out (k := j) hf (by omega)
      rw [List.getElem?_eq_getElem (by rw [ovl_len hf]; exact hj), List.getElem?_eq_getElem hj] at e
      rw [Option.some.inj e]
  · rw [ovl_len hf] at hj
    rw [World.frozen?_setCells]
    exact (h.2 j hj).2
theorem BodyAt.fresh (W : World) (z : ByteArray) : BodyAt W.heap.size z.data.toList (Lib.bytesWorld W 5 z) ∧ Below W.heap.size W (Lib.bytesWorld W 5 z) := by
  have hn := Lib.bytesWorld_at_new W 5 z
  refine ⟨⟨⟨_, _, hn⟩, fun i hi => ⟨?_, ?_⟩⟩, ⟨?_, ?_, ?_, ?_, fun k hk => Lib.bytesWorld_at_old W 5 z k hk⟩⟩
  · rw [Lib.bytesWorld_cell W 5 z i (by rw [← Lib.size_eq] at hi; exact hi)]
    rw [List.getD_eq_getElem?_getD, List.getElem?_eq_getElem hi]; rfl
  · have hz : z.data.toList.length ≤ (Lib.bytesCells W 5 z).size := by
      unfold Lib.bytesCells
      simp
    simp only [World.frozen?, hn]
    have : ¬ (Lib.bytesCells W 5 z).size ≤ i := by omega
    simp [this]
  · unfold Lib.bytesWorld World.freeze; split <;> rfl
  · unfold Lib.bytesWorld World.freeze; split <;> rfl
  · unfold Lib.bytesWorld World.freeze; split <;> rfl
  · rw [Lib.bytesWorld_size]; omega
theorem grown_setCells {G : Nat} : ∀ (vs : List Value) (o : Nat) (W : World), W.grownBy (W.setCells G o vs) (some G)
  | [], _, W => ⟨rfl, rfl, rfl, Nat.le_refl _, fun _ _ _ => rfl⟩
  | v :: r, o, W => by
    have h := grown_setCells (G := G) r (o + 1) (W.setCell ⟨G, o, none⟩ v)
    refine ⟨h.os, h.tape, h.output, Nat.le_trans (by simp [World.setCell]) h.size, fun k hk hne => ?_⟩
    have hkG : k ≠ G := fun e => hne (by rw [e])
    exact (h.block k (by simpa [World.setCell] using hk) hne).trans (Below.heap_setCell W ⟨G, o, none⟩ v k hkG)
theorem BodyAt.row {G B size n : Nat} {e : TypeId} {v : Value} {xs : List Value} {bd : List UInt8} {W : World} (h : BodyAt G bd W) (ho : W.ownsRow B e size v n xs) (he : e ≠ 5) (o : Nat) (vs : List Value) : (W.setCells G o vs).ownsRow B e size v n xs := by
  refine ho.kept (grown_setCells vs o W) (.inr ?_)
  intro hv
  obtain ⟨cur, fr, hG⟩ := h.1
  rcases ho.2 with ⟨rfl, _⟩ | ⟨g, cap, cu, rfl, _, hgb, _⟩
  · cases hv
  · obtain rfl : g = G := by first | exact (by simpa [Value.ownBlock] using hv) | exact (by simpa [Value.ownBlock] using hv.symm)
    rw [hG] at hgb
    injection hgb with hgb
    injection hgb with _ h2
    exact he h2.symm
theorem run_slice_low {P : Program} (W : World) (t e : TypeId) (ht : P.underlying t = some (.slice e)) (hz : ∀ w, (Go.sizeOf e).run P w = .ok 1 w) (b len cap l : Nat) (hl : l < len) (hc : len ≤ cap) :
    (Instr.slice t (.slice (some ⟨b, 0, none⟩) len cap) (some (.int .i64 (l : Int))) none none).run P W = .ok (.slice (some ⟨b, l, none⟩) (len - l) (cap - l)) W := by
  have ht' : P.underlying t = some (.slice (P.elem t)) := by simp [Program.elem, ht]
  have he : P.elem t = e := by simp [Program.elem, ht]
  rw [run_slice_l W t _ _ _ ht' .i64 _ (by omega) (by omega), he, hz]
  have hne : ¬ cap = l := by omega
  by_cases h0 : l = 0
  · subst h0
    simp [Result.andThen, sliced, Addr.add, hne]
  · simp [Result.andThen, sliced, Addr.add, hne, h0]
end Go.Proofs.YtkmbhgbmdeoppabDoor
