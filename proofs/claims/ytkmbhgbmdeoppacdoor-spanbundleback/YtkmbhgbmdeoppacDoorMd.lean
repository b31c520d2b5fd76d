/-
  What readParts of package span answers; a text has fewer than 2^32 - 15 bytes; the listed variables of package strconv hold what their text lays.
-/
import Derived.Test.YtkmbhgbmdeoppacDoorMc
import Derived.Lib.BufferWrite
import Derived.Laws.Tables
import Derived.Laws.CopyOwn
import Derived.Laws.IdiomStrings
import Derived.Lib.SlBytesRow
import Derived.Deep.OwnRows
import Derived.Shelf.RegionOpenPlain
import Derived.Test.YtkmbhgbmdeoppacDoorShelf
import Derived.Test.YtkmbhgbmdeoppacDoorRows
import Derived.BigQuiet
import Derived.Deep.QuietTactic
namespace Go.Proofs.YtkmbhgbmdeoppacDoor
open Go.RowKit

def slen : Value → Nat | .slice _ n _ => n | _ => 0
theorem rdP_lens (b rest : List UInt8) (size : Int) : (rdP b rest size).1.2.length ≤ rest.length ∧ (rdP b rest size).2.1.length ≤ rest.length := by
  obtain ⟨r1, op, h1⟩ : ∃ r1 op, cutPre rest (hdB b) = (r1, op) := ⟨_, _, rfl⟩
  obtain ⟨c, r2, told, h2⟩ : ∃ c r2 told, Lib.cut r1 c4 = (c, r2, told) := ⟨_, _, _, rfl⟩
  obtain ⟨y, n, e, h3⟩ : ∃ y n e, paC c = ((y, n), e) := ⟨_, _, _, rfl⟩
  have l1 : r1.length ≤ rest.length := by
    have : r1 = (cutPre rest (hdB b)).1 := by rw [h1]
    rw [this]
    unfold cutPre Lib.trimPrefix
    split
    · rw [List.length_drop]; omega
    · exact Nat.le_refl _
  have l2 : r2.length ≤ r1.length := by
    have : r2 = (Lib.cut r1 c4).2.1 := by rw [h2]
    rw [this]
    unfold Lib.cut
    split
    · simp only [List.length_drop]; omega
    · simp
  rw [rdP_of h1 h2 h3]
  split
  · refine ⟨?_, ?_⟩
    · simp only [List.length_take]; omega
    · show (cutPre _ _).1.length ≤ _
      unfold cutPre Lib.trimPrefix
      split
      · simp only [List.length_drop]; omega
      · simp only [List.length_drop]; omega
  · simp
theorem rdP_bi (b s : ByteArray) (size : Int) : ∃ (p q : Int) (t bh : ByteArray) (ok : Bool), rdP b.data.toList s.data.toList size = (((p, q), t.data.toList), (bh.data.toList, ok)) ∧ t.size ≤ s.size ∧ bh.size ≤ s.size := by
  have h := rdP_lens b.data.toList s.data.toList size
  rw [size_list] at h
  exact ⟨_, _, ⟨(rdP b.data.toList s.data.toList size).1.2.toArray⟩, ⟨(rdP b.data.toList s.data.toList size).2.1.toArray⟩, _, rfl, h⟩
set_option maxHeartbeats 4000000 in
set_option maxRecDepth 100000 in
theorem srdps_at (b s : ByteArray) (size : Int) (m : Int) (w : World) (hm : w.cell? ⟨0, 0, none⟩ = some (.int .i64 m)) (hs : s.size < 4294967281) (hb : b.size ≤ 140737488351232) (hT : STabs w) :
    Calls Tryd.prog 19 #[.string b, .string s, .int .i64 size] w fun e w' => ∃ (l : List Wn) (ts : List (List UInt8)) (v1 v2 : Value), e = .returned (.tuple #[v1, v2]) ∧ DEnd b.data.toList size s.data.toList l ts ∧
      (∀ x ∈ l, okC x size = true) ∧ ts.length = l.length ∧ (∀ (i : Nat) (h : i < l.length) (h2 : i < ts.length), ts[i].length = (l[i]).2.toNat - (l[i]).1.toNat) ∧ l.length ≤ 21 ∧
      w'.ownsRow w.heap.size 23 2 v1 l.length (wns l) ∧ w'.ownsRow w.heap.size 9 1 v2 ts.length (strsV ts) ∧ Below w.heap.size w w' := by
  obtain ⟨i9, hi9, hz90, hz91, hz92⟩ := info_parts info9
  obtain ⟨ic, hic, hzc0, hzc1, hzc2⟩ := info_parts infoSc
  have HM : Hid (w.cell? ⟨0, 0, none⟩ = some (.int .i64 m)) := hm
  have HB : Hid (b.size ≤ 140737488351232) := hb
  have HS : Hid (s.size < 4294967281) := hs
  have HT : Hid (STabs w) := hT
  clear hm hb hs hT
  go_enter Tryd.func19, Tryd.ntmps19
  go_wp2_with fail
  go_loopw [1, 6, 7] (fun sv v1 v2 wr => ∃ (l : List Wn) (ts : List (List UInt8)) (rest : ByteArray), sv = .string rest ∧ l.length ≤ 21 ∧ DI b.data.toList size s.data.toList l ts rest.data.toList ∧ rest.size ≤ s.size ∧
      wr.ownsRow w.heap.size 23 2 v1 l.length (wns l) ∧ wr.ownsRow w.heap.size 9 1 v2 ts.length (strsV ts) ∧ Below w.heap.size w wr) (fun _ v1 _ _ => 22 - slen v1)
  case atStart => exact ⟨[], [], s, rfl, by simp, DI.start _ _ _, Nat.le_refl _, World.ownsRow_nil _ _ _ _, World.ownsRow_nil _ _ _ _, Below.refl _ _⟩
  case round =>
    obtain ⟨l, ts, rest, rfl, hl21, hdi, hrs, hownA, hownB, hw⟩ := hrel
    have HDI : Hid (DI b.data.toList size s.data.toList l ts rest.data.toList) := hdi
    have hbt := hdi.both
    have HBT : Hid (ts.length = l.length) := hbt
    obtain ⟨ta, tc, htv, htm, htnc, _⟩ := own_form2 hownA
    obtain ⟨wa, wc, hwv, hwm, hwnc, _⟩ := own_form2 hownB
    subst htv hwv
    have HOA : Hid (wr.ownsRow w.heap.size 23 2 (.slice ta l.length tc) l.length (wns l)) := hownA
    have HOB : Hid (wr.ownsRow w.heap.size 9 1 (.slice wa ts.length wc) ts.length (strsV ts)) := hownB
    have HW : Hid (Below w.heap.size w wr) := hw
    have HRS : Hid (rest.size ≤ s.size) := hrs
    have HL21 : Hid (l.length ≤ 21) := hl21
    unfold maxLen at htm hwm
    clear hdi hownA hownB hw hbt
    by_cases h20 : l.length ≤ 20
    · have g20 : decide ((l.length : Int) ≤ 20) = true := decide_eq_true (by omega)
      obtain ⟨p, q, t, bh, ok, hr, htl, hbl⟩ := rdP_bi b rest size
      have HR : Hid (rdP b.data.toList rest.data.toList size = (((p, q), t.data.toList), (bh.data.toList, ok))) := hr
      have HSZ : Hid (t.size ≤ 281474976710656 ∧ bh.size ≤ s.size ∧ l.length ≤ 20) := ⟨by have := HS.out; omega, by omega, h20⟩
      clear hr htl hbl h20
      go_wp2_with fail
      refine (srdp_at b rest t bh p q size ok HR.out m _ (cell_keep HW.out HM.out) (by have := HS.out; have := HRS.out; omega) HB.out (HT.out.below HW.out)).mono ?_
      rintro e w2 ⟨rfl, hb2⟩
      have HOA2 : Hid (w2.ownsRow w.heap.size 23 2 (.slice ta l.length tc) l.length (wns l)) := own_below3 HOA.out hb2
      have HOB2 : Hid (w2.ownsRow w.heap.size 9 1 (.slice wa ts.length wc) ts.length (strsV ts)) := own_below3 HOB.out hb2
      have HW2 : Hid (Below w.heap.size w w2) := HW.out.trans (hb2.mono HW.out.size)
      clear hb2
      cases ok
      · have HW2A : Hid (Below w.heap.size w (w2.alloc (.cells #[.int .i64 p, .int .i64 q] 23))) := HW2.out.alloc HW2.out.size _
        go_wp2_with fail
        go_ret2
        exact ⟨l, ts, _, _, rfl, HDI.out.stop (by rw [HR.out]), HDI.out.oks, HBT.out, HDI.out.lens, HL21.out, HOA2.out.alloc _, HOB2.out.alloc _, HW2A.out⟩
      · have hownA3 := own_below3 HOA2.out (below_alloc w2 (.cells #[.int .i64 p, .int .i64 q] 23))
        have HOA3 : Hid ((w2.alloc (.cells #[.int .i64 p, .int .i64 q] 23)).ownsRow w.heap.size 23 2 (.slice ta l.length tc) l.length (wns l)) := hownA3
        clear hownA3
        go_wp2_with (at_builtin; refine wpList_append_own _ rfl _ _ 30 rfl w.heap.size 23 ic (.agg #[.int .i64 0, .int .i64 0]) 2 16 Tryd.underlying30 hic hzc0 hzc1 hzc2 rfl (by decide) _ _ _ rfl (HOA3.out.alloc _) ⟨w2.heap.size + 1, 0, none⟩ 1 1 [.int .i64 p, .int .i64 q] rfl rfl ?c1 ?c2 ?c3 ?c4 ?c5 ?_)
        case c1 =>
          intro j z h
          match j, h with
          | 0, h => simp at h; subst h; simp [Addr.add]
          | 1, h => simp at h; subst h; simp [Addr.add]
        case c2 => intro z hx; simp at hx; rcases hx with rfl | rfl <;> rfl
        case c3 => have := HSZ.out; unfold maxLen; omega
        case c4 => have := HSZ.out; omega
        case c5 => have := HW2.out.size; simp; omega
        intro v1' w4 hown' hgrow _
        obtain ⟨g1, cp1, rfl⟩ : ∃ g cap, v1' = .slice (some ⟨g, 0, none⟩) (l.length + 1) cap := by
          rcases hown'.2 with ⟨_, h0⟩ | ⟨g, cap, _, h, _⟩
          · omega
          · exact ⟨g, cap, h⟩
        have HOB4 : Hid (w4.ownsRow w.heap.size 9 1 (.slice wa ts.length wc) ts.length (strsV ts)) :=
          own_kept (own_below3 HOB2.out (below_alloc2 w2 _ _)) hgrow (sep_types (own_below3 HOA2.out (below_alloc2 w2 (.cells #[.int .i64 p, .int .i64 q] 23) (.cells #[.int .i64 p, .int .i64 q] 23))) (own_below3 HOB2.out (below_alloc2 w2 _ _)) (by decide))
        have HOA4 : Hid (w4.ownsRow w.heap.size 23 2 (.slice (some ⟨g1, 0, none⟩) (l.length + 1) cp1) (l ++ [(p, q)]).length (wns (l ++ [(p, q)]))) := by
          show World.ownsRow _ _ _ _ _ _ _
          rw [← wns_snoc, List.length_append]; exact hown'
        have HW4 : Hid (Below w.heap.size w w4) := (HW2.out.trans ((below_alloc2 w2 (.cells #[.int .i64 p, .int .i64 q] 23) (.cells #[.int .i64 p, .int .i64 q] 23)).mono HW2.out.size)).grown hgrow (by have := HW2.out.size; simp; omega) (fun bb hb => (HOA2.out.lt bb hb).1)
        clear hown' hgrow
        go_wp2_with fail
        refine (clone_big t _ HSZ.out.1).mono ?_
        rintro e w5 ⟨rfl, hb5⟩
        have HOA5 : Hid (w5.ownsRow w.heap.size 23 2 (.slice (some ⟨g1, 0, none⟩) (l.length + 1) cp1) (l ++ [(p, q)]).length (wns (l ++ [(p, q)]))) := own_below3 HOA4.out hb5
        have HOB5 : Hid (w5.ownsRow w.heap.size 9 1 (.slice wa ts.length wc) ts.length (strsV ts)) := own_below3 HOB4.out hb5
        have HW5 : Hid (Below w.heap.size w w5) := HW4.out.trans (hb5.mono HW4.out.size)
        clear hb5
        go_wp2_with (at_builtin; refine wpList_append_own _ rfl _ _ 32 rfl w.heap.size 9 i9 (.string ⟨#[]⟩) 1 16 Tryd.underlying32 hi9 hz90 hz91 hz92 rfl (by decide) _ _ _ rfl (HOB5.out.alloc _) ⟨w5.heap.size, 0, none⟩ 1 1 [.string t] rfl rfl (one_news (by simp)) (by simp [Value.oneCell']) ?c3 ?c4 ?c5 ?_)
        case c3 => have := HSZ.out; have := HBT.out; unfold maxLen; omega
        case c4 => have := HSZ.out; have := HBT.out; omega
        case c5 => have := HW5.out.size; simp; omega
        intro v2' w6 hown' hgrow _
        have HOA6 : Hid (w6.ownsRow w.heap.size 23 2 (.slice (some ⟨g1, 0, none⟩) (l.length + 1) cp1) (l ++ [(p, q)]).length (wns (l ++ [(p, q)]))) :=
          own_kept (own_below3 HOA5.out (below_alloc w5 _)) hgrow (sep_types (own_below3 HOB5.out (below_alloc w5 (.cells #[.string t] 9))) (own_below3 HOA5.out (below_alloc w5 _)) (by decide))
        have HOB6 : Hid (w6.ownsRow w.heap.size 9 1 v2' (ts ++ [t.data.toList]).length (strsV (ts ++ [t.data.toList]))) := by
          show World.ownsRow _ _ _ _ _ _ _
          have e : strsV (ts ++ [t.data.toList]) = strsV ts ++ [.string t] := by unfold strsV; rw [List.map_append]; rfl
          rw [e, List.length_append]; exact hown'
        have HW6 : Hid (Below w.heap.size w w6) := (HW5.out.trans ((below_alloc w5 (.cells #[.string t] 9)).mono HW5.out.size)).grown hgrow (by have := HW5.out.size; simp; omega) (fun bb hb => (HOB5.out.lt bb hb).1)
        clear hown' hgrow
        go_wp2_with fail
        go_roundw
        case rel => exact ⟨_, _, _, rfl, by have := HSZ.out.2.2; simp; omega, HDI.out.step HR.out, HSZ.out.2.1, HOA6.out, HOB6.out, HW6.out⟩
        case measure => have := HSZ.out.2.2; simp [slen]; omega
    · have g20 : decide ((l.length : Int) ≤ 20) = false := decide_eq_false (by omega)
      have HFULL : Hid (20 < l.length) := by show _ < _; omega
      go_wp2_with fail
      go_ret2
      exact ⟨l, ts, _, _, rfl, HDI.out.full HFULL.out, HDI.out.oks, HBT.out, HDI.out.lens, HL21.out, HOA.out, HOB.out, HW.out⟩
end Go.Proofs.YtkmbhgbmdeoppacDoor

/-
  What Unbundle of package span answers; a text has fewer than 2^32 - 15 bytes; the listed variables of package strconv hold what their text lays.
-/
namespace Go.Proofs.YtkmbhgbmdeoppacDoor
open Go.RowKit

theorem info8 : (Tryd.prog.info? 5).map (fun i => (i.zero, i.size, i.bytes)) = some (some (.int .u8 0), 1, 1) := by kernel_rfl
/-- 'copy(dst, s)', s a text that fits into a row from a place on, as one step of a region that draws. -/
theorem step_copy_row {P : Program} {ops : Array Oper} {o : Oper} {a : Act} {w : World} {K : Act → World → Prop} {Q : Exit → Act → World → Prop} {E : Prop}
    (hg : o.guard = none) (d x : Operand) (dT sT : TypeId) (hop : o.op = Op.call { callee := Callee.builtin Builtin.copy, args := #[d, x], argTypes := #[dT, sT] })
    (elem : TypeId) (hu : P.underlying dT = some (.slice elem)) (hs : (P.info? elem).map (·.size) = some 1)
    (b off dLen dCap : Nat) (hd : a.eval d = .slice (some ⟨b, off, none⟩) dLen dCap) (t : ByteArray) (hx : a.eval x = .string t) (hle : t.size ≤ dLen)
    (cur : Array Value) (ty : TypeId) (hrow : w.heap[b]? = some (.cells cur ty (0, 0))) (hfit : off + t.size ≤ cur.size)
    (hK : K (a.put o.dst (goInt t.size)) (w.setRow b (cur.toList.take off ++ Lib.byteCells t.data.toList ++ cur.toList.drop (off + t.size)).toArray)) :
    if Region.wanted o (yielded ops a.tmps) = true then Oper.wp P o a w K Q else E := by
  have hw : Region.wanted o (yielded ops a.tmps) = true := by simp [Region.wanted, hg]
  rw [if_pos hw]
  have hrun := Lib.run_copy_row_string (P := P) w dT sT o.type elem b off dLen dCap t cur ty hu hs hrow hle hfit
  unfold Oper.wp
  simp [execOp, hop, resolve, invoke, builtin, hd, hx, hrun, Result.andThen]
  rw [List.append_assoc] at hK
  exact hK
theorem ovl_cells2 (bd t : List UInt8) (p n : Nat) (hn : n = t.length) : (List.take p (Lib.byteCells bd) ++ (Lib.byteCells t ++ List.drop (p + n) (Lib.byteCells bd))).toArray = (Lib.byteCells (ovl bd p t)).toArray := by
  subst hn
  congr 1
  unfold ovl Lib.byteCells
  simp
theorem made_cells (n : Nat) : madeCells #[.int .u8 0] n = (Lib.byteCells (List.replicate n 0)).toArray := by
  apply Array.ext'
  rw [toList_madeCells_one]
  unfold Lib.byteCells
  simp
set_option maxHeartbeats 4000000 in
set_option maxRecDepth 100000 in
theorem sunbundle_at (b s : ByteArray) (size : Int) (m : Int) (w : World) (hm : w.cell? ⟨0, 0, none⟩ = some (.int .i64 m)) (hs : s.size < 4294967281) (hb : b.size ≤ 140737488351232) (hT : STabs w) :
    Calls Tryd.prog 8 #[.string b, .string s, .int .i64 size] w fun e w' => ∃ (l : List Wn) (ts : List (List UInt8)) (c : Int) (v1 v2 : Value), e = .returned (.tuple #[v1, v2, .int .i64 c]) ∧ UnbR b.data.toList s.data.toList size l ts c ∧
      w'.ownsRow w.heap.size 23 2 v1 l.length (wns l) ∧ w'.ownsRow w.heap.size 9 1 v2 ts.length (strsV ts) ∧ Below w.heap.size w w' := by
  obtain ⟨i5, hi5, hz50, hz51, hz52⟩ := info_parts info8
  have HM : Hid (w.cell? ⟨0, 0, none⟩ = some (.int .i64 m)) := hm
  have HB : Hid (b.size ≤ 140737488351232 ∧ b.size ≤ maxLen) := ⟨hb, by unfold maxLen; omega⟩
  have HS : Hid (s.size < 4294967281) := hs
  have HT : Hid (STabs w) := hT
  clear hm hb hs hT
  go_enter Tryd.func8, Tryd.ntmps8
  go_wp2_with fail
  refine (srdps_at b s size m _ HM.out HS.out HB.out.1 HT.out).mono ?_
  rintro e w1 ⟨l, ts, v1, v2, rfl, hend, hok, hboth, hlens, hl21, hownA, hownB, hb1⟩
  have HEND : Hid (DEnd b.data.toList size s.data.toList l ts) := hend
  have HOK : Hid (∀ x ∈ l, okC x size = true) := hok
  have HBT : Hid (ts.length = l.length) := hboth
  have HLN : Hid (∀ (i : Nat) (h : i < l.length) (h2 : i < ts.length), ts[i].length = (l[i]).2.toNat - (l[i]).1.toNat) := hlens
  obtain ⟨ta, tc, htv, htm, htnc, _⟩ := own_form2 hownA
  obtain ⟨wa, wc, hwv, hwm, hwnc, _⟩ := own_form2 hownB
  subst htv hwv
  have HOA : Hid (w1.ownsRow w.heap.size 23 2 (.slice ta l.length tc) l.length (wns l)) := hownA
  have HOB : Hid (w1.ownsRow w.heap.size 9 1 (.slice wa ts.length wc) ts.length (strsV ts)) := hownB
  have HW : Hid (Below w.heap.size w w1) := hb1
  have HWL : Hid (Wl w1 (.slice ta l.length tc) l) := Wl.own hownA
  unfold maxLen at htm hwm
  clear hend hok hboth hlens hownA hownB hb1
  by_cases h0 : l.length = 0
  · have g0 : ((l.length : Int) == 0) = true := beq_iff_eq.2 (by omega)
    have HL0 : Hid (l = [] ∧ ts = []) := ⟨List.eq_nil_of_length_eq_zero h0, List.eq_nil_of_length_eq_zero (by rw [HBT.out]; exact h0)⟩
    clear h0
    go_wp2_with fail
    go_ret3
    refine ⟨[], [], 3, _, _, rfl, ?_, World.ownsRow_nil _ _ _ _, World.ownsRow_nil _ _ _ _, HW.out⟩
    have h := HEND.out
    rw [HL0.out.1, HL0.out.2] at h
    exact h.none
  · have g0 : ((l.length : Int) == 0) = false := beq_eq_false_iff_ne.2 (by omega)
    obtain ⟨n, hn, hn1, hn2⟩ : ∃ n : Nat, size = (n : Int) ∧ 1 ≤ n ∧ n ≤ 99999 := by
      obtain ⟨x, hx⟩ : ∃ x, x ∈ l := by
        cases l with
        | nil => exact absurd rfl h0
        | cons x r => exact ⟨x, by simp⟩
      have := okC_is (HOK.out x hx)
      exact ⟨size.toNat, by omega, by omega, by omega⟩
    subst hn
    have HSL : Hid (Sl w1 (.slice wa ts.length wc) ts) := Sl.own HOB.out (by rw [HBT.out]; omega)
    have HN : Hid (1 ≤ n ∧ n ≤ 99999) := ⟨hn1, hn2⟩
    have HP0 : Hid ((w1.alloc (.cells (madeCells #[.int .u8 0] n) 5)).heap[w1.heap.size]? = some (.cells (Lib.byteCells (List.replicate n 0)).toArray 5 (0, 0))) := by
      show _ = _
      rw [← made_cells]; exact heap_alloc_new _ _
    clear h0 hn1 hn2
    go_wp2_with (refine wpList_make_row _ rfl _ _ 46 rfl 5 i5 (.int .u8 0) Tryd.underlying46 hi5 hz50 hz51 rfl .i64 .i64 n rfl rfl (by rw [hz52]; have := HN.out; omega) (by have := HN.out; omega) ?_)
    go_loopw [30] (fun i wr => ∃ k : Nat, k ≤ l.length ∧ i = .int .i64 k ∧ wr.heap[w1.heap.size]? = some (.cells (Lib.byteCells (ovls (List.replicate n 0) (l.take k) (ts.take k))).toArray 5 (0, 0)) ∧ Below w1.heap.size w1 wr) (fun i _ => l.length - (intOf i).toNat)
    case atStart => exact ⟨0, Nat.zero_le _, rfl, by rw [List.take_zero]; exact HP0.out, below_alloc _ _⟩
    case round =>
      obtain ⟨k, hk, rfl, hrow, hw⟩ := hrel
      have HROW : Hid (wr.heap[w1.heap.size]? = some (.cells (Lib.byteCells (ovls (List.replicate n 0) (l.take k) (ts.take k))).toArray 5 (0, 0))) := hrow
      have HWR : Hid (Below w1.heap.size w1 wr) := hw
      have HK : Hid (k ≤ l.length) := hk
      have hgl : w1.heap.size < wr.heap.size := (Array.getElem?_eq_some_iff.1 hrow).1
      clear hrow
      by_cases hlt : k < l.length
      · obtain ⟨ad', cap', hv', _, _, hc'⟩ := HWL.out
        simp only [Value.slice.injEq] at hv'
        obtain ⟨rfl, _, rfl⟩ := hv'
        obtain ⟨g, off, rfl, hgs, hce⟩ := hc' (by omega)
        obtain ⟨c1, c2⟩ := hce k hlt
        obtain ⟨sg, so, sc, hsv, _, _, hsg, hsc⟩ := HSL.out
        simp only [Value.slice.injEq] at hsv
        obtain ⟨rfl, _, rfl⟩ := hsv
        have hkt : k < ts.length := by rw [HBT.out]; exact hlt
        have c3 := hsc k hkt
        have hxk := HOK.out l[k] (List.getElem_mem hlt)
        have hlk := HLN.out k hlt hkt
        obtain ⟨o1, o2, o3, o4⟩ := okC_is hxk
        obtain ⟨i, hi⟩ : ∃ i : Nat, (l[k]).1 = (i : Int) := ⟨(l[k]).1.toNat, by omega⟩
        obtain ⟨j, hj⟩ : ∃ j : Nat, (l[k]).2 = (j : Int) := ⟨(l[k]).2.toNat, by omega⟩
        obtain ⟨tk, htk⟩ : ∃ tk : ByteArray, tk = ⟨(ts[k]).toArray⟩ := ⟨_, rfl⟩
        have htl : tk.data.toList = ts[k] := by rw [htk]
        have htz : tk.size = j - i := by rw [← size_list, htl, hlk, hi, hj]; omega
        rw [hi] at o1 o2
        rw [hj] at o2 o3
        have d1 : wr.cell? ⟨g, off + k * 2, none⟩ = some (.int .i64 (i : Int)) := by rw [hw.cell (p := ⟨g, off + k * 2, none⟩) hgs, ← hi]; exact c1
        have d2 : wr.cell? ⟨g, off + k * 2 + 1, none⟩ = some (.int .i64 (j : Int)) := by rw [hw.cell (p := ⟨g, off + k * 2 + 1, none⟩) hgs, ← hj]; exact c2
        have d3 : wr.cell? ⟨sg, so + k, none⟩ = some (.string tk) := by rw [hw.cell (p := ⟨sg, so + k, none⟩) hsg, htk]; exact c3
        have hgr : g < wr.heap.size := by omega
        have hsgr : sg < wr.heap.size := by omega
        have HSTEP : Hid (ovls (List.replicate n 0) (l.take (k + 1)) (ts.take (k + 1)) = ovl (ovls (List.replicate n 0) (l.take k) (ts.take k)) i tk.data.toList) := by
          show _ = _
          rw [ovls_take _ _ _ _ hlt hkt, htl, hi]; rfl
        have HOL : Hid ((ovls (List.replicate n 0) (l.take k) (ts.take k)).length = n) := by
          have h := ovls_len (List.replicate n 0) (n : Int) l ts (by simp) HOK.out HLN.out k hk (by omega)
          show _ = _
          omega
        have hki : (k : Int) < (l.length : Int) := by omega
        have hkj : (k : Int) < (ts.length : Int) := by omega
        have hk0 : (0 : Int) ≤ (k : Int) := by omega
        have hij : i < j := by omega
        have hjn : j ≤ n := by omega
        have HIJ : Hid (i < j ∧ j ≤ n ∧ tk.size = j - i ∧ k < l.length) := ⟨hij, hjn, htz, hlt⟩
        have hsl : ∀ W : World, (Instr.slice 46 (.slice (some ⟨w1.heap.size, 0, none⟩) n n) (some (.int .i64 (i : Int))) (some (.int .i64 (j : Int))) none).run Tryd.prog W = .ok (.slice (some ⟨w1.heap.size, 0 + i, none⟩) (j - i) (n - i)) W :=
          fun W => Lib.run_slice_window W 46 5 Tryd.underlying46 Tryd.sizeOf5 w1.heap.size 0 n n i j hij hjn
        clear hce c1 c2 c3 hsc hxk hlk htk htl hi hj o1 o2 o3 o4 hc'
        go_wp2_with fail
        have mixed : Tryd.prog.follows Departure.mixedOrders = true := by kernel_rfl
        have HR2 : Hid ((wr.alloc (.cells #[.int .i64 (i : Int), .int .i64 (j : Int)] 23)).drew.heap[w1.heap.size]? = some (.cells (Lib.byteCells (ovls (List.replicate n 0) (l.take k) (ts.take k))).toArray 5 (0, 0))) := by
          show (wr.alloc _).heap[_]? = _
          rw [(below_alloc wr _).block _ hgl]; exact HROW.out
        go_region_law_o (refine step_copy_row rfl _ _ 46 9 rfl 5 Tryd.underlying46 (by kernel_rfl) w1.heap.size (0 + i) (j - i) (n - i) (by simp [Act.eval, Act.put]) tk (by simp [Act.eval, Act.put]) (by rw [HIJ.out.2.2.1]; exact Nat.le_refl _) _ 5 HR2.out (by have h1 := HIJ.out; have h2 := HOL.out; simp [Lib.byteCells]; omega) ?_)
        all_goals
          obtain ⟨w3, hw3⟩ : ∃ w3, w3 = ((wr.alloc (.cells #[.int .i64 (i : Int), .int .i64 (j : Int)] 23)).drew.setRow w1.heap.size (List.take i (Lib.byteCells (ovls (List.replicate n 0) (List.take k l) (List.take k ts))) ++ (Lib.byteCells tk.data.toList ++ List.drop (i + (j - i)) (Lib.byteCells (ovls (List.replicate n 0) (List.take k l) (List.take k ts))))).toArray) := ⟨_, rfl⟩
          have HROW3 : Hid (w3.heap[w1.heap.size]? = some (.cells (Lib.byteCells (ovls (List.replicate n 0) (l.take (k + 1)) (ts.take (k + 1)))).toArray 5 (0, 0))) := by
            show _ = _
            rw [hw3, setRow_heap _ _ _ _ _ _ HR2.out, ovl_cells2 _ _ _ _ (by rw [size_list]; exact HIJ.out.2.2.1.symm), ← HSTEP.out]
          have HW3 : Hid (Below w1.heap.size w1 w3) := by
            show Below _ _ _
            rw [hw3]
            exact below_setRow (HWR.out.alloc HWR.out.size _).drew (Nat.le_refl _) _
          rw [← hw3]
          clear hw3
          go_wp2_with fail
          go_roundw
          case rel => exact ⟨k + 1, HIJ.out.2.2.2, by go_num, HROW3.out, HW3.out⟩
          case measure => have := HIJ.out; simp [intOf]; omega
      · have HEnd : Hid (k = l.length) := by show _ = _; omega
        have hkf : ¬ (k : Int) < (l.length : Int) := by omega
        obtain ⟨bd, hbd⟩ : ∃ bd : ByteArray, bd.data.toList = ovls (List.replicate n 0) (l.take k) (ts.take k) := ⟨⟨(ovls (List.replicate n 0) (l.take k) (ts.take k)).toArray⟩, rfl⟩
        have hbz : bd.size = n := by
          have h := ovls_len (List.replicate n 0) (n : Int) l ts (by simp) HOK.out HLN.out k hk (by rw [HBT.out]; exact hk)
          rw [← size_list, hbd]; omega
        have HBD : Hid (bd.data.toList = ovls (List.replicate n 0) l ts ∧ bd.size = n) := by
          refine ⟨?_, hbz⟩
          rw [hbd, List.take_of_length_le (by have := HEnd.out; omega), List.take_of_length_le (by have := HEnd.out; have := HBT.out; omega)]
        have hcv : (convert 46 9 (.slice (some ⟨w1.heap.size, 0, none⟩) n n)).run Tryd.prog wr = .ok (.string bd) wr := by
          have h := run_convert_bytes_back (P := Tryd.prog) wr 46 9 5 ⟨w1.heap.size, 0, none⟩ n bd.data.toList Tryd.underlying46 Tryd.underlying5 Tryd.underlying9 (by
            intro j hj
            have hj2 : j < (ovls (List.replicate n 0) (l.take k) (ts.take k)).length := by rw [← hbd]; exact hj
            have e1 : (⟨w1.heap.size, 0, none⟩ : Addr).add j = ⟨w1.heap.size, j, none⟩ := by
              by_cases h0 : j = 0
              · subst h0; simp [Addr.add]
              · simp [Addr.add, h0]
            rw [e1, Lib.cell_of_heap HROW.out]
            simp only [Lib.byteCells]
            rw [List.getElem?_toArray, List.getElem?_map, List.getElem?_eq_getElem hj2]
            simp only [Option.map_some, hbd])
          rw [size_list, hbz] at h
          exact h
        clear hbd hbz
        obtain ⟨t, c, ht⟩ := pair_bi (bdl b.data.toList bd.data.toList l)
        have HT2 : Hid (bdl b.data.toList bd.data.toList l = (t.data.toList, c)) := ht
        have HWW : Hid (Below w.heap.size w wr) := HW.out.trans (HWR.out.mono HW.out.size)
        clear ht
        go_wp2_with fail
        refine (sbundle_at b bd (.slice ta l.length tc) l t c HT2.out _ (HWL.out.below HWR.out) HB.out.2 (HT.out.below HWW.out).pow).mono ?_
        rintro e w4 ⟨rfl, hb4⟩
        have HW4 : Hid (Below w1.heap.size w1 w4) := HWR.out.trans (hb4.mono HWR.out.size)
        clear hb4
        have HWF : Hid (Below w.heap.size w w4) := HW.out.trans (HW4.out.mono HW.out.size)
        have HOA4 : Hid (w4.ownsRow w.heap.size 23 2 (.slice ta l.length tc) l.length (wns l)) := own_below3 HOA.out HW4.out
        have HOB4 : Hid (w4.ownsRow w.heap.size 9 1 (.slice wa ts.length wc) ts.length (strsV ts)) := own_below3 HOB.out HW4.out
        have HNO : Hid (¬ (c = 0 ∧ t = s) → UnbR b.data.toList s.data.toList (n : Int) [] [] 3) := by
          intro hn
          refine HEND.out.no (bd := List.replicate n 0) (by simp) HOK.out ?_
          rw [← HBD.out.1, HT2.out]
          intro e
          obtain ⟨e1, e2⟩ := Prod.mk.inj e
          exact hn ⟨e2, by apply ByteArray.ext; apply Array.ext'; exact e1⟩
        by_cases hc : c = 0
        · subst hc
          by_cases hts : t = s
          · have hte : (t.toList == s.toList) = true := by rw [hts]; exact beq_self_eq_true _
            have HY : Hid (UnbR b.data.toList s.data.toList (n : Int) l ts 0) := HEND.out.yes (bd := bd.data.toList) (by rw [size_list, HBD.out.2]) (by rw [HT2.out, hts])
            clear HNO hts
            go_wp2_with fail
            go_ret3
            exact ⟨l, ts, 0, _, _, rfl, HY.out, HOA4.out, HOB4.out, HWF.out⟩
          · have hte : (t.toList == s.toList) = false := by
              rw [beq_eq_false_iff_ne, ByteArray.toList_eq, ByteArray.toList_eq]
              intro e; apply hts; apply ByteArray.ext; apply Array.ext'; exact e
            have HY : Hid (UnbR b.data.toList s.data.toList (n : Int) [] [] 3) := HNO.out (fun h => hts h.2)
            clear HNO hts
            go_wp2_with fail
            go_ret3
            exact ⟨[], [], 3, _, _, rfl, HY.out, World.ownsRow_nil _ _ _ _, World.ownsRow_nil _ _ _ _, HWF.out⟩
        · have hcb : (c != 0) = true := by simpa using hc
          have HY : Hid (UnbR b.data.toList s.data.toList (n : Int) [] [] 3) := HNO.out (fun h => hc h.1)
          clear HNO hc
          go_wp2_with fail
          go_ret3
          exact ⟨[], [], 3, _, _, rfl, HY.out, World.ownsRow_nil _ _ _ _, World.ownsRow_nil _ _ _ _, HWF.out⟩
end Go.Proofs.YtkmbhgbmdeoppacDoor

/-
  Eq of the document's answers on two lists of the same slices of a body answers true and turns nothing that was there.
-/
namespace Go.Proofs.YtkmbhgbmdeoppacDoor
open Go.RowKit

set_option maxHeartbeats 1000000 in
set_option maxRecDepth 100000 in
theorem eqC_same (v v' : Value) (ts : List Wn) (w : World) (h : Wl w v ts) (h' : Wl w v' ts) :
    Calls Tryd.prog 9 #[v, v'] w fun e w' => e = .returned (.bool true) ∧ Below w.heap.size w w' := by
  obtain ⟨ad, cap, hv, hnc, hcm, hc⟩ := h
  obtain ⟨ad', cap', hv', hnc', hcm', hc'⟩ := h'
  subst hv hv'
  unfold maxLen at hcm hcm'
  have HC : Hid (0 < ts.length → ∃ g off, ad = some ⟨g, off, none⟩ ∧ g < w.heap.size ∧
    ∀ (k : Nat) (h : k < ts.length), w.cell? ⟨g, off + k * 2, none⟩ = some (.int .i64 (ts[k]).1) ∧ w.cell? ⟨g, off + k * 2 + 1, none⟩ = some (.int .i64 (ts[k]).2)) := hc
  have HC' : Hid (0 < ts.length → ∃ g off, ad' = some ⟨g, off, none⟩ ∧ g < w.heap.size ∧
    ∀ (k : Nat) (h : k < ts.length), w.cell? ⟨g, off + k * 2, none⟩ = some (.int .i64 (ts[k]).1) ∧ w.cell? ⟨g, off + k * 2 + 1, none⟩ = some (.int .i64 (ts[k]).2)) := hc'
  clear hc hc'
  go_enter Tryd.func9, Tryd.ntmps9
  go_wp2_with fail
  go_loopw [14] (fun i wr => ∃ k : Nat, k ≤ ts.length ∧ i = .int .i64 k ∧ Below w.heap.size w wr) (fun i _ => ts.length - (intOf i).toNat)
  case atStart => exact ⟨0, Nat.zero_le _, rfl, Below.refl _ _⟩
  case round =>
    obtain ⟨k, hk, rfl, hw⟩ := hrel
    by_cases hlt : k < ts.length
    · obtain ⟨g, off, rfl, hgs, hce⟩ := HC.out (by omega)
      obtain ⟨g', off', rfl, hgs', hce'⟩ := HC'.out (by omega)
      obtain ⟨p1, p2⟩ := hce k hlt
      obtain ⟨q1, q2⟩ := hce' k hlt
      have c1 : wr.cell? ⟨g, off + k * 2, none⟩ = some (.int .i64 (ts[k]).1) := by rw [hw.cell (p := ⟨g, off + k * 2, none⟩) hgs]; exact p1
      have c2 : wr.cell? ⟨g, off + k * 2 + 1, none⟩ = some (.int .i64 (ts[k]).2) := by rw [hw.cell (p := ⟨g, off + k * 2 + 1, none⟩) hgs]; exact p2
      have d1 : wr.cell? ⟨g', off' + k * 2, none⟩ = some (.int .i64 (ts[k]).1) := by rw [hw.cell (p := ⟨g', off' + k * 2, none⟩) hgs']; exact q1
      have d2 : wr.cell? ⟨g', off' + k * 2 + 1, none⟩ = some (.int .i64 (ts[k]).2) := by rw [hw.cell (p := ⟨g', off' + k * 2 + 1, none⟩) hgs']; exact q2
      generalize (ts[k]).1 = x at c1 d1
      generalize (ts[k]).2 = y at c2 d2
      have hsz := hw.size
      have hgr : g < wr.heap.size := by omega
      have hgr' : g' < wr.heap.size := by omega
      clear hce hce' p1 p2 q1 q2
      have hki : (k : Int) < (ts.length : Int) := by omega
      have hk0 : (0 : Int) ≤ (k : Int) := by omega
      go_wp2_with fail
      go_quiet (fail)
      go_wp2_with fail
      go_roundw
      case rel => exact ⟨k + 1, by omega, by go_num, (hw.alloc (by omega) _).trans (drewN_below _ _ _)⟩
      case measure => simp [intOf]; omega
    · go_wp2_with fail
      go_ret
      exact ⟨rfl, hw⟩
end Go.Proofs.YtkmbhgbmdeoppacDoor

/-
  The walk through SpanBundleBack: it answers true and turns nothing that was there; texts are no longer than the claim allows; the listed variables of package strconv hold what their text lays.
-/
namespace Go.Proofs.YtkmbhgbmdeoppacDoor
open Go.RowKit

set_option maxHeartbeats 4000000 in
set_option maxRecDepth 100000 in
theorem walkSpanBundleBack (a0 a1 : ByteArray) (a2 : Value) (l2 : List Wn) (w : World) (z0 : a0.size ≤ 140737488351232) (_z1 : a1.size ≤ 140737488351232) (z2 : Wl w a2 l2) (_m2 : WfW l2) (_b2 : l2.length ≤ 8796093021952)
    (hm : ∃ m, w.cell? ⟨0, 0, none⟩ = some (.int .i64 m)) (ht : STabs w) :
    Calls Tryd.prog 4 #[.string a0, .string a1, a2] w fun e w' => e = .returned (.bool true) ∧ Below w.heap.size w w' := by
  obtain ⟨m, hm⟩ := hm
  obtain ⟨t, c, hp⟩ := pair_bi (bdl a0.data.toList a1.data.toList l2)
  have HP : Hid (bdl a0.data.toList a1.data.toList l2 = (t.data.toList, c)) := hp
  have HF : Hid (Wl w a2 l2) := z2
  have HT : Hid (STabs w) := ht
  have HM : Hid (w.cell? ⟨0, 0, none⟩ = some (.int .i64 m)) := hm
  have HZ : Hid (a0.size ≤ 140737488351232 ∧ a0.size ≤ maxLen) := ⟨z0, by unfold maxLen; omega⟩
  obtain ⟨ad, cap, hv, hcap, hcm, _⟩ := id z2
  subst hv
  unfold maxLen at hcm
  clear hp z0 z2 ht hm
  go_enter Tryd.func4, Tryd.ntmps4
  go_wp2_with fail
  refine (sbundle_at a0 a1 _ l2 t c HP.out _ HF.out HZ.out.2 HT.out.pow).mono ?_
  rintro e w1 ⟨rfl, hb1⟩
  have HB1 : Hid (Below w.heap.size w w1) := hb1
  clear hb1
  go_wp2_with fail
  refine (sunbundle_at ⟨#[]⟩ ⟨#[]⟩ 0 m w1 (cell_keep HB1.out HM.out) (by decide) (by decide) (HT.out.below HB1.out)).mono ?_
  rintro e w2 ⟨ln, tn, cn, vn, un, rfl, hu, _, _, hb2⟩
  obtain ⟨_, _, rfl⟩ := hu.one (UnbR.bad (.inr (.inl (by decide))))
  have HB2 : Hid (Below w.heap.size w w2) := HB1.out.trans (hb2.mono HB1.out.size)
  clear hu hb2
  by_cases hc : c = 0
  · subst hc
    obtain ⟨k1, k2, k3, k4, k5⟩ := bdl_is HP.out
    have hb30 : a0.data.toList.length ≤ 30 := by
      unfold okBn at k1
      rw [Bool.and_eq_true, decide_eq_true_eq] at k1
      exact k1.2
    have hts : t.size < 4294967281 := by
      have h := bpts_len (b := a0.data.toList) (body := a1.data.toList) hb30 k4
      rw [← size_list, k5, List.length_append, tl_len]
      have : 100100 * l2.length ≤ 100100 * 20 := Nat.mul_le_mul_left _ k3
      omega
    have HTS : Hid (t.size < 4294967281) := hts
    have HOK : Hid (∀ x ∈ l2, okC x a1.size = true) := fun x hx => by rw [← size_list]; exact k4 x hx
    have HBACK : Hid (UnbR a0.data.toList t.data.toList (a1.size : Int) l2 (l2.map (ctOf a1.data.toList)) 0) := by
      have h := UnbR.back HP.out
      rw [size_list] at h
      exact h
    have HL20 : Hid (1 ≤ l2.length ∧ l2.length ≤ 20) := ⟨k2, k3⟩
    clear k1 k2 k3 k4 k5 hb30 hts
    go_wp2_with fail
    refine (sunbundle_at a0 t (a1.size : Int) m w2 (cell_keep HB2.out HM.out) HTS.out HZ.out.1 (HT.out.below HB2.out)).mono ?_
    rintro e w3 ⟨l, ts, c', v1, v2, rfl, hu, ho1, ho2, hb3⟩
    obtain ⟨rfl, rfl, rfl⟩ := hu.one HBACK.out
    have HB3 : Hid (Below w.heap.size w w3) := HB2.out.trans (hb3.mono HB2.out.size)
    have HW1 : Hid (Wl w3 v1 l) := Wl.own ho1
    have HSL : Hid (Sl w3 v2 (l.map (ctOf a1.data.toList))) := Sl.own ho2 (by rw [List.length_map]; have := HL20.out; omega)
    obtain ⟨wa, wc, hwv, hwm, hwnc, _⟩ := own_form2 ho2
    rw [List.length_map] at hwv hwnc
    subst hwv
    unfold maxLen at hwm
    clear hu ho1 ho2 hb3
    go_wp2_with fail
    refine (eqC_same _ _ _ w3 (HF.out.below HB3.out) HW1.out).mono ?_
    rintro e w4 ⟨rfl, hb4⟩
    have HB4 : Hid (Below w.heap.size w w4) := HB3.out.trans (hb4.mono HB3.out.size)
    have HSL4 : Hid (Sl w4 (.slice wa l.length wc) (l.map (ctOf a1.data.toList))) := HSL.out.below hb4
    have HF4 : Hid (Wl w4 (.slice ad l.length cap) l) := HF.out.below HB4.out
    clear hb4
    go_wp2_with fail
    go_loopw [61] (fun i wr => ∃ k : Nat, k ≤ l.length ∧ i = .int .i64 k ∧ Below w4.heap.size w4 wr) (fun i _ => l.length - (intOf i).toNat)
    case atStart => exact ⟨0, Nat.zero_le _, rfl, Below.refl _ _⟩
    case round =>
      obtain ⟨k, hk, rfl, hw⟩ := hrel
      have HW : Hid (Below w4.heap.size w4 wr) := hw
      by_cases hlt : k < l.length
      · obtain ⟨ad', cap', hv', _, _, hc'⟩ := HF4.out
        simp only [Value.slice.injEq] at hv'
        obtain ⟨rfl, _, rfl⟩ := hv'
        obtain ⟨g, off, rfl, hgs, hce⟩ := hc' (by omega)
        obtain ⟨c1, c2⟩ := hce k hlt
        obtain ⟨sg, so, sc, hsv, _, _, hsg, hsc⟩ := HSL4.out
        simp only [Value.slice.injEq] at hsv
        obtain ⟨rfl, hqq, rfl⟩ := hsv
        clear hqq
        have hkt : k < (l.map (ctOf a1.data.toList)).length := by rw [List.length_map]; exact hlt
        have c3 := hsc k hkt
        rw [List.getElem_map] at c3
        obtain ⟨o1, o2, o3, o4⟩ := okC_is (HOK.out l[k] (List.getElem_mem hlt))
        obtain ⟨i, hi⟩ : ∃ i : Nat, (l[k]).1 = (i : Int) := ⟨(l[k]).1.toNat, by omega⟩
        obtain ⟨j, hj⟩ : ∃ j : Nat, (l[k]).2 = (j : Int) := ⟨(l[k]).2.toNat, by omega⟩
        obtain ⟨tk, htk⟩ : ∃ tk : ByteArray, tk = a1.extract i j := ⟨_, rfl⟩
        have htx : (⟨(ctOf a1.data.toList l[k]).toArray⟩ : ByteArray) = tk := by
          rw [htk, extract_seg]
          unfold ctOf
          rw [hi, hj]; simp
        rw [htx] at c3
        rw [hi] at o1 o2
        rw [hj] at o2 o3
        have d1 : wr.cell? ⟨g, off + k * 2, none⟩ = some (.int .i64 (i : Int)) := by rw [hw.cell (p := ⟨g, off + k * 2, none⟩) hgs, ← hi]; exact c1
        have d2 : wr.cell? ⟨g, off + k * 2 + 1, none⟩ = some (.int .i64 (j : Int)) := by rw [hw.cell (p := ⟨g, off + k * 2 + 1, none⟩) hgs, ← hj]; exact c2
        have d3 : wr.cell? ⟨sg, so + k, none⟩ = some (.string tk) := by rw [hw.cell (p := ⟨sg, so + k, none⟩) hsg]; exact c3
        have hgr : g < wr.heap.size := by have := hw.size; omega
        have hsgr : sg < wr.heap.size := by have := hw.size; omega
        have hki : (k : Int) < (l.length : Int) := by omega
        have hk0 : (0 : Int) ≤ (k : Int) := by omega
        have hex : a1.extract i j = tk := htk.symm
        have s1 : (0 : Int) ≤ (i : Int) := by omega
        have s2 : (i : Int) ≤ (j : Int) := by omega
        have s3 : (j : Int) ≤ (a1.size : Int) := by omega
        have hkl : k < l.length := hlt
        have HKL : Hid (k < l.length) := hlt
        clear hce c1 c2 c3 hsc htk htx hi hj o1 o2 o3 o4 hc' hlt hk hkl
        go_wp2_with fail
        have mixed : Tryd.prog.follows Departure.mixedOrders = true := by kernel_rfl
        go_region_o
        all_goals
          go_wp2_with fail
          go_roundw
          case rel => exact ⟨k + 1, HKL.out, by go_num, (HW.out.alloc HW.out.size _).drew⟩
          case measure => have := HKL.out; simp [intOf]; omega
      · go_wp2_with fail
        go_ret
        exact ⟨rfl, HB4.out.trans (HW.out.mono HB4.out.size)⟩
  · have hcb : (c != 0) = true := by simpa using hc
    have hte : t = ⟨#[]⟩ := by
      rcases bdl_code a0.data.toList a1.data.toList l2 with h | h
      · rw [HP.out] at h; exact absurd h hc
      · rw [HP.out] at h; apply ByteArray.ext; apply Array.ext'; exact h
    subst hte
    clear hc
    go_wp2_with fail
    go_ret
    exact ⟨by first | rfl | simp, HB2.out⟩
end Go.Proofs.YtkmbhgbmdeoppacDoor
