/-
  What strings.SplitSeq hands out, piece by piece, for a sign of one byte.
-/
import Derived.Test.YtkmbhgbmdeoppaaDoorMb
import Derived.Test.YtkmbhgbmdeoppaaDoorShelf
import Derived.Test.YtkmbhgbmdeoppaaDoorRows
import Derived.Shelf.Abstract
import Derived.Shelf.RegionOpen
import Derived.WalkKit
import Derived.OwnWalkIn
import Derived.TacticsInMore
import Derived.LoopNIn
import Derived.LoopIn
import Derived.Lib.LaidTab
import Derived.Lib.ItoaNum
import Derived.Lib.LaidU8
import Derived.MakeChecks
import Derived.Lib.Strings
import Derived.Shelf.Strings.Cut
import Derived.Deep.RegionHeld3
import Derived.RangeFuncNested
import Derived.Maps.AppendAt
namespace Go.Proofs.YtkmbhgbmdeoppaaDoor
open Go.RowKit Go.Shelf

attribute [local go_sem] Oper.semAt_some

def strLeft (W : World) (b : Nat) : Nat := match W.cell? ⟨b, 0, none⟩ with
  | some (.string r) => r.size
  | _ => 0
theorem strLeft_of {W : World} {b : Nat} {r : ByteArray} (h : W.cell? ⟨b, 0, none⟩ = some (.string r)) : strLeft W b = r.size := by unfold strLeft; rw [h]
/-- What SplitSeq answers: a function value over three variables of its own. -/
theorem splitSeq_at (s p : ByteArray) (w : World) :
    Calls Tryd.prog 24 #[.string s, .string p] w fun e w' => e = .returned (.func (.func 62) #[] #[.pointer (some ⟨w.heap.size + 1, 0, none⟩), .pointer (some ⟨w.heap.size, 0, none⟩), .pointer (some ⟨w.heap.size + 1 + 1, 0, none⟩)]) ∧
      w' = ((w.alloc (.cells #[.string s] 9)).alloc (.cells #[.string p] 9)).alloc (.cells #[.int .i64 0] 3) := by
  go_enter Tryd.func24, Tryd.ntmps24
  go_wp2
  go_ret
  exact ⟨rfl, rfl⟩
set_option maxRecDepth 100000 in
set_option maxHeartbeats 2000000 in
theorem split_iter (n : Nat) (l bs bp bz : Nat) (c : UInt8) (s : ByteArray) (All : List ByteArray) (hAll : (spl c s.data.toList).map tx = All) (J Jx : List ByteArray → World → Prop) (hsp : bs ≠ bp) (hsz : bs ≠ bz) (sJ : Spared bs J)
    (hY : ∀ pre x rest W1, All = pre ++ x :: rest → J pre W1 → YieldAt Fence.wide (n - 1) Tryd.prog l #[.string x] W1 fun e W' =>
      (e = .returned (.bool true) ∧ J (pre ++ [x]) W' ∧ KeepB [bs, bp, bz] W1 W') ∨ (e = .returned (.bool false) ∧ Jx (pre ++ [x]) W'))
    (W : World) (h1 : Boxed W bs 9 (.string s)) (h2 : Boxed W bp 9 (.string ⟨#[c]⟩)) (h3 : Boxed W bz 3 (.int .i64 0)) (h0 : J [] W) (hs : s.size ≤ maxLen) :
    CallsIn Fence.wide n Tryd.prog 62 #[.func (.yield l) #[] #[], .pointer (some ⟨bp, 0, none⟩), .pointer (some ⟨bs, 0, none⟩), .pointer (some ⟨bz, 0, none⟩)] W fun e W' => (∃ v, e = .returned v) ∧
      (J All W' ∨ ∃ pre rest, All = pre ++ rest ∧ Jx pre W') := by
  have c1 := h1.cell
  have c2 := h2.cell
  have c3 := h3.cell
  have HS : Hid (s.size ≤ maxLen) := hs
  have H1 : Hid (Boxed W bs 9 (.string s)) := h1
  have H2 : Hid (Boxed W bp 9 (.string ⟨#[c]⟩)) := h2
  have H3 : Hid (Boxed W bz 3 (.int .i64 0)) := h3
  have HA : Hid ((spl c s.data.toList).map tx = All) := hAll
  clear h1 h2 h3 hs hAll
  refine callsIn_of_wp Tryd.func62 rfl trivial ?_ rfl
  simp only [Tryd.ntmps62, List.size_toArray, List.length_cons, List.length_nil, Nat.reduceAdd, Nat.reduceSub, Array.replicate_succ, Array.replicate_zero, List.push_toArray, List.append_toArray, List.nil_append, List.cons_append]
  gi_wp2
  gi_loopw [7] (fun _ wr => ∃ (pre : List ByteArray) (r : ByteArray), All = pre ++ (spl c r.data.toList).map tx ∧ J pre wr ∧ Boxed wr bs 9 (.string r) ∧ Boxed wr bp 9 (.string ⟨#[c]⟩) ∧ Boxed wr bz 3 (.int .i64 0) ∧ r.size ≤ maxLen) (fun _ wr => strLeft wr bs)
  case atStart => exact ⟨[], s, HA.out.symm, h0, H1.out, H2.out, H3.out, HS.out⟩
  case round =>
    obtain ⟨pre, r, hx, hJ, b1, b2, b3, hr⟩ := hrel
    have HX : Hid (All = pre ++ (spl c r.data.toList).map tx) := hx
    have HJ : Hid (J pre wr) := hJ
    have HB1 : Hid (Boxed wr bs 9 (.string r)) := b1
    have HB2 : Hid (Boxed wr bp 9 (.string ⟨#[c]⟩)) := b2
    have HB3 : Hid (Boxed wr bz 3 (.int .i64 0)) := b3
    have HR : Hid (r.size ≤ maxLen) := hr
    have k1 := b1.cell
    have k2 := b2.cell
    have k3 := b3.cell
    have kf := b1.frozen
    have hl := strLeft_of k1
    have HL : Hid (strLeft wr bs = r.size) := hl
    unfold maxLen at hr
    clear hx hJ b1 b2 b3 hl
    rcases idx_one_is r.data.toList c with hi | ⟨i, hi, hil⟩
    · have HI : Hid (Lib.indexByte r.data.toList c = -1) := hi
      have hx2 : All = pre ++ r :: [] := by rw [HX.out, spl_miss c _ hi, List.map_cons, List.map_nil, tx_self]
      obtain ⟨fn, tmps, assign, body, hy, hR⟩ := hY pre r [] wr hx2 HJ.out
      have HX2 : Hid (All = pre ++ [r]) := hx2
      clear hi hx2
      gi_wp2_with fail
      refine ⟨trivial, (fun h => by cases h), ?_⟩
      refine (callsIn_wide.2 (Tryd.strings_Index_one r c _)).mono ?_
      rintro e w2 ⟨rfl, hw2⟩
      rw [HI.out, hw2]
      clear hw2 w2
      gi_wp2_with fail
      refine ⟨(fun h => by cases h), ?_⟩
      refine hR.mono ?_
      rintro e W3 (⟨rfl, hJ3, hk3⟩ | ⟨rfl, hJx3⟩)
      · rw [← HX2.out] at hJ3
        gi_wp2_with fail
        go_end0
        exact ⟨⟨_, rfl⟩, .inl hJ3⟩
      · gi_wp2_with fail
        go_end0
        exact ⟨⟨_, rfl⟩, .inr ⟨_, [], by rw [List.append_nil]; exact HX2.out, hJx3⟩⟩
    · have HI : Hid (Lib.indexByte r.data.toList c = i) := hi
      have hir : i < r.size := by rw [← size_list]; exact hil
      have e1 : tx (r.data.toList.take i) = r.extract 0 i := by
        rw [extract_seg]; simp [tx]
      have e2 : (r.extract (i + 1) r.size).data.toList = r.data.toList.drop (i + 1) := by
        rw [extract_seg]; simp only; rw [List.take_of_length_le (by rw [List.length_drop, size_list]; omega)]
      have hx2 : All = pre ++ r.extract 0 i :: (spl c (r.extract (i + 1) r.size).data.toList).map tx := by rw [HX.out, spl_hit c _ i hi, List.map_cons, e1, e2]
      obtain ⟨fn, tmps, assign, body, hy, hR⟩ := hY pre _ _ wr hx2 HJ.out
      have HX2 : Hid (All = pre ++ r.extract 0 i :: (spl c (r.extract (i + 1) r.size).data.toList).map tx) := hx2
      have HRS : Hid ((r.extract (i + 1) r.size).size ≤ maxLen ∧ (r.extract (i + 1) r.size).size < r.size) := by
        have : (r.extract (i + 1) r.size).size = r.size - (i + 1) := by simp
        have := HR.out
        exact ⟨by omega, by omega⟩
      have g1 : (0 : Int) ≤ (i : Int) := by omega
      have g2 : (i : Int) ≤ (r.size : Int) := by omega
      have g3 : (i : Int) + 1 ≤ (r.size : Int) := by omega
      have g4 : (0 : Int) ≤ (i : Int) + 1 := by omega
      clear hi hx2 e1 e2
      gi_wp2_with fail
      refine ⟨trivial, (fun h => by cases h), ?_⟩
      refine (callsIn_wide.2 (Tryd.strings_Index_one r c _)).mono ?_
      rintro e w2 ⟨rfl, hw2⟩
      rw [HI.out, hw2]
      clear hw2 w2
      gi_wp2_with fail
      refine ⟨(fun h => by cases h), ?_⟩
      refine hR.mono ?_
      rintro e W3 (⟨rfl, hJ3, hk3⟩ | ⟨rfl, hJx3⟩)
      · have B1 : Boxed W3 bs 9 (.string r) := (hk3 bs (by simp)).trans HB1.out
        have B2 : Boxed W3 bp 9 (.string ⟨#[c]⟩) := (hk3 bp (by simp)).trans HB2.out
        have B3 : Boxed W3 bz 3 (.int .i64 0) := (hk3 bz (by simp)).trans HB3.out
        have m1 := B1.cell
        have m2 := B2.cell
        have mf := B1.frozen
        have HN1 : Hid (Boxed (W3.setCell ⟨bs, 0, none⟩ (.string (r.extract (i + 1) r.size))) bs 9 (.string (r.extract (i + 1) r.size))) := B1.set _
        have HN2 : Hid (Boxed (W3.setCell ⟨bs, 0, none⟩ (.string (r.extract (i + 1) r.size))) bp 9 (.string ⟨#[c]⟩)) := B2.kept (grownBy_setCell' W3 bs _) (by simpa using Ne.symm hsp)
        have HN3 : Hid (Boxed (W3.setCell ⟨bs, 0, none⟩ (.string (r.extract (i + 1) r.size))) bz 3 (.int .i64 0)) := B3.kept (grownBy_setCell' W3 bs _) (by simpa using Ne.symm hsz)
        have HNJ : Hid (J (pre ++ [r.extract 0 i]) (W3.setCell ⟨bs, 0, none⟩ (.string (r.extract (i + 1) r.size)))) := sJ _ _ _ hJ3
        have HNL : Hid (strLeft (W3.setCell ⟨bs, 0, none⟩ (.string (r.extract (i + 1) r.size))) bs = (r.extract (i + 1) r.size).size) := strLeft_of HN1.out.cell
        clear hJ3 hk3 B1 B2 B3
        gi_wp2_with fail
        go_roundw
        case rel => exact ⟨_, _, by rw [List.append_assoc]; exact HX2.out, HNJ.out, HN1.out, HN2.out, HN3.out, HRS.out.1⟩
        case measure => rw [HNL.out, HL.out]; exact HRS.out.2
      · gi_wp2_with fail
        refine bodyPost_ret (results_none rfl _ _ _) rfl ?_
        exact ⟨⟨_, rfl⟩, .inr ⟨_, _, by rw [List.append_assoc]; exact HX2.out, hJx3⟩⟩
end Go.Proofs.YtkmbhgbmdeoppaaDoor

/-
  The variables that package strconv reads, as the rows of this seat list them, hold what its functions ask.
-/
namespace Go.Proofs.YtkmbhgbmdeoppaaDoor
open Go.RowKit Go.Lib

theorem iface_of {H : Type} {enc : TypeId × Value → H} {P : Program} {w : World} {base : Nat} {sp : Nat → Bool} {held : Bool} {fuel : Nat} {t : TypeId} {cs : List Value} {nm : String} {d : DataW H} {p : List MemPlace} {ms : _}
    (ht : P.underlying t = some (.interface ms)) (h : DataW.trod enc P w base sp held fuel t cs = some (.iface nm d, p)) : ∃ u v, cs = [.iface u v] := by
  cases fuel with
  | zero => simp [DataW.trod] at h
  | succ fuel =>
    match cs, h with
    | [.iface u v], _ => exact ⟨u, v, rfl⟩
    | [], h => simp [DataW.trod, ht] at h
    | x :: y :: r, h => simp [DataW.trod, ht] at h
    | [x], h => cases x <;> simp [DataW.trod, ht] at h <;> exact ⟨_, _, rfl⟩

structure STabs (w : World) : Prop where
  pow : Lib.TabIs Tryd.prog w "internal/strconv.uint64pow10" .u64 Lib.pow10Tab
  syn : ∃ u v, w.cell? ⟨4, 0, none⟩ = some (.iface u v)
  rng : ∃ u v, w.cell? ⟨5, 0, none⟩ = some (.iface u v)
theorem vkeep {P : Program} {n : String} {cs : Array Value} {w w' : World} (h : w.var? P n = some cs) (hb : Below w.heap.size w w') : w'.var? P n = some cs := by
  unfold World.var? at h ⊢
  cases hg : P.globalNamed n with
  | none => rw [hg] at h; cases h
  | some g =>
    rw [hg, Option.bind_some] at h
    rw [Option.bind_some]
    by_cases hlt : g < w.heap.size
    · rw [hb.block g hlt]; exact h
    · rw [Array.getElem?_eq_none (by omega)] at h; cases h
theorem STabs.below {w w' : World} (h : STabs w) (hb : Below w.heap.size w w') : STabs w' where
  pow := vkeep h.pow hb
  syn := by obtain ⟨u, v, e⟩ := h.syn; exact ⟨u, v, cell_keep hb e⟩
  rng := by obtain ⟨u, v, e⟩ := h.rng; exact ⟨u, v, cell_keep hb e⟩
theorem err_of {w : World} {name : String} {g : Nat} {t : TypeId} {ms : _} {nm : String} {d : DataW Unit} (h : VarReads Tryd.prog w name (.iface nm d)) (hg : Tryd.prog.globalNamed name = some g)
    (hty : (Tryd.prog.globals[g]?).map (·.type) = some t) (ht : Tryd.prog.underlying t = some (.interface ms)) : ∃ u v, w.cell? ⟨g, 0, none⟩ = some (.iface u v) := by
  obtain ⟨g', t', cs, fuel, p, hg', ht', hv, hd⟩ := h
  obtain rfl := Option.some.inj (hg.symm.trans hg')
  obtain rfl := Option.some.inj (hty.symm.trans ht')
  obtain ⟨u, v, e⟩ := iface_of ht hd
  refine ⟨u, v, ?_⟩
  rw [World.var?_cell hg hv 0]
  have : cs[0]? = cs.toList[0]? := by simp
  rw [this, e]; rfl
theorem stabs_of {l : List (String × DataW Unit)} (w : World) (h : laidMet Tryd.prog l w) (h1 : ("internal/strconv.uint64pow10", Rows.laid_internal_strconv_uint64pow10) ∈ l)
    (h2 : ("strconv.ErrSyntax", Rows.laid_strconv_ErrSyntax) ∈ l) (h3 : ("strconv.ErrRange", Rows.laid_strconv_ErrRange) ∈ l) : STabs w where
  pow := by
    have r : VarReads Tryd.prog w "internal/strconv.uint64pow10" Rows.laid_internal_strconv_uint64pow10 := laidMet.reads h h1
    rw [show (Rows.laid_internal_strconv_uint64pow10 : DataW Unit) = tabData .u64 pow10Tab from by kernel_rfl] at r
    obtain ⟨g', t', cs, fuel, p, hg', ht', hv, hd⟩ := r
    obtain rfl := Option.some.inj ((show Tryd.prog.globalNamed "internal/strconv.uint64pow10" = some 3 by kernel_rfl).symm.trans hg')
    obtain rfl := Option.some.inj ((show (Tryd.prog.globals[3]?).map (·.type) = some 121 by kernel_rfl).symm.trans ht')
    unfold TabIs
    rw [hv, ← cells_of_tab Tryd.underlying121 Tryd.underlying104 (by kernel_rfl) (by kernel_rfl) hd]
  syn := err_of (laidMet.reads h h2) (by kernel_rfl) (by kernel_rfl) Tryd.underlying69
  rng := err_of (laidMet.reads h h3) (by kernel_rfl) (by kernel_rfl) Tryd.underlying69
end Go.Proofs.YtkmbhgbmdeoppaaDoor

/-
  Which bytes of a body these are, as a text, and a text of several of them; no program is named here.
-/
namespace Go.Proofs.YtkmbhgbmdeoppaaDoor
open Go.RowKit

/-- A slice of a body of so many bytes. -/
def okC (x : Wn) (size : Int) : Bool := decide (0 ≤ x.1 ∧ x.1 < x.2 ∧ x.2 ≤ size ∧ size ≤ 99999)
def ctB (x : Wn) (size : Int) : List UInt8 := [98, 121, 116, 101, 115, 32] ++ (Lib.decDigits x.1.toNat ++ 45 :: (Lib.decDigits (x.2 - 1).toNat ++ 47 :: Lib.decDigits size.toNat))
def prC (x : Wn) (size : Int) : List UInt8 × Int := if okC x size = true then (ctB x size, 0) else ([], 1)
theorem okC_is {x : Wn} {size : Int} (h : okC x size = true) : 0 ≤ x.1 ∧ x.1 < x.2 ∧ x.2 ≤ size ∧ size ≤ 99999 := by
  unfold okC at h; simpa using h
theorem okC_of {x : Wn} {size : Int} (h : 0 ≤ x.1 ∧ x.1 < x.2 ∧ x.2 ≤ size ∧ size ≤ 99999) : okC x size = true := by
  unfold okC; simpa using h
theorem prC_ok {x : Wn} {size : Int} (h : okC x size = true) : prC x size = (ctB x size, 0) := by unfold prC; rw [if_pos h]
theorem prC_bad {x : Wn} {size : Int} (h : okC x size = false) : prC x size = ([], 1) := by unfold prC; rw [if_neg (by rw [h]; simp)]
theorem dec_no (u : Nat) (d : UInt8) (hd : isDig d = false) : ∀ b ∈ Lib.decDigits u, b ≠ d := by
  intro b hb e
  subst e
  have := List.all_eq_true.1 (dec_all u) b hb
  rw [hd] at this; cases this
theorem ctB_len {x : Wn} {size : Int} (h : okC x size = true) : (ctB x size).length ≤ 23 := by
  obtain ⟨h1, h2, h3, h4⟩ := okC_is h
  have a := dec_len5 x.1.toNat (by omega)
  have b := dec_len5 (x.2 - 1).toNat (by omega)
  have c := dec_len5 size.toNat (by omega)
  unfold ctB
  simp only [List.length_append, List.length_cons, List.length_nil]; omega
/-- One such text, read as the document's answer reads it. -/
def paX (s : List UInt8) : Wn := (cnt ((s.take (Lib.index s [45]).toNat).drop 6) 99999, cnt ((s.take (Lib.index s [47]).toNat).drop ((Lib.index s [45]).toNat + 1)) 99999 + 1)
def paN (s : List UInt8) : Int := cnt (s.drop ((Lib.index s [47]).toNat + 1)) 99999
def paC (s : List UInt8) : (Wn × Int) × Int :=
  if Lib.index s [45] < 6 ∨ Lib.index s [47] < Lib.index s [45] then (((0, 0), 0), 3)
  else if okC (paX s) (paN s) = true ∧ ctB (paX s) (paN s) = s then ((paX s, paN s), 0) else (((0, 0), 0), 3)
theorem ctB_i45 (x : Wn) (size : Int) : Lib.index (ctB x size) [45] = 6 + ((Lib.decDigits x.1.toNat).length : Int) := by
  have e : ctB x size = ([98, 121, 116, 101, 115, 32] ++ Lib.decDigits x.1.toNat) ++ 45 :: (Lib.decDigits (x.2 - 1).toNat ++ 47 :: Lib.decDigits size.toNat) := by unfold ctB; simp
  rw [e, index_byte_at 45 _ _ ?_]
  · simp; omega
  · intro b hb
    rcases List.mem_append.1 hb with hb | hb
    · have : ∀ b ∈ ([98, 121, 116, 101, 115, 32] : List UInt8), b ≠ 45 := by decide
      exact this b hb
    · exact dec_no _ 45 (by decide) b hb
theorem ctB_i47 (x : Wn) (size : Int) : Lib.index (ctB x size) [47] = 7 + ((Lib.decDigits x.1.toNat).length : Int) + ((Lib.decDigits (x.2 - 1).toNat).length : Int) := by
  have e : ctB x size = ([98, 121, 116, 101, 115, 32] ++ Lib.decDigits x.1.toNat ++ 45 :: Lib.decDigits (x.2 - 1).toNat) ++ 47 :: Lib.decDigits size.toNat := by unfold ctB; simp
  rw [e, index_byte_at 47 _ _ ?_]
  · simp; omega
  · intro b hb
    rcases List.mem_append.1 hb with hb | hb
    · rcases List.mem_append.1 hb with hb | hb
      · have : ∀ b ∈ ([98, 121, 116, 101, 115, 32] : List UInt8), b ≠ 47 := by decide
        exact this b hb
      · exact dec_no _ 47 (by decide) b hb
    · rcases List.mem_cons.1 hb with rfl | hb
      · decide
      · exact dec_no _ 47 (by decide) b hb
theorem paX_back {x : Wn} {size : Int} (h : okC x size = true) : paX (ctB x size) = x ∧ paN (ctB x size) = size := by
  obtain ⟨h1, h2, h3, h4⟩ := okC_is h
  generalize hA : Lib.decDigits x.1.toNat = A at *
  generalize hB : Lib.decDigits (x.2 - 1).toNat = B at *
  generalize hC : Lib.decDigits size.toNat = C at *
  have i1 := ctB_i45 x size
  have i2 := ctB_i47 x size
  rw [hA] at i1
  rw [hA, hB] at i2
  have e : ctB x size = [98, 121, 116, 101, 115, 32] ++ (A ++ 45 :: (B ++ 47 :: C)) := by unfold ctB; rw [hA, hB, hC]
  have t1 : (Lib.index (ctB x size) [45]).toNat = 6 + A.length := by omega
  have t2 : (Lib.index (ctB x size) [47]).toNat = 7 + A.length + B.length := by omega
  have p1 : ((ctB x size).take (6 + A.length)).drop 6 = A := by
    rw [e]
    have : ([98, 121, 116, 101, 115, 32] ++ (A ++ 45 :: (B ++ 47 :: C)) : List UInt8).take (6 + A.length) = [98, 121, 116, 101, 115, 32] ++ A := by
      rw [← List.append_assoc]
      exact List.take_left' (by simp; omega)
    rw [this]; rfl
  have p2 : ((ctB x size).take (7 + A.length + B.length)).drop (6 + A.length + 1) = B := by
    rw [e]
    have : ([98, 121, 116, 101, 115, 32] ++ (A ++ 45 :: (B ++ 47 :: C)) : List UInt8) = ([98, 121, 116, 101, 115, 32] ++ (A ++ 45 :: B)) ++ 47 :: C := by simp
    rw [this, List.take_left' (by simp; omega)]
    have : ([98, 121, 116, 101, 115, 32] ++ (A ++ 45 :: B) : List UInt8) = ([98, 121, 116, 101, 115, 32] ++ (A ++ [45])) ++ B := by simp
    rw [this, List.drop_left' (by simp; omega)]
  have p3 : (ctB x size).drop (7 + A.length + B.length + 1) = C := by
    rw [e]
    have : ([98, 121, 116, 101, 115, 32] ++ (A ++ 45 :: (B ++ 47 :: C)) : List UInt8) = ([98, 121, 116, 101, 115, 32] ++ (A ++ 45 :: (B ++ [47]))) ++ C := by simp
    rw [this, List.drop_left' (by simp; omega)]
  unfold paX paN
  rw [t1, t2, p1, p2, p3, ← hA, ← hB, ← hC, cnt_dec5 _ (by omega), cnt_dec5 _ (by omega), cnt_dec5 _ (by omega)]
  refine ⟨Prod.ext (by simp only; omega) (by simp only; omega), by omega⟩
theorem paC_back {x : Wn} {size : Int} (h : okC x size = true) : paC (ctB x size) = ((x, size), 0) := by
  obtain ⟨e1, e2⟩ := paX_back h
  unfold paC
  rw [if_neg (by rw [ctB_i45, ctB_i47]; omega), e1, e2, if_pos ⟨h, rfl⟩]
theorem paC_ok {s : List UInt8} {x : Wn} {size : Int} (h : paC s = ((x, size), 0)) : okC x size = true ∧ ctB x size = s := by
  unfold paC at h
  split at h
  · cases (Prod.mk.inj h).2
  · split at h
    · rename_i h2
      obtain ⟨h3, _⟩ := Prod.mk.inj h
      obtain ⟨rfl, rfl⟩ := Prod.mk.inj h3
      exact h2
    · cases (Prod.mk.inj h).2
theorem paC_two (s : List UInt8) : (∃ x size, paC s = ((x, size), 0)) ∨ paC s = (((0, 0), 0), 3) := by
  unfold paC
  split
  · exact .inr rfl
  · split
    · exact .inl ⟨_, _, rfl⟩
    · exact .inr rfl
theorem paC_iff (s : List UInt8) (x : Wn) (size : Int) : paC s = ((x, size), 0) ↔ okC x size = true ∧ ctB x size = s :=
  ⟨paC_ok, fun ⟨h, e⟩ => by rw [← e]; exact paC_back h⟩
theorem paC_no {s : List UInt8} (h : ∀ x size, okC x size = true → ctB x size ≠ s) : paC s = (((0, 0), 0), 3) := by
  rcases paC_two s with ⟨x, size, h2⟩ | h2
  · obtain ⟨h3, h4⟩ := paC_ok h2
    exact absurd h4 (h x size h3)
  · exact h2
theorem paC_nil : paC [] = (((0, 0), 0), 3) := paC_no (fun x size _ h => by unfold ctB at h; simp at h)
theorem ctB_no (x : Wn) (size : Int) (d : UInt8) (hd : isDig d = false) (h1 : d ∉ ([98, 121, 116, 101, 115, 32, 45, 47] : List UInt8)) : ∀ b ∈ ctB x size, b ≠ d := by
  intro b hb e
  subst e
  unfold ctB at hb
  simp only [List.mem_append, List.mem_cons, List.not_mem_nil, or_false] at hb
  simp only [List.mem_cons, List.not_mem_nil, or_false, not_or] at h1
  rcases hb with hb | hb | hb | hb | hb | hb
  · rcases hb with hb | hb | hb | hb | hb | hb <;> simp_all
  · exact dec_no _ _ hd _ hb rfl
  · simp_all
  · exact dec_no _ _ hd _ hb rfl
  · simp_all
  · exact dec_no _ _ hd _ hb rfl
end Go.Proofs.YtkmbhgbmdeoppaaDoor

/-
  A text without its end or its beginning, and whether it has it; no program is named here.
-/
namespace Go.Proofs.YtkmbhgbmdeoppaaDoor
open Go.RowKit

/-- A text without its end, and whether it ends so. -/
def cutSuf (s p : List UInt8) : List UInt8 × Bool := (Lib.trimSuffix s p, Lib.hasSuffix s p)
/-- A text without its beginning, and whether it begins so. -/
def cutPre (s p : List UInt8) : List UInt8 × Bool := (Lib.trimPrefix s p, Lib.hasPrefix s p)
end Go.Proofs.YtkmbhgbmdeoppaaDoor

/-
  A number that a text tells (-1 if it tells none, or one above 99999), and what is read by such numbers and held against what would be printed: a want, a slice of a body; no program is named here.
-/
namespace Go.Proofs.YtkmbhgbmdeoppaaDoor
open Go.RowKit

def nmb (s : List UInt8) : Int := match Lib.atoiAll s with
  | .ok n => if 99999 < n then -1 else n
  | .«syntax» => -1
  | .range => -1
theorem atoi_low {s : List UInt8} {n : Int} (h : Lib.atoiAll s = .ok n) : -9223372036854775808 ≤ n := by
  unfold Lib.atoiAll at h
  split at h
  · cases h
  · dsimp only at h
    split at h
    · cases h
    · cases h
    · split at h
      · cases h
      · split at h
        · cases h
        · cases h
          split <;> omega
theorem nmb_bd (s : List UInt8) : -9223372036854775808 ≤ nmb s ∧ nmb s ≤ 99999 := by
  unfold nmb
  split
  · rename_i n h
    have := atoi_low h
    split <;> omega
  · omega
  · omega
theorem nmb_sgn {n : Int} (h1 : -1 ≤ n) (h2 : n ≤ 99999) : nmb (sgn n) = n := by
  by_cases h : n < 0
  · rw [sgn_neg h]
    have : nmb [] = -1 := by decide
    rw [this]; omega
  · rw [sgn_pos (by omega)]
    have hl := dec_len5 n.toNat (by omega)
    unfold nmb
    rw [atoi_dig _ (dec_ne _) (dec_all _) (by omega), numb_dec]
    dsimp only
    rw [if_neg (by omega)]; omega
theorem nmb_dec {u : Nat} (h : u ≤ 99999) : nmb (Lib.decDigits u) = u := by
  have := nmb_sgn (n := (u : Int)) (by omega) (by omega)
  rwa [sgn_pos (by omega), Int.toNat_natCast] at this

theorem cutn_yes (d : UInt8) (a r : List UInt8) (h : ∀ b ∈ a, b ≠ d) : Lib.cut (a ++ d :: r) [d] = (a, r, true) := by
  unfold Lib.cut
  rw [index_byte_at d a r h, if_pos (by omega)]
  simp
/-- The two numbers of a want, read. -/
def rdW (s : List UInt8) : Wn := (nmb (Lib.cut s [45]).1, nmb (Lib.cut s [45]).2.1)
theorem rdW_pr {w : Wn} (h : okW w = true) : rdW (prW w) = w := by
  obtain ⟨h1, h2, h3, h4, _⟩ := okW_is h
  unfold rdW prW
  rw [cutn_yes 45 _ _ (sgn_no w.1 45 (by decide)), nmb_sgn h1 h2, nmb_sgn h3 h4]
theorem rdW_yes {s : List UInt8} (h : okW (rdW s) = true) (e : prW (rdW s) = s) : paW s = some (rdW s) := (paW_iff _ _).2 ⟨h, e⟩
theorem rdW_no {s : List UInt8} (h : ¬ (okW (rdW s) = true ∧ prW (rdW s) = s)) : paW s = none := by
  cases hp : paW s with
  | none => rfl
  | some w =>
    obtain ⟨h1, h2⟩ := paW_some hp
    exfalso
    apply h
    rw [← h2, rdW_pr h1]
    exact ⟨h1, rfl⟩

/-- A slice of a body, read. -/
def rdA (s : List UInt8) : List UInt8 := (cutPre s [98, 121, 116, 101, 115, 32]).1
def rdB (s : List UInt8) : List UInt8 := (Lib.cut (rdA s) [45]).2.1
def rdX (s : List UInt8) : Wn := (nmb (Lib.cut (rdA s) [45]).1, nmb (Lib.cut (rdB s) [47]).1 + 1)
def rdN (s : List UInt8) : Int := nmb (Lib.cut (rdB s) [47]).2.1
theorem rdA_ct (x : Wn) (size : Int) : rdA (ctB x size) = Lib.decDigits x.1.toNat ++ 45 :: (Lib.decDigits (x.2 - 1).toNat ++ 47 :: Lib.decDigits size.toNat) := by
  unfold rdA cutPre ctB Lib.trimPrefix
  simp [Lib.hasPrefix]
theorem rdB_ct (x : Wn) (size : Int) : rdB (ctB x size) = Lib.decDigits (x.2 - 1).toNat ++ 47 :: Lib.decDigits size.toNat := by
  unfold rdB
  rw [rdA_ct, cutn_yes 45 _ _ (dec_no _ 45 (by decide))]
theorem rdX_ct {x : Wn} {size : Int} (h : okC x size = true) : rdX (ctB x size) = x ∧ rdN (ctB x size) = size := by
  obtain ⟨h1, h2, h3, h4⟩ := okC_is h
  unfold rdX rdN
  rw [rdB_ct, rdA_ct, cutn_yes 45 _ _ (dec_no _ 45 (by decide)), cutn_yes 47 _ _ (dec_no _ 47 (by decide)), nmb_dec (by omega), nmb_dec (by omega), nmb_dec (by omega)]
  refine ⟨Prod.ext ?_ ?_, ?_⟩ <;> (try simp only) <;> omega
theorem rdC_yes {s : List UInt8} (h : okC (rdX s) (rdN s) = true) (e : ctB (rdX s) (rdN s) = s) : paC s = ((rdX s, rdN s), 0) := (paC_iff _ _ _).2 ⟨h, e⟩
theorem rdC_bad {s : List UInt8} (h : ¬ (okC (rdX s) (rdN s) = true ∧ ctB (rdX s) (rdN s) = s)) : paC s = (((0, 0), 0), 3) := by
  apply paC_no
  intro x size hx e
  apply h
  obtain ⟨h1, h2⟩ := rdX_ct hx
  rw [e] at h1 h2
  rw [h1, h2]
  exact ⟨hx, e⟩
end Go.Proofs.YtkmbhgbmdeoppaaDoor

/-
  What number of package span answers; the listed variables of package strconv hold what their text lays.
-/
namespace Go.Proofs.YtkmbhgbmdeoppaaDoor
open Go.RowKit

set_option maxRecDepth 100000 in
theorem snum_at (s : ByteArray) (n : Int) (h : nmb s.data.toList = n) (w : World) (hs : s.size ≤ 140737488351232) (hT : STabs w) :
    Calls Tryd.prog 36 #[.string s] w fun e w' => e = .returned (.int .i64 n) ∧ Below w.heap.size w w' := by
  have HT : Hid (STabs w) := hT
  clear hT
  unfold nmb at h
  split at h
  · rename_i u hu
    have HU : Hid (Lib.atoiAll s.data.toList = .ok u) := hu
    by_cases hc : 99999 < u
    · rw [if_pos hc] at h
      subst h
      clear hu
      go_enter Tryd.func36, Tryd.ntmps36
      go_wp2_with fail
      refine (Tryd.strconv_Atoi_ok s (by omega) u HU.out _).mono ?_
      rintro e w1 ⟨rfl, hw1⟩
      have hb1 : Below w.heap.size w w1 := by
        rcases hw1 with rfl | ⟨t, rfl⟩
        · exact Below.refl _ _
        · exact Lib.bytesWorld_below _ _ _
      clear hw1
      go_wp2_with fail
      go_ret
      exact ⟨rfl, hb1⟩
    · rw [if_neg hc] at h
      subst h
      clear hu
      go_enter Tryd.func36, Tryd.ntmps36
      go_wp2_with fail
      refine (Tryd.strconv_Atoi_ok s (by omega) u HU.out _).mono ?_
      rintro e w1 ⟨rfl, hw1⟩
      have hb1 : Below w.heap.size w w1 := by
        rcases hw1 with rfl | ⟨t, rfl⟩
        · exact Below.refl _ _
        · exact Lib.bytesWorld_below _ _ _
      clear hw1
      go_wp2_with fail
      go_ret
      exact ⟨rfl, hb1⟩
  · rename_i hu
    subst h
    have HU : Hid (Lib.atoiAll s.data.toList = .«syntax») := hu
    obtain ⟨te, pe, hev⟩ := HT.out.syn
    have HV : Hid (w.cell? ⟨4, 0, none⟩ = some (.iface te pe)) := hev
    clear hu hev
    go_enter Tryd.func36, Tryd.ntmps36
    go_wp2_with fail
    refine (Tryd.strconv_Atoi_syntax s (by omega) HU.out _ _ HV.out (.inr ⟨_, _, rfl⟩)).mono ?_
    rintro e w1 ⟨N, rfl, _, _, hb⟩
    go_wp2_with fail
    go_ret
    exact ⟨rfl, hb⟩
  · rename_i hu
    subst h
    have HU : Hid (Lib.atoiAll s.data.toList = .range) := hu
    obtain ⟨te, pe, hev⟩ := HT.out.rng
    have HV : Hid (w.cell? ⟨5, 0, none⟩ = some (.iface te pe)) := hev
    clear hu hev
    go_enter Tryd.func36, Tryd.ntmps36
    go_wp2_with fail
    refine (Tryd.strconv_Atoi_range s (by omega) HU.out _ _ HV.out (.inr ⟨_, _, rfl⟩)).mono ?_
    rintro e w1 ⟨N, rfl, _, _, hb⟩
    go_wp2_with fail
    go_ret
    exact ⟨rfl, hb⟩
end Go.Proofs.YtkmbhgbmdeoppaaDoor

/-
  What strings.Cut answers where a single byte is looked for, whatever the size of the text.
-/
namespace Go.Proofs.YtkmbhgbmdeoppaaDoor
open Go.RowKit

set_option maxHeartbeats 2000000 in
set_option maxRecDepth 100000 in
theorem slcut1 (s : ByteArray) (c : UInt8) (w : World) (hs : s.size ≤ maxLen) :
    Calls Tryd.prog 56 #[.string s, .string ⟨#[c]⟩] w fun e w' => e = .returned (.tuple #[.string ⟨(Lib.cut s.data.toList [c]).1.toArray⟩, .string ⟨(Lib.cut s.data.toList [c]).2.1.toArray⟩, .bool (Lib.cut s.data.toList [c]).2.2]) ∧ ∃ n, w' = w.drewN n := by
  have hio := Lib.index_one s.data.toList c
  unfold maxLen at hs
  rcases Lib.indexB_cases s ⟨#[c]⟩ with hix | ⟨i, hix, hroom⟩
  · obtain ⟨e1, e2, e3⟩ := Lib.cutB_miss s ⟨#[c]⟩ hix
    have hI : Lib.indexByte s.data.toList c = -1 := by rw [← hio]; exact hix
    rw [show ([c] : List UInt8) = (⟨#[c]⟩ : ByteArray).data.toList from rfl, e1, e2, e3]
    have HI : Hid (Lib.indexByte s.data.toList c = -1) := hI
    clear hio hix e1 e2 e3 hI
    go_enter Tryd.func56, Tryd.ntmps56
    go_wp2_with fail
    refine (Tryd.stringslite_Index_one s c _).mono ?_
    rintro e w1 ⟨rfl, rfl⟩
    rw [HI.out]
    go_wp2_with fail
    go_ret3
    exact ⟨rfl, 0, rfl⟩
  · obtain ⟨e1, e2, e3⟩ := Lib.cutB_hit s ⟨#[c]⟩ i hix
    have hI : Lib.indexByte s.data.toList c = i := by rw [← hio]; exact hix
    have hone : (⟨#[c]⟩ : ByteArray).size = 1 := rfl
    rw [show ([c] : List UInt8) = (⟨#[c]⟩ : ByteArray).data.toList from rfl, e1, e2, e3]
    rw [hone] at hroom ⊢
    have HI : Hid (Lib.indexByte s.data.toList c = i) := hI
    have c1 : (0 : Int) ≤ (i : Int) := by omega
    have c2 : (i : Int) ≤ (s.size : Int) := by omega
    have c3 : (0 : Int) ≤ (i : Int) + 1 := by omega
    have c4 : (i : Int) + 1 ≤ (s.size : Int) := by omega
    clear hio hix e1 e2 e3 hI hone
    have mixed : Tryd.prog.follows Departure.mixedOrders = true := by kernel_rfl
    go_enter Tryd.func56, Tryd.ntmps56
    go_wp2_with fail
    refine (Tryd.stringslite_Index_one s c _).mono ?_
    rintro e w1 ⟨rfl, rfl⟩
    rw [HI.out]
    go_wp2_with fail
    go_region_o
    go_wp2_with fail
    go_ret3
    exact ⟨rfl, 1, rfl⟩
theorem scut1_at (s a b : ByteArray) (c : UInt8) (f : Bool) (h : Lib.cut s.data.toList [c] = (a.data.toList, b.data.toList, f)) (w : World) (hs : s.size ≤ maxLen) :
    Calls Tryd.prog 35 #[.string s, .string ⟨#[c]⟩] w fun e w' => e = .returned (.tuple #[.string a, .string b, .bool f]) ∧ ∃ n, w' = w.drewN n := by
  have hc := slcut1 s c
  rw [h] at hc
  have HC : Hid (∀ (w : World), s.size ≤ maxLen → Calls Tryd.prog 56 #[.string s, .string ⟨#[c]⟩] w fun e w' => e = .returned (.tuple #[.string a, .string b, .bool f]) ∧ ∃ n, w' = w.drewN n) := hc
  have HS : Hid (s.size ≤ maxLen) := hs
  clear hc hs h
  go_enter Tryd.func35, Tryd.ntmps35
  go_wp2_with fail
  refine (HC.out _ HS.out).mono ?_
  rintro e w1 ⟨rfl, n, rfl⟩
  go_wp2_with fail
  go_ret3
  exact ⟨rfl, n, rfl⟩
end Go.Proofs.YtkmbhgbmdeoppaaDoor

/-
  What readWant of package span answers; the listed variables of package strconv hold what their text lays.
-/
namespace Go.Proofs.YtkmbhgbmdeoppaaDoor
open Go.RowKit

theorem rdw_keep {w W w3 : World} {g r : Nat} {n u : Value} (h : W.cell? ⟨g, 0, none⟩ = some n ∧ W.cell? ⟨g, 1, none⟩ = some u ∧ W.cell? ⟨r, 0, none⟩ = some (.int .i64 0) ∧ W.cell? ⟨r, 1, none⟩ = some (.int .i64 0) ∧ W.frozen? ⟨r, 0, none⟩ = false ∧ W.frozen? ⟨r, 1, none⟩ = false ∧ g < W.heap.size ∧ r < W.heap.size ∧ Below w.heap.size w W) (hb : Below W.heap.size W w3) :
    w3.cell? ⟨g, 0, none⟩ = some n ∧ w3.cell? ⟨g, 1, none⟩ = some u ∧ w3.cell? ⟨r, 0, none⟩ = some (.int .i64 0) ∧ w3.cell? ⟨r, 1, none⟩ = some (.int .i64 0) ∧ w3.frozen? ⟨r, 0, none⟩ = false ∧ w3.frozen? ⟨r, 1, none⟩ = false ∧ g < w3.heap.size ∧ r < w3.heap.size ∧ Below w.heap.size w w3 := by
  obtain ⟨h1, h2, h3, h4, h5, h6, h7, h8, h9⟩ := h
  have hs := hb.size
  exact ⟨(hb.cell (p := ⟨g, 0, none⟩) h7).trans h1, (hb.cell (p := ⟨g, 1, none⟩) h7).trans h2, (hb.cell (p := ⟨r, 0, none⟩) h8).trans h3, (hb.cell (p := ⟨r, 1, none⟩) h8).trans h4, (hb.frozen (p := ⟨r, 0, none⟩) h8).trans h5, (hb.frozen (p := ⟨r, 1, none⟩) h8).trans h6, by omega, by omega, h9.trans (hb.mono h9.size)⟩
theorem rdw_start {w w3 : World} {r : Nat} (a b : Value) (t : TypeId) (h0 : w3.cell? ⟨r, 0, none⟩ = some (.int .i64 0)) (h1 : w3.cell? ⟨r, 1, none⟩ = some (.int .i64 0)) (f0 : w3.frozen? ⟨r, 0, none⟩ = false) (f1 : w3.frozen? ⟨r, 1, none⟩ = false) (hl : r < w3.heap.size) (hb : Below w.heap.size w w3) :
    (w3.alloc (.cells #[a, b] t)).drew.cell? ⟨w3.heap.size, 0, none⟩ = some a ∧ (w3.alloc (.cells #[a, b] t)).drew.cell? ⟨w3.heap.size, 1, none⟩ = some b ∧ (w3.alloc (.cells #[a, b] t)).drew.cell? ⟨r, 0, none⟩ = some (.int .i64 0) ∧ (w3.alloc (.cells #[a, b] t)).drew.cell? ⟨r, 1, none⟩ = some (.int .i64 0) ∧ (w3.alloc (.cells #[a, b] t)).drew.frozen? ⟨r, 0, none⟩ = false ∧ (w3.alloc (.cells #[a, b] t)).drew.frozen? ⟨r, 1, none⟩ = false ∧ w3.heap.size < (w3.alloc (.cells #[a, b] t)).drew.heap.size ∧ r < (w3.alloc (.cells #[a, b] t)).drew.heap.size ∧ Below w.heap.size w (w3.alloc (.cells #[a, b] t)).drew := by
  have hb2 : Below w3.heap.size w3 (w3.alloc (.cells #[a, b] t)).drew := (below_alloc w3 _).drew
  exact ⟨by simp, by simp, (hb2.cell (p := ⟨r, 0, none⟩) hl).trans h0, (hb2.cell (p := ⟨r, 1, none⟩) hl).trans h1, (hb2.frozen (p := ⟨r, 0, none⟩) hl).trans f0, (hb2.frozen (p := ⟨r, 1, none⟩) hl).trans f1, by simp, by simp; omega, hb.trans (hb2.mono hb.size)⟩
theorem swant_is (a b : Int) (k : Bool) (h : okW (a, b) = k) (w : World) :
    Calls Tryd.prog 43 #[.agg #[.int .i64 a, .int .i64 b]] w fun e w' => e = .returned (.bool k) ∧ Below w.heap.size w w' := by
  subst h; exact swant_any a b w
set_option maxHeartbeats 2000000 in
set_option maxRecDepth 100000 in
theorem srdw_at (s : ByteArray) (a b : Int) (h : rdW s.data.toList = (a, b)) (w : World) (hs : s.size ≤ 140737488351232) (hT : STabs w) :
    Calls Tryd.prog 25 #[.string s] w fun e w' => e = .returned (.tuple #[.agg #[.int .i64 a, .int .i64 b], .bool (okW (a, b) && decide (prW (a, b) = s.data.toList))]) ∧ Below w.heap.size w w' := by
  obtain ⟨x, y, f, hcut⟩ : ∃ (x y : ByteArray) (f : Bool), Lib.cut s.data.toList [45] = (x.data.toList, y.data.toList, f) := ⟨⟨(Lib.cut s.data.toList [45]).1.toArray⟩, ⟨(Lib.cut s.data.toList [45]).2.1.toArray⟩, (Lib.cut s.data.toList [45]).2.2, rfl⟩
  have hlen : x.size ≤ s.size ∧ y.size ≤ s.size := by
    have hl : (Lib.cut s.data.toList [45]).1.length ≤ s.data.toList.length ∧ (Lib.cut s.data.toList [45]).2.1.length ≤ s.data.toList.length := by
      unfold Lib.cut
      split
      · simp only [List.length_take, List.length_drop]; omega
      · simp
    rw [hcut] at hl
    simp only [size_list] at hl
    exact hl
  have HCUT : Hid (Lib.cut s.data.toList [45] = (x.data.toList, y.data.toList, f)) := hcut
  have HX : Hid (nmb x.data.toList = a) := by have := congrArg Prod.fst h; unfold rdW at this; rw [hcut] at this; exact this
  have HY : Hid (nmb y.data.toList = b) := by have := congrArg Prod.snd h; unfold rdW at this; rw [hcut] at this; exact this
  have HT : Hid (STabs w) := hT
  have HS : Hid (s.size ≤ maxLen) := by show _ ≤ _; unfold maxLen; omega
  obtain ⟨hx, hy⟩ := hlen
  have hxs : x.size ≤ 140737488351232 := by omega
  have hys : y.size ≤ 140737488351232 := by omega
  obtain ⟨k, hk⟩ : ∃ k, okW (a, b) = k := ⟨_, rfl⟩
  have HK : Hid (okW (a, b) = k) := hk
  rw [hk]
  clear hcut h hT hk hx hy
  cases k
  · go_enter Tryd.func25, Tryd.ntmps25
    go_wp2_with fail
    refine (scut1_at s x y 45 f HCUT.out _ HS.out).mono ?_
    rintro e w1 ⟨rfl, nq, hw1⟩
    have hb1 : Below (w.alloc (.cells #[.int .i64 0, .int .i64 0] 31)).heap.size (w.alloc (.cells #[.int .i64 0, .int .i64 0] 31)) w1 := by rw [hw1]; exact drewN_below _ _ _
    clear hw1
    have HT1 : Hid (STabs w1) := HT.out.below (below_new hb1)
    go_wp2_with fail
    refine (snum_at x a HX.out _ hxs HT1.out).mono ?_
    rintro e w2 ⟨rfl, hb2⟩
    have HT2 : Hid (STabs w2) := HT1.out.below hb2
    go_wp2_with fail
    refine (snum_at y b HY.out _ hys HT2.out).mono ?_
    rintro e w3 ⟨rfl, hb3⟩
    obtain ⟨r0, r1, rf, rlt, rb⟩ := two_cells (hb1.trans ((hb2.trans (hb3.mono hb2.size)).mono hb1.size))
    have hrf0 := rf 0
    have hrf1 := rf 1
    have hne1 : ¬ w3.heap.size = w.heap.size := by omega
    have hne2 : ¬ w.heap.size = w3.heap.size := by omega
    clear hb1 hb2 hb3 rf
    go_wp2_with fail
    refine wp_region_noPanic ?_
    refine wp_region_held_drew (S := fun w' => w'.cell? ⟨w3.heap.size, 0, none⟩ = some (.int .i64 a) ∧ w'.cell? ⟨w3.heap.size, 1, none⟩ = some (.int .i64 b)) (by kernel_rfl) ?_ (fun hHeld => ?_)
    · go_keep
    refine wpAnyH_take (i := 0) (v := (.agg #[.int .i64 a, .int .i64 b])) rfl (by kernel_rfl) (by kernel_rfl) (by kernel_rfl) (fun _ _ _ h => h) (Or.inl ⟨by rfl, ?_⟩) (by assumption) ?_
    · intro w' hSw; (try dsimp only at hSw); obtain ⟨hs0, hs1⟩ := hSw; go_simp; try with_reducible rfl
    try simp only [Act.put]
    refine wpAnyH_take (i := 1) (v := (.agg #[.int .i64 a, .int .i64 b])) rfl (by kernel_rfl) (by kernel_rfl) (by kernel_rfl) (fun _ _ _ h => h) (Or.inl ⟨by rfl, ?_⟩) (by assumption) ?_
    · intro w' hSw; (try dsimp only at hSw); obtain ⟨hs0, hs1⟩ := hSw; go_simp; try with_reducible rfl
    try simp only [Act.put]
    refine wpAnyH_ready (rs := [2]) (by kernel_rfl) (by simp) ?_
    refine AllReadyH.cons rfl (fun K hK => ?_) AllReadyH.nil
    go_simp
    refine (swant_is a b false HK.out _).mono ?_
    rintro e w4 ⟨rfl, hb⟩
    obtain ⟨q0, q1, q2, q3, q4, q5, q6, q7, q8⟩ := rdw_keep (rdw_start (.int .i64 a) (.int .i64 b) _ r0 r1 hrf0 hrf1 rlt rb) hb
    refine hK.out _ _ ⟨q0, q1⟩ (fun hHeld => ?_)
    clear hK K
    try simp only [Act.put]
    refine wpAnyH_take (i := 3) (v := (.bool false)) rfl (by kernel_rfl) (by kernel_rfl) (by kernel_rfl) (fun _ _ _ h => h) (Or.inl ⟨by rfl, ?_⟩) (by assumption) ?_
    · intro w' hSw; (try dsimp only at hSw); go_simp; try with_reducible rfl
    try simp only [Act.put]
    refine wpAnyH_take (i := 4) rfl (by kernel_rfl) (by kernel_rfl) (by kernel_rfl) (fun _ _ _ h => h) (Or.inr ⟨by rfl, rfl⟩) (by assumption) ?_
    try simp only [Act.put]
    refine wpAnyH_take (i := 5) rfl (by kernel_rfl) (by kernel_rfl) (by kernel_rfl) (fun _ _ _ h => h) (Or.inr ⟨by rfl, rfl⟩) (by assumption) ?_
    try simp only [Act.put]
    refine wpAnyH_take (i := 6) rfl (by kernel_rfl) (by kernel_rfl) (by kernel_rfl) (fun _ _ _ h => h) (Or.inr ⟨by rfl, rfl⟩) (by assumption) ?_
    try simp only [Act.put]
    refine wpAnyH_take (i := 7) rfl (by kernel_rfl) (by kernel_rfl) (by kernel_rfl) (fun _ _ _ h => h) (Or.inr ⟨by rfl, rfl⟩) (by assumption) ?_
    try simp only [Act.put]
    refine wpAnyH_take (i := 8) (v := (.bool false)) rfl (by kernel_rfl) (by kernel_rfl) (by kernel_rfl) (fun _ _ _ h => h) (Or.inl ⟨by rfl, ?_⟩) (by assumption) ?_
    · intro w' hSw; (try dsimp only at hSw); go_simp; try with_reducible rfl
    try simp only [Act.put]
    refine wpAnyH_ready (rs := [9]) (by kernel_rfl) (by simp) ?_
    refine AllReadyH.cons rfl (fun K hK => ?_) AllReadyH.nil
    go_simp
    obtain ⟨c0, c1⟩ := two_set (.int .i64 a) (.int .i64 b) q2 q3
    have p0 : ((w4.setCell ⟨w.heap.size, 0, none⟩ (.int .i64 a)).setCell ⟨w.heap.size, 1, none⟩ (.int .i64 b)).cell? ⟨w3.heap.size, 0, none⟩ = some (.int .i64 a) := by rw [World.cell?_setCell_far _ _ _ _ (by simpa using hne2), World.cell?_setCell_far _ _ _ _ (by simpa using hne2)]; exact q0
    have p1 : ((w4.setCell ⟨w.heap.size, 0, none⟩ (.int .i64 a)).setCell ⟨w.heap.size, 1, none⟩ (.int .i64 b)).cell? ⟨w3.heap.size, 1, none⟩ = some (.int .i64 b) := by rw [World.cell?_setCell_far _ _ _ _ (by simpa using hne2), World.cell?_setCell_far _ _ _ _ (by simpa using hne2)]; exact q1
    have HB5 : Hid (Below w.heap.size w ((w4.setCell ⟨w.heap.size, 0, none⟩ (.int .i64 a)).setCell ⟨w.heap.size, 1, none⟩ (.int .i64 b))) := (q8.setCell (p := ⟨w.heap.size, 0, none⟩) (Nat.le_refl _) _).setCell (p := ⟨w.heap.size, 1, none⟩) (Nat.le_refl _) _
    generalize (w4.setCell ⟨w.heap.size, 0, none⟩ (.int .i64 a)).setCell ⟨w.heap.size, 1, none⟩ (.int .i64 b) = w5 at c0 c1 p0 p1 HB5 ⊢
    refine hK.out _ _ ⟨p0, p1⟩ (fun hHeld => ?_)
    clear hK K q0 q1 q2 q3 q4 q5 q6 q7 q8 hb
    refine wpAnyH_take (i := 10) (v := (.bool false)) rfl (by kernel_rfl) (by kernel_rfl) (by kernel_rfl) (fun _ _ _ h => h) (Or.inl ⟨by rfl, ?_⟩) (by assumption) ?_
    · intro w' hSw; (try dsimp only at hSw); go_simp; try with_reducible rfl
    dsimp [Act.put]
    refine wpAnyH_done (by kernel_rfl) ?_ _
    refine NoPanic.normal ?_
    clear hHeld p0 p1
    go_wp2_with fail
    refine bodyPost_ret (by simp [results, Tryd.results25, go_sem, c0, c1]; try rfl) rfl ?_
    exact ⟨rfl, HB5.out⟩
  · obtain ⟨t, ht⟩ : ∃ t : ByteArray, t.data.toList = prW (a, b) := ⟨⟨(prW (a, b)).toArray⟩, rfl⟩
    have HTT : Hid (t.data.toList = prW (a, b)) := ht
    have HPOW : Hid (∀ W : World, Below w.heap.size w W → PowT W) := fun W hb => (show PowT w from HT.out.pow).below hb
    obtain ⟨r, hr⟩ : ∃ r, decide (prW (a, b) = s.data.toList) = r := ⟨_, rfl⟩
    have hre : (t.toList == s.toList) = r := by
      rw [← hr, ← ht, ByteArray.toList_eq, ByteArray.toList_eq, Bool.eq_iff_iff]; simp
    rw [hr]
    clear ht hr
    go_enter Tryd.func25, Tryd.ntmps25
    go_wp2_with fail
    refine (scut1_at s x y 45 f HCUT.out _ HS.out).mono ?_
    rintro e w1 ⟨rfl, nq, hw1⟩
    have hb1 : Below (w.alloc (.cells #[.int .i64 0, .int .i64 0] 31)).heap.size (w.alloc (.cells #[.int .i64 0, .int .i64 0] 31)) w1 := by rw [hw1]; exact drewN_below _ _ _
    clear hw1
    have HT1 : Hid (STabs w1) := HT.out.below (below_new hb1)
    go_wp2_with fail
    refine (snum_at x a HX.out _ hxs HT1.out).mono ?_
    rintro e w2 ⟨rfl, hb2⟩
    have HT2 : Hid (STabs w2) := HT1.out.below hb2
    go_wp2_with fail
    refine (snum_at y b HY.out _ hys HT2.out).mono ?_
    rintro e w3 ⟨rfl, hb3⟩
    obtain ⟨r0, r1, rf, rlt, rb⟩ := two_cells (hb1.trans ((hb2.trans (hb3.mono hb2.size)).mono hb1.size))
    have hrf0 := rf 0
    have hrf1 := rf 1
    have hne1 : ¬ w3.heap.size = w.heap.size := by omega
    have hne2 : ¬ w.heap.size = w3.heap.size := by omega
    clear hb1 hb2 hb3 rf
    go_wp2_with fail
    go_region_held3 (fun w' => w'.cell? ⟨w3.heap.size, 0, none⟩ = some (.int .i64 a) ∧ w'.cell? ⟨w3.heap.size, 1, none⟩ = some (.int .i64 b)) (go_keep) (first | (go_at_call 43; refine (swant_is a b true HK.out _).mono ?_; rintro e w4 ⟨rfl, hb⟩; have hx := rdw_keep (rdw_start (.int .i64 a) (.int .i64 b) _ r0 r1 hrf0 hrf1 rlt rb) hb) | (go_at_call 19; refine (spwant_at a b HK.out t HTT.out _ (HPOW.out _ hx.2.2.2.2.2.2.2.2)).mono ?_; rintro e w5 ⟨rfl, hb2⟩; have hy := rdw_keep hx hb2))
    obtain ⟨_, _, q2, q3, _, _, _, _, q8⟩ := hy
    obtain ⟨c0, c1⟩ := two_set (.int .i64 a) (.int .i64 b) q2 q3
    have HB5 : Hid (Below w.heap.size w ((w5.setCell ⟨w.heap.size, 0, none⟩ (.int .i64 a)).setCell ⟨w.heap.size, 1, none⟩ (.int .i64 b))) := (q8.setCell (p := ⟨w.heap.size, 0, none⟩) (Nat.le_refl _) _).setCell (p := ⟨w.heap.size, 1, none⟩) (Nat.le_refl _) _
    generalize (w5.setCell ⟨w.heap.size, 0, none⟩ (.int .i64 a)).setCell ⟨w.heap.size, 1, none⟩ (.int .i64 b) = w6 at c0 c1 HB5 ⊢
    clear hx hb hb2
    go_wp2_with fail
    refine bodyPost_ret (by simp [results, Tryd.results25, go_sem, c0, c1]; try rfl) rfl ?_
    exact ⟨rfl, HB5.out⟩
end Go.Proofs.YtkmbhgbmdeoppaaDoor

/-
  What strings.CutPrefix computes; a string is no longer than Go allows.
-/
namespace Go.Proofs.YtkmbhgbmdeoppaaDoor
open Go.RowKit

theorem scutPre_at (s p a : ByteArray) (f : Bool) (h : cutPre s.data.toList p.data.toList = (a.data.toList, f)) (w : World) :
    Calls Tryd.prog 23 #[.string s, .string p] w fun e w' => e = .returned (.tuple #[.string a, .bool f]) ∧ w' = w := by
  refine (Tryd.strings_CutPrefix s p w).mono ?_
  rintro e w' ⟨rfl, rfl⟩
  refine ⟨?_, rfl⟩
  unfold cutPre at h
  simp only [Prod.mk.injEq] at h
  rw [h.1, h.2]
end Go.Proofs.YtkmbhgbmdeoppaaDoor

/-
  What Trim of package token answers; a text is no longer than Go allows.
-/
namespace Go.Proofs.YtkmbhgbmdeoppaaDoor
open Go.RowKit

set_option maxRecDepth 100000 in
theorem strim_at (s t : ByteArray) (ht : t.data.toList = trimL s.data.toList) (w : World) (hs : s.size ≤ 9223372036854775807) :
    Calls Tryd.prog 26 #[.string s] w fun e w' => e = .returned (.string t) ∧ Below w.heap.size w w' := by
  have HT : Hid (t.data.toList = trimL s.data.toList) := ht
  clear ht
  go_enter Tryd.func26, Tryd.ntmps26
  go_wp2_with fail
  refine (Tryd.strings_Trim_set s ⟨#[32, 9]⟩ _ (by omega) (by decide) (ascii_of_all (by decide))).mono ?_
  rintro e w1 ⟨rfl, hb⟩
  go_wp2_with fail
  go_ret
  refine ⟨ret_str ?_, hb⟩
  apply ByteArray.ext
  apply Array.ext'
  rw [HT.out]
  rfl
end Go.Proofs.YtkmbhgbmdeoppaaDoor

/-
  What the program's table tells of a want's type.
-/
namespace Go.Proofs.YtkmbhgbmdeoppaaDoor
open Go.RowKit

theorem infoWn : (Tryd.prog.info? 31).map (fun i => (i.zero, i.size, i.bytes)) = some (some (.agg #[.int .i64 0, .int .i64 0]), 2, 16) := by kernel_rfl
end Go.Proofs.YtkmbhgbmdeoppaaDoor

/-
  What is kept of the wants that were read, piece by piece: no more than one too many; no program is named here.
-/
namespace Go.Proofs.YtkmbhgbmdeoppaaDoor
open Go.RowKit

def trm (x : ByteArray) : List UInt8 := trimL x.data.toList
def kp (pre : List ByteArray) : List Wn := ((wnE (pre.map trm)).getD []).take 21
theorem kp_nil : kp [] = [] := rfl
theorem kp_len (pre : List ByteArray) : (kp pre).length ≤ 21 := List.length_take_le _ _
theorem kp_step (pre : List ByteArray) (x : ByteArray) : wnE ((pre ++ [x]).map trm) = wstep (wnE (pre.map trm)) (trm x) := by
  rw [List.map_append, List.map_cons, List.map_nil, wn_snoc]
theorem kp_more {pre : List ByteArray} {x : ByteArray} {ws : List Wn} {a : Wn} (h : wnE (pre.map trm) = some ws) (hp : paW (trm x) = some a) :
    wnE ((pre ++ [x]).map trm) = some (ws ++ [a]) ∧ ((kp pre).length ≤ 20 → kp (pre ++ [x]) = kp pre ++ [a]) ∧ (20 < (kp pre).length → kp (pre ++ [x]) = kp pre) := by
  have e : wnE ((pre ++ [x]).map trm) = some (ws ++ [a]) := by rw [kp_step, h]; simp only [wstep, hp]
  refine ⟨e, fun hl => ?_, fun hl => ?_⟩
  · unfold kp at hl ⊢
    rw [h, Option.getD_some] at hl ⊢
    rw [e, Option.getD_some]
    rw [List.length_take] at hl
    rw [List.take_of_length_le (by simp; omega), List.take_of_length_le (by omega)]
  · unfold kp at hl ⊢
    rw [h, Option.getD_some] at hl ⊢
    rw [e, Option.getD_some]
    rw [List.length_take] at hl
    rw [List.take_append_of_le_length (by omega)]
theorem kp_dead {pre : List ByteArray} {x : ByteArray} (hp : paW (trm x) = none) : wnE ((pre ++ [x]).map trm) = none := by
  rw [kp_step]
  cases h : wnE (pre.map trm) with
  | none => rfl
  | some ws => simp only [wstep, hp]
theorem tx_trm (P : List (List UInt8)) : (P.map tx).map trm = P.map trimL := by
  rw [List.map_map]; rfl
theorem pa_no {s : List UInt8} {r : List UInt8} (h : cutPre s bytesB = (r, false)) : paSp s = ([], 3) := by
  unfold cutPre at h
  unfold paSp
  rw [if_pos (Prod.mk.inj h).2]
theorem pa_pre {s : List UInt8} {r : List UInt8} (h : cutPre s bytesB = (r, true)) : Lib.hasPrefix s bytesB = true ∧ s.drop 6 = r := by
  unfold cutPre Lib.trimPrefix at h
  obtain ⟨h1, h2⟩ := Prod.mk.inj h
  refine ⟨h2, ?_⟩
  rw [if_pos h2] at h1
  exact h1
theorem pa_done {s r : List UInt8} {All : List ByteArray} {ws : List Wn} (h : cutPre s bytesB = (r, true)) (hA : (spl 44 r).map tx = All) (hw : wnE (All.map trm) = some ws) :
    (20 < (kp All).length → paSp s = ([], 2)) ∧ (¬ 20 < (kp All).length → paSp s = (kp All, 0)) := by
  obtain ⟨h1, h2⟩ := pa_pre h
  have e : wnE ((spl 44 (s.drop 6)).map trimL) = some ws := by rw [h2, ← tx_trm, hA, hw]
  have ek : kp All = ws.take 21 := by unfold kp; rw [hw]; rfl
  have hlen : (kp All).length = min 21 ws.length := by rw [ek, List.length_take]
  refine ⟨fun hl => ?_, fun hl => ?_⟩
  · unfold paSp
    rw [if_neg (by rw [h1]; simp), e]
    dsimp only
    rw [if_pos (by omega)]
  · unfold paSp
    rw [if_neg (by rw [h1]; simp), e]
    dsimp only
    rw [if_neg (by omega), ek, List.take_of_length_le (by omega)]
theorem pa_dead {s r : List UInt8} {All pre rest : List ByteArray} (h : cutPre s bytesB = (r, true)) (hA : (spl 44 r).map tx = All) (hx : All = pre ++ rest) (hw : wnE (pre.map trm) = none) : paSp s = ([], 3) := by
  obtain ⟨h1, h2⟩ := pa_pre h
  have e : wnE ((spl 44 (s.drop 6)).map trimL) = none := by
    rw [h2, ← tx_trm, hA, hx, List.map_append]
    unfold wnE at hw ⊢
    rw [List.foldl_append, hw, wstep_dead]
  unfold paSp
  rw [if_neg (by rw [h1]; simp), e]
theorem spl_len (d : UInt8) (l : List UInt8) : ∀ p ∈ spl d l, p.length ≤ l.length := by
  induction l with
  | nil => intro p hp; simp [spl] at hp; subst hp; simp
  | cons c r ih =>
    intro p hp
    rw [spl] at hp
    split at hp
    · rcases List.mem_cons.1 hp with rfl | hp
      · simp
      · have := ih p hp; simp; omega
    · split at hp
      · simp at hp; subst hp; simp
      · rename_i x xs hx
        rcases List.mem_cons.1 hp with rfl | hp
        · have := ih x (by rw [hx]; simp); simp; omega
        · have := ih p (by rw [hx]; simp [hp]); simp; omega
theorem all_size {r : ByteArray} {All pre rest : List ByteArray} {x : ByteArray} (hA : (spl 44 r.data.toList).map tx = All) (hx : All = pre ++ x :: rest) : x.size ≤ r.size := by
  have hm : x ∈ (spl 44 r.data.toList).map tx := by rw [hA, hx]; simp
  obtain ⟨p, hp, rfl⟩ := List.mem_map.1 hm
  have := spl_len 44 _ p hp
  rw [size_list] at this
  rw [← size_list, tx_list]; exact this
end Go.Proofs.YtkmbhgbmdeoppaaDoor

/-
  What Parse of package span answers; a text is no longer than the claim allows; the listed variables of package strconv hold what their text lays.
-/
namespace Go.Proofs.YtkmbhgbmdeoppaaDoor
open Go.RowKit Go.Shelf

attribute [local go_sem] Oper.semAt_some

/-- Between two rounds. -/
structure PI (H : Nat) (w : World) (pre : List ByteArray) (W : World) : Prop where
  wants : ∃ v, Boxed W (H + 2) 22 v ∧ W.ownsRow H 31 2 v (kp pre).length (wns (kp pre)) ∧ True
  sbox : ∃ u, Boxed W (H + 3) 9 u
  pbox : Boxed W (H + 4) 9 (.string ⟨#[44]⟩)
  zbox : Boxed W (H + 5) 3 (.int .i64 0)
  res0 : Boxed W H 22 (.slice none 0 0)
  res1 : Boxed W (H + 1) 23 (.int .i64 0)
  okk : ∃ ws, wnE (pre.map trm) = some ws
  bel : Below H w W
/-- A round has left. -/
structure PX (H : Nat) (w : World) (c : Code) (pre : List ByteArray) (W : World) : Prop where
  ret : c = .ret
  dead : wnE (pre.map trm) = none
  res0 : Boxed W H 22 (.slice none 0 0)
  res1 : Boxed W (H + 1) 23 (.int .i64 3)
  bel : Below H w W
theorem PI.own (H B : Nat) (w : World) (hH : H ≤ w.heap.size) (hB : H ≤ B) : OwnFrom B (PI H w) := by
  intro pre W W' row h hg hr
  have hr2 : ∀ r, row = some r → ∃ o : Obj, W.heap[r]? = some o ∧ o.isCells = false := fun r e => (hr r e).2
  have bx : ∀ {b : Nat} {t : TypeId} {v : Value}, Boxed W b t v → Boxed W' b t v := fun {b t v} hb => boxed_own b t (fun (_ : Unit) => v) () W W' row hb hg hr2
  obtain ⟨u, hu⟩ := h.sbox
  exact ⟨holdsRow_own H (H + 2) 22 31 2 (fun pre => (kp pre).length) (fun pre => wns (kp pre)) (fun _ _ => True) pre W W' row h.wants hg hr2, ⟨u, bx hu⟩, bx h.pbox, bx h.zbox, bx h.res0, bx h.res1, h.okk,
    h.bel.grown hg (Nat.le_trans hH h.bel.size) (fun k e => Nat.le_trans hB (hr k e).1)⟩
theorem PX.own (H B : Nat) (w : World) (c : Code) (hH : H ≤ w.heap.size) (hB : H ≤ B) : OwnFrom B (PX H w c) := by
  intro pre W W' row h hg hr
  have hr2 : ∀ r, row = some r → ∃ o : Obj, W.heap[r]? = some o ∧ o.isCells = false := fun r e => (hr r e).2
  have bx : ∀ {b : Nat} {t : TypeId} {v : Value}, Boxed W b t v → Boxed W' b t v := fun {b t v} hb => boxed_own b t (fun (_ : Unit) => v) () W W' row hb hg hr2
  exact ⟨h.ret, h.dead, bx h.res0, bx h.res1, h.bel.grown hg (Nat.le_trans hH h.bel.size) (fun k e => Nat.le_trans hB (hr k e).1)⟩
theorem PI.spared (H : Nat) (w : World) : Spared (H + 3) (PI H w) := by
  intro pre W x h
  obtain ⟨u, hu⟩ := h.sbox
  obtain ⟨v, hv, ho, _⟩ := h.wants
  exact ⟨⟨v, hv.other (by omega) _, ho.kept (grownBy_setCell' W (H + 3) x) (.inr (hu.not_row (by decide) ho).symm), trivial⟩, ⟨x, hu.set x⟩, h.pbox.other (by omega) _, h.zbox.other (by omega) _, h.res0.other (by omega) _, h.res1.other (by omega) _, h.okk,
    h.bel.setCell (p := ⟨H + 3, 0, none⟩) (by show H ≤ H + 3; omega) _⟩
theorem PX.spared (H : Nat) (w : World) (c : Code) : Spared (H + 3) (PX H w c) := by
  intro pre W x h
  exact ⟨h.ret, h.dead, h.res0.other (by omega) _, h.res1.other (by omega) _, h.bel.setCell (p := ⟨H + 3, 0, none⟩) (by show H ≤ H + 3; omega) _⟩
theorem boxed_six (w : World) (r : ByteArray) (W : World) (hW : W = ((((((w.alloc (.cells #[.slice none 0 0] 22)).alloc (.cells #[.int .i64 0] 23)).alloc (.cells #[.slice none 0 0] 22)).alloc (.cells #[.string r] 9)).alloc (.cells #[.string ⟨#[44]⟩] 9)).alloc (.cells #[.int .i64 0] 3))) : Boxed W w.heap.size 22 (.slice none 0 0) ∧ Boxed W (w.heap.size + 1) 23 (.int .i64 0) ∧ Boxed W (w.heap.size + 2) 22 (.slice none 0 0) ∧ Boxed W (w.heap.size + 3) 9 (.string r) ∧
    Boxed W (w.heap.size + 4) 9 (.string ⟨#[44]⟩) ∧ Boxed W (w.heap.size + 5) 3 (.int .i64 0) ∧ W.heap.size = w.heap.size + 6 ∧ Below w.heap.size w W := by
  have hh : W.heap = (((((w.heap.push (.cells #[.slice none 0 0] 22)).push (.cells #[.int .i64 0] 23)).push (.cells #[.slice none 0 0] 22)).push (.cells #[.string r] 9)).push (.cells #[.string ⟨#[44]⟩] 9)).push (.cells #[.int .i64 0] 3) := by rw [hW]; rfl
  have hb : Below w.heap.size w W := by
    rw [hW]
    exact ((((((Below.refl _ w).alloc (Nat.le_refl _) _).alloc (by simp) _).alloc (by simp; omega) _).alloc (by simp; omega) _).alloc (by simp; omega) _).alloc (by simp; omega) _
  have hz : W.heap.size = w.heap.size + 6 := by rw [hh]; simp
  have b0 : Boxed (w.alloc (.cells #[.slice none 0 0] 22)) (w.heap.size + 0) 22 (.slice none 0 0) := by
    have h := Boxed.new w 22 (.slice none 0 0)
    have e : (w).heap.size = w.heap.size + 0 := by simp
    rw [e] at h; exact h
  have b1 : Boxed ((w.alloc (.cells #[.slice none 0 0] 22)).alloc (.cells #[.int .i64 0] 23)) (w.heap.size + 1) 23 (.int .i64 0) := by
    have h := Boxed.new ((w.alloc (.cells #[.slice none 0 0] 22))) 23 (.int .i64 0)
    have e : ((w.alloc (.cells #[.slice none 0 0] 22))).heap.size = w.heap.size + 1 := by simp
    rw [e] at h; exact h
  have b2 : Boxed (((w.alloc (.cells #[.slice none 0 0] 22)).alloc (.cells #[.int .i64 0] 23)).alloc (.cells #[.slice none 0 0] 22)) (w.heap.size + 2) 22 (.slice none 0 0) := by
    have h := Boxed.new (((w.alloc (.cells #[.slice none 0 0] 22)).alloc (.cells #[.int .i64 0] 23))) 22 (.slice none 0 0)
    have e : (((w.alloc (.cells #[.slice none 0 0] 22)).alloc (.cells #[.int .i64 0] 23))).heap.size = w.heap.size + 2 := by simp
    rw [e] at h; exact h
  have b3 : Boxed ((((w.alloc (.cells #[.slice none 0 0] 22)).alloc (.cells #[.int .i64 0] 23)).alloc (.cells #[.slice none 0 0] 22)).alloc (.cells #[.string r] 9)) (w.heap.size + 3) 9 (.string r) := by
    have h := Boxed.new ((((w.alloc (.cells #[.slice none 0 0] 22)).alloc (.cells #[.int .i64 0] 23)).alloc (.cells #[.slice none 0 0] 22))) 9 (.string r)
    have e : ((((w.alloc (.cells #[.slice none 0 0] 22)).alloc (.cells #[.int .i64 0] 23)).alloc (.cells #[.slice none 0 0] 22))).heap.size = w.heap.size + 3 := by simp
    rw [e] at h; exact h
  have b4 : Boxed (((((w.alloc (.cells #[.slice none 0 0] 22)).alloc (.cells #[.int .i64 0] 23)).alloc (.cells #[.slice none 0 0] 22)).alloc (.cells #[.string r] 9)).alloc (.cells #[.string ⟨#[44]⟩] 9)) (w.heap.size + 4) 9 (.string ⟨#[44]⟩) := by
    have h := Boxed.new (((((w.alloc (.cells #[.slice none 0 0] 22)).alloc (.cells #[.int .i64 0] 23)).alloc (.cells #[.slice none 0 0] 22)).alloc (.cells #[.string r] 9))) 9 (.string ⟨#[44]⟩)
    have e : (((((w.alloc (.cells #[.slice none 0 0] 22)).alloc (.cells #[.int .i64 0] 23)).alloc (.cells #[.slice none 0 0] 22)).alloc (.cells #[.string r] 9))).heap.size = w.heap.size + 4 := by simp
    rw [e] at h; exact h
  have b5 : Boxed ((((((w.alloc (.cells #[.slice none 0 0] 22)).alloc (.cells #[.int .i64 0] 23)).alloc (.cells #[.slice none 0 0] 22)).alloc (.cells #[.string r] 9)).alloc (.cells #[.string ⟨#[44]⟩] 9)).alloc (.cells #[.int .i64 0] 3)) (w.heap.size + 5) 3 (.int .i64 0) := by
    have h := Boxed.new ((((((w.alloc (.cells #[.slice none 0 0] 22)).alloc (.cells #[.int .i64 0] 23)).alloc (.cells #[.slice none 0 0] 22)).alloc (.cells #[.string r] 9)).alloc (.cells #[.string ⟨#[44]⟩] 9))) 3 (.int .i64 0)
    have e : ((((((w.alloc (.cells #[.slice none 0 0] 22)).alloc (.cells #[.int .i64 0] 23)).alloc (.cells #[.slice none 0 0] 22)).alloc (.cells #[.string r] 9)).alloc (.cells #[.string ⟨#[44]⟩] 9))).heap.size = w.heap.size + 5 := by simp
    rw [e] at h; exact h
  rw [hW]
  rw [hW] at hz hb
  exact ⟨(((((b0).alloc _).alloc _).alloc _).alloc _).alloc _, ((((b1).alloc _).alloc _).alloc _).alloc _, (((b2).alloc _).alloc _).alloc _, ((b3).alloc _).alloc _, (b4).alloc _, b5, hz, hb⟩
theorem PI.later {H : Nat} {w W W' : World} {pre : List ByteArray} (h : PI H w pre W) (hb : Below W.heap.size W W') (hH : H ≤ w.heap.size) : PI H w pre W' :=
  PI.own H H w hH (Nat.le_refl _) pre W W' none h ⟨hb.os, hb.tape, hb.output, hb.size, fun k hk _ => hb.block k hk⟩ (fun _ e => nomatch e)
theorem keepsF_below {B : Nat} {W W' : World} (h : Below W.heap.size W W') : KeepsFrom B W W' :=
  ⟨h.size, fun k _ _ hk _ => (h.block k (Array.getElem?_eq_some_iff.1 hk).1).trans hk⟩
theorem keepB_below {bs : List Nat} {H : Nat} {W W' : World} (h : Below H W W') (hb : ∀ b ∈ bs, b < H) : KeepB bs W W' := fun b hm => h.block b (hb b hm)
theorem keepB_boxed {H : Nat} {w W W' : World} {pre : List ByteArray} (h : PI H w pre W) (h' : ∀ (b : Nat) (t : TypeId) (v : Value), H + 3 ≤ b → b ≤ H + 5 → Boxed W b t v → Boxed W' b t v) : KeepB [H + 3, H + 4, H + 5] W W' := by
  obtain ⟨u, hu⟩ := h.sbox
  intro b hb
  simp at hb
  rcases hb with rfl | rfl | rfl
  · exact (h' _ _ _ (by omega) (by omega) hu).trans hu.symm
  · exact (h' _ _ _ (by omega) (by omega) h.pbox).trans h.pbox.symm
  · exact (h' _ _ _ (by omega) (by omega) h.zbox).trans h.zbox.symm
theorem PI.put {H B : Nat} {w W W3 w4 : World} {pre : List ByteArray} {x : ByteArray} {a b : Int} {v v' : Value} {tmp : Obj} (hW : PI H w pre W) (h3 : PI H w pre W3) (hb : Below W.heap.size W W3) (hv : Boxed W3 (H + 2) 22 v)
    (hown : W3.ownsRow H 31 2 v (kp pre).length (wns (kp pre))) (hown' : w4.ownsRow H 31 2 v' ((kp pre).length + 1) (wns (kp pre) ++ [.int .i64 a, .int .i64 b])) (hgrow : (W3.alloc tmp).grownBy w4 v.ownBlock)
    (hk : paW (trm x) = some (a, b)) (hl : (kp pre).length ≤ 20) (hH : H ≤ w.heap.size) : KeepsFrom B W (w4.setCell ⟨H + 2, 0, none⟩ v') ∧ KeepB [H + 3, H + 4, H + 5] W (w4.setCell ⟨H + 2, 0, none⟩ v') ∧ PI H w (pre ++ [x]) (w4.setCell ⟨H + 2, 0, none⟩ v') := by
  have hH3 : H ≤ W3.heap.size := Nat.le_trans hH h3.bel.size
  obtain ⟨_, q2, q3, q4, q5⟩ := hv.appended (by decide) hown hH3 (by omega) hown' hgrow
  have kb : ∀ {b : Nat} {t : TypeId} {u : Value}, b ≠ H + 2 → t ≠ 31 → Boxed W3 b t u → Boxed (w4.setCell ⟨H + 2, 0, none⟩ v') b t u := fun hne ht h => ((h.alloc tmp).kept hgrow (h.not_row ht hown)).other hne v'
  obtain ⟨ws, hws⟩ := h3.okk
  obtain ⟨e1, e2, _⟩ := kp_more hws hk
  obtain ⟨u, hu⟩ := h3.sbox
  refine ⟨(keepsF_below hb).trans (q4.from _), ?_, ⟨⟨v', q2, ?_, trivial⟩, ⟨u, kb (by omega) (by decide) hu⟩, kb (by omega) (by decide) h3.pbox, kb (by omega) (by decide) h3.zbox, kb (by omega) (by decide) h3.res0, kb (by omega) (by decide) h3.res1, ⟨_, e1⟩, h3.bel.trans q5⟩⟩
  · obtain ⟨u0, hu0⟩ := hW.sbox
    have kw : ∀ {b : Nat} {t : TypeId} {u : Value}, Boxed W b t u → Boxed W3 b t u := fun h => (hb.block _ h.lt).trans h
    intro b hb
    simp at hb
    rcases hb with rfl | rfl | rfl
    · exact (kb (by omega) (by decide) (kw hu0)).trans hu0.symm
    · exact (kb (by omega) (by decide) (kw hW.pbox)).trans hW.pbox.symm
    · exact (kb (by omega) (by decide) (kw hW.zbox)).trans hW.zbox.symm
  · rw [e2 hl, ← wns_snoc, List.length_append]
    exact q3
theorem PI.stay {H B : Nat} {w W W3 : World} {pre : List ByteArray} {x : ByteArray} {a b : Int} (hW : PI H w pre W) (h3 : PI H w pre W3) (hb : Below W.heap.size W W3) (hk : paW (trm x) = some (a, b)) (hl : 20 < (kp pre).length) :
    KeepsFrom B W W3 ∧ KeepB [H + 3, H + 4, H + 5] W W3 ∧ PI H w (pre ++ [x]) W3 := by
  obtain ⟨ws, hws⟩ := h3.okk
  obtain ⟨e1, _, e2⟩ := kp_more hws hk
  refine ⟨keepsF_below hb, keepB_boxed hW (fun b t v _ _ h => (hb.block _ h.lt).trans h), ⟨?_, h3.sbox, h3.pbox, h3.zbox, h3.res0, h3.res1, ⟨_, e1⟩, h3.bel⟩⟩
  rw [e2 hl]
  exact h3.wants
theorem PI.dead {H B : Nat} {w W W3 : World} {pre : List ByteArray} {x : ByteArray} (h3 : PI H w pre W3) (hb : Below W.heap.size W W3) (hk : paW (trm x) = none) :
    KeepsFrom B W ((W3.setCell ⟨H, 0, none⟩ (.slice none 0 0)).setCell ⟨H + 1, 0, none⟩ (.int .i64 3)) ∧ PX H w .ret (pre ++ [x]) ((W3.setCell ⟨H, 0, none⟩ (.slice none 0 0)).setCell ⟨H + 1, 0, none⟩ (.int .i64 3)) := by
  refine ⟨((keepsF_below hb).trans ((KeepsOthers.setCell _ _ _).from _)).trans ((KeepsOthers.setCell _ _ _).from _), ⟨rfl, kp_dead hk, (h3.res0.set _).other (by omega) _, (h3.res1.other (by omega) _).set _, ?_⟩⟩
  exact (h3.bel.setCell (p := ⟨H, 0, none⟩) (Nat.le_refl _) _).setCell (p := ⟨H + 1, 0, none⟩) (by show H ≤ H + 1; omega) _
theorem fin_world {H D : Nat} {w W : World} {v0 v1 : Value} {t0 t1 : TypeId} (x y : Value) (b0 : Boxed W H t0 v0) (b1 : Boxed W (H + 1) t1 v1) (hb : Below H w W) (hK : W.heap[D]? = some (.deferred (some []))) (hD : w.heap.size ≤ D) (hH : H ≤ w.heap.size) :
    ((W.setCell ⟨H, 0, none⟩ x).setCell ⟨H + 1, 0, none⟩ y).heap[D]? = some (.deferred (some [])) ∧ (((W.setCell ⟨H, 0, none⟩ x).setCell ⟨H + 1, 0, none⟩ y).putObj D (.deferred none)).cell? ⟨H, 0, none⟩ = some x ∧
      (((W.setCell ⟨H, 0, none⟩ x).setCell ⟨H + 1, 0, none⟩ y).putObj D (.deferred none)).cell? ⟨H + 1, 0, none⟩ = some y ∧ Below H w (((W.setCell ⟨H, 0, none⟩ x).setCell ⟨H + 1, 0, none⟩ y).putObj D (.deferred none)) := by
  have hK' : ((W.setCell ⟨H, 0, none⟩ x).setCell ⟨H + 1, 0, none⟩ y).heap[D]? = some (.deferred (some [])) := (KeepsOthers.setCell _ _ _).same D _ ((KeepsOthers.setCell W ⟨H, 0, none⟩ x).same D _ hK rfl) rfl
  refine ⟨hK', ?_, ?_, ?_⟩
  · exact cell_kept ((b0.set x).other (by omega) _).cell (grownBy_putObj' _ D (.deferred none)) (fun r e => by cases e; exact ⟨_, hK', rfl⟩)
  · exact cell_kept ((b1.other (by omega) _).set y).cell (grownBy_putObj' _ D (.deferred none)) (fun r e => by cases e; exact ⟨_, hK', rfl⟩)
  · exact ((hb.setCell (p := ⟨H, 0, none⟩) (Nat.le_refl _) _).setCell (p := ⟨H + 1, 0, none⟩) (by show H ≤ H + 1; omega) _).trans (belowK_b (w := w) hH _ D _ _ hD hK' rfl rfl)
theorem own_fin {H D : Nat} {W : World} {v0 v1 : Value} (x y : Value) (b0 : Boxed W H 22 v0) (b1 : Boxed W (H + 1) 23 v1) (hK : W.heap[D]? = some (.deferred (some []))) {v : Value} {k : Nat} {xs : List Value} {B : Nat}
    (ho : W.ownsRow B 31 2 v k xs) : (((W.setCell ⟨H, 0, none⟩ x).setCell ⟨H + 1, 0, none⟩ y).putObj D (.deferred none)).ownsRow B 31 2 v k xs := by
  have hK' : ((W.setCell ⟨H, 0, none⟩ x).setCell ⟨H + 1, 0, none⟩ y).heap[D]? = some (.deferred (some [])) := (KeepsOthers.setCell _ _ _).same D _ ((KeepsOthers.setCell W ⟨H, 0, none⟩ x).same D _ hK rfl) rfl
  have h1 : (W.setCell ⟨H, 0, none⟩ x).ownsRow B 31 2 v k xs := ho.kept (grownBy_setCell' W H x) (.inr (b0.not_row (by decide) ho).symm)
  have h2 : ((W.setCell ⟨H, 0, none⟩ x).setCell ⟨H + 1, 0, none⟩ y).ownsRow B 31 2 v k xs := h1.kept (grownBy_setCell' _ (H + 1) y) (.inr ((b1.other (by omega) x).not_row (by decide) h1).symm)
  exact ownsRow_putObj h2 _ hK' rfl
set_option maxRecDepth 100000 in
set_option maxHeartbeats 4000000 in
theorem sparse_in (s : ByteArray) (w : World) (hs : s.size ≤ 140737488351232) (hT : STabs w) :
    CallsIn Fence.wide 10 Tryd.prog 9 #[.string s] w fun e w' => ∃ v, e = .returned (.tuple #[v, .int .i64 (paSp s.data.toList).2]) ∧
      w'.ownsRow w.heap.size 31 2 v (paSp s.data.toList).1.length (wns (paSp s.data.toList).1) ∧ Below w.heap.size w w' := by
  obtain ⟨i1, hi1, hy0, hy1, hy2⟩ := info_parts infoWn
  obtain ⟨r, f, hc⟩ : ∃ (r : ByteArray) (f : Bool), cutPre s.data.toList [98, 121, 116, 101, 115, 61] = (r.data.toList, f) := ⟨⟨(Lib.trimPrefix s.data.toList [98, 121, 116, 101, 115, 61]).toArray⟩, Lib.hasPrefix s.data.toList [98, 121, 116, 101, 115, 61], rfl⟩
  have HC : Hid (cutPre s.data.toList (⟨#[98, 121, 116, 101, 115, 61]⟩ : ByteArray).data.toList = (r.data.toList, f)) := hc
  have HT : Hid (STabs w) := hT
  cases f
  · have HP : Hid (paSp s.data.toList = ([], 3)) := pa_no hc
    refine callsIn_of_wp Tryd.func9 rfl trivial ?_ rfl
    simp only [Tryd.ntmps9, List.size_toArray, List.length_cons, List.length_nil, Nat.reduceAdd, Nat.reduceSub, Array.replicate_succ, Array.replicate_zero, List.push_toArray, List.append_toArray, List.nil_append, List.cons_append]
    gi_wp2_with fail
    refine ⟨trivial, ?_⟩
    refine (callsIn_wide.2 (scutPre_at s ⟨#[98, 121, 116, 101, 115, 61]⟩ r false HC.out _)).mono ?_
    rintro e w1 ⟨rfl, hw1⟩
    rw [hw1]
    clear hw1 w1
    gi_wp2_with fail
    obtain ⟨c0, c1, hb⟩ : ((w.alloc (.cells #[.slice none 0 0] 22)).alloc (.cells #[.int .i64 3] 23)).cell? ⟨w.heap.size, 0, none⟩ = some (.slice none 0 0) ∧ ((w.alloc (.cells #[.slice none 0 0] 22)).alloc (.cells #[.int .i64 3] 23)).cell? ⟨w.heap.size + 1, 0, none⟩ = some (.int .i64 3) ∧
        Below w.heap.size w ((w.alloc (.cells #[.slice none 0 0] 22)).alloc (.cells #[.int .i64 3] 23)) := by
      refine ⟨((Boxed.new w _ _).alloc _).cell, ?_, ((Below.refl _ w).alloc (Nat.le_refl _) _).alloc (by simp) _⟩
      have h := (Boxed.new (w.alloc (.cells #[.slice none 0 0] 22)) 23 (.int .i64 3)).cell
      rwa [World.size_alloc] at h
    refine bodyPost_ret (by simp [results, Tryd.f9, go_sem, c0, c1]; try rfl) rfl ?_
    exact ⟨_, by rw [HP.out], by rw [HP.out]; exact World.ownsRow_nil _ _ _ _, hb⟩
  · refine callsIn_of_wp_marks Tryd.func9 rfl trivial ?_ rfl
    simp only [Tryd.ntmps9, List.size_toArray, List.length_cons, List.length_nil, Nat.reduceAdd, Nat.reduceSub, Array.replicate_succ, Array.replicate_zero, List.push_toArray, List.append_toArray, List.nil_append, List.cons_append]
    gi_wp2_with fail
    refine ⟨trivial, ?_⟩
    refine (callsIn_wide.2 (scutPre_at s ⟨#[98, 121, 116, 101, 115, 61]⟩ r true HC.out _)).mono ?_
    rintro e w1 ⟨rfl, hw1⟩
    rw [hw1]
    clear hw1 w1
    gi_wp2_with fail
    refine ⟨trivial, ?_⟩
    refine (callsIn_wide.2 (splitSeq_at r _ _)).mono ?_
    rintro e w1 ⟨rfl, hw1⟩
    obtain ⟨H, hH⟩ : ∃ H, H = w.heap.size := ⟨_, rfl⟩
    obtain ⟨q0, q1, q2, q3, q4, q5, q6, q7⟩ := boxed_six w r w1 hw1
    obtain ⟨All, hA⟩ : ∃ All, (spl 44 r.data.toList).map tx = All := ⟨_, rfl⟩
    have HALL : Hid ((spl 44 r.data.toList).map tx = All) := hA
    have hrs : r.size ≤ maxLen ∧ ∀ x ∈ All, x.size ≤ 140737488351232 := by
      obtain ⟨_, h2⟩ := pa_pre HC.out
      have h3 : r.size ≤ s.size := by rw [← size_list, ← size_list, ← h2, List.length_drop]; omega
      refine ⟨by unfold maxLen; omega, fun x hx => ?_⟩
      rw [← hA] at hx
      obtain ⟨p, hp, rfl⟩ := List.mem_map.1 hx
      have h4 := spl_len 44 _ p hp
      rw [size_list] at h4
      have h5 : (tx p).size = p.length := by rw [← size_list, tx_list]
      omega
    have HRS : Hid (r.size ≤ maxLen ∧ ∀ x ∈ All, x.size ≤ 140737488351232) := hrs
    have HQ : Hid (Boxed w1 (w.heap.size + 3) 9 (.string r) ∧ Boxed w1 (w.heap.size + 4) 9 (.string ⟨#[44]⟩) ∧ Boxed w1 (w.heap.size + 5) 3 (.int .i64 0)) := ⟨q3, q4, q5⟩
    have HI0 : Hid (PI w.heap.size w [] w1) := ⟨⟨_, q2, ⟨rfl, .inl ⟨rfl, rfl⟩⟩, trivial⟩, ⟨_, q3⟩, q4, q5, q0, q1, ⟨[], rfl⟩, q7⟩
    have HSZ : Hid (w1.heap.size = w.heap.size + 6) := q6
    clear hw1 hA hrs q0 q1 q2 q3 q4 q5 q6 q7
    gi_wp2_with fail
    refine range_hands (F := Fence.wide) (n := 10) (ps := #[19]) rfl (by decide) (gf := 62) (lb := #[.pointer (some ⟨w.heap.size + 1 + 1 + 1 + 1, 0, none⟩), .pointer (some ⟨w.heap.size + 1 + 1 + 1, 0, none⟩), .pointer (some ⟨w.heap.size + 1 + 1 + 1 + 1 + 1, 0, none⟩)]) rfl trivial (enters_of Tryd.func62 (by kernel_rfl) rfl)
      (encs := fun x => #[Value.string x]) (fun _ => rfl) (b0 := w.heap.size + 3) (keep := [w.heap.size + 3, w.heap.size + 4, w.heap.size + 5]) (xs := All) (by have := HSZ.out; omega) (by have := HSZ.out; intro b hb; simp at hb; omega)
      ?hit (PI w.heap.size w) (PX w.heap.size w) (PI.own _ _ _ (Nat.le_refl _) (by have := HSZ.out; omega)) (fun c => PX.own _ _ _ c (Nat.le_refl _) (by have := HSZ.out; omega)) (PI.spared _ _) (fun c => PX.spared _ _ c) HI0.out
      (fun x => { tmps := #[.string s, undef, .pointer (some ⟨w.heap.size, 0, none⟩), .pointer (some ⟨w.heap.size + 1, 0, none⟩), .string r, .bool true, .pointer (some ⟨w.heap.size + 1 + 1, 0, none⟩), .string x, undef, undef, .tuple #[.string r, .bool true], .string s, .tuple #[.string r, .bool true], .string r, .bool true, .bool true, .bool false, .string r,
        .func (.func 62) #[] #[.pointer (some ⟨w.heap.size + 1 + 1 + 1 + 1, 0, none⟩), .pointer (some ⟨w.heap.size + 1 + 1 + 1, 0, none⟩), .pointer (some ⟨w.heap.size + 1 + 1 + 1 + 1 + 1, 0, none⟩)], .string x, undef, undef, undef, undef, undef, undef, undef, undef, undef, undef, undef, undef, undef, undef, undef, undef, undef, undef, undef], defers := [] })
      ?assign ?body ?done ?stop
    case hit =>
      intro l J Jx W hW sJ _ hY h0
      obtain ⟨b3, b4, b5⟩ := HQ.out
      have hz := HSZ.out
      have k : ∀ {b : Nat} {t : TypeId} {v : Value}, Boxed w1 b t v → Boxed W b t v := fun {b t v} h => (hW.block b h.lt).trans h
      exact split_iter 9 l (w.heap.size + 3) (w.heap.size + 4) (w.heap.size + 5) 44 r All HALL.out J Jx (by omega) (by omega) sJ (fun pre x rest W1 hx hj => (hY pre x rest W1 hx hj)) W (k b3) (k b4) (k b5) h0 HRS.out.1
    case assign =>
      intro l x W K hK
      gi_wp2
      exact hK
    case body =>
      rintro l pre x rest W hx hHW hI
      have HX : Hid (All = pre ++ x :: rest) := hx
      have HI : Hid (PI w.heap.size w pre W) := hI
      have HW : Hid (w1.heap.size ≤ W.heap.size) := hHW
      obtain ⟨a, b, hrd⟩ : ∃ (a b : Int), rdW (tx (trm x)).data.toList = (a, b) := ⟨_, _, rfl⟩
      have HRD : Hid (rdW (tx (trm x)).data.toList = (a, b)) := hrd
      have hxs : x.size ≤ 140737488351232 := HRS.out.2 x (by rw [hx]; simp)
      have hts : (tx (trm x)).size ≤ 140737488351232 := by
        have h1 : (tx (trm x)).size = (trm x).length := by rw [← size_list, tx_list]
        have h2 := trimL_len x.data.toList
        rw [size_list] at h2
        have h3 : (trm x).length ≤ x.size := h2
        omega
      have HXS : Hid (x.size ≤ 140737488351232 ∧ (tx (trm x)).size ≤ 140737488351232) := ⟨hxs, hts⟩
      clear hx hI hHW hrd hxs hts
      gi_wp2_with fail
      refine ⟨trivial, ?_⟩
      refine (CallsIn.inRound l (callsIn_wide.2 (strim_at x (tx (trm x)) rfl _ (by have := HXS.out.1; omega)))).mono ?_
      rintro e W1 ⟨rfl, hb1⟩
      have HB1 : Hid (Below W.heap.size W W1) := hb1
      clear hb1
      gi_wp2_with fail
      refine ⟨trivial, ?_⟩
      refine (CallsIn.inRound l (callsIn_wide.2 (srdw_at (tx (trm x)) a b HRD.out _ HXS.out.2 (HT.out.below (HI.out.bel.trans (HB1.out.mono HI.out.bel.size)))))).mono ?_
      rintro e W2 ⟨rfl, hb2⟩
      have HB2 : Hid (Below W.heap.size W W2) := HB1.out.trans (hb2.mono HB1.out.size)
      clear hb2
      obtain ⟨k, hk⟩ : ∃ k, (okW (a, b) && decide (prW (a, b) = (tx (trm x)).data.toList)) = k := ⟨_, rfl⟩
      have HKK : Hid ((okW (a, b) && decide (prW (a, b) = (tx (trm x)).data.toList)) = k) := hk
      simp only [hk]
      clear hk
      have hp3 : PI w.heap.size w pre (W2.alloc (.cells #[.int .i64 a, .int .i64 b] 31)) := (HI.out.later HB2.out (Nat.le_refl _)).later (below_alloc _ _) (Nat.le_refl _)
      have HB3 : Hid (Below W.heap.size W (W2.alloc (.cells #[.int .i64 a, .int .i64 b] 31))) := HB2.out.alloc HB2.out.size _
      have HP3 : Hid (PI w.heap.size w pre (W2.alloc (.cells #[.int .i64 a, .int .i64 b] 31))) := hp3
      cases k
      · have HPAN : Hid (paW (trm x) = none) := by
          have h1 := HRD.out
          rw [tx_list] at h1
          refine rdW_no ?_
          rw [h1]
          intro hh
          have h2 := HKK.out
          rw [tx_list] at h2
          rw [hh.1, decide_eq_true hh.2] at h2
          cases h2
        have m0 := hp3.res0.cell
        have m1 := (hp3.res1.other (B' := w.heap.size) (by omega) (.slice none 0 0)).cell
        have f0 := hp3.res0.frozen
        have f1 := (hp3.res1.other (B' := w.heap.size) (by omega) (.slice none 0 0)).frozen
        clear hp3
        gi_wp2_with fail
        exact HP3.out.dead HB3.out HPAN.out
      · have HPAW : Hid (paW (trm x) = some (a, b)) := by
          have h1 := HRD.out
          have h2 := HKK.out
          rw [tx_list] at h1 h2
          rw [Bool.and_eq_true, decide_eq_true_eq] at h2
          have h3 := rdW_yes (s := trm x) (by rw [h1]; exact h2.1) (by rw [h1]; exact h2.2)
          rw [h1] at h3
          exact h3
        obtain ⟨v, hv, hown, _⟩ := hp3.wants
        have hc := hv.cell
        have hf := hv.frozen
        have HV : Hid (Boxed (W2.alloc (.cells #[.int .i64 a, .int .i64 b] 31)) (w.heap.size + 2) 22 v ∧ (W2.alloc (.cells #[.int .i64 a, .int .i64 b] 31)).ownsRow w.heap.size 31 2 v (kp pre).length (wns (kp pre))) := ⟨hv, hown⟩
        clear hp3 hv
        by_cases hl : (kp pre).length ≤ 20
        · have hg : decide (((kp pre).length : Int) ≤ 20) = true := decide_eq_true (by omega)
          have HL : Hid ((kp pre).length ≤ 20) := hl
          rcases hown.2 with ⟨rfl, h0⟩ | ⟨g, cap, cur, rfl, _⟩
          · rw [h0] at hg
            clear hown
            gi_wp2_with (gi_at_builtin; refine wpListIn_append_own _ rfl _ _ 22 rfl w.heap.size 31 i1 (.agg #[.int .i64 0, .int .i64 0]) 2 16 Tryd.underlying22 hi1 hy0 hy1 hy2 rfl (by decide) _ _ _ rfl (HV.out.2.alloc _) ⟨W2.heap.size + 1, 0, none⟩ 1 1 [.int .i64 a, .int .i64 b] rfl rfl ?c1 ?c2 ?c3 ?c4 ?c5 ?_)
            case c1 =>
              intro j z h
              match j, h with
              | 0, h => simp at h; subst h; simp [Addr.add]
              | 1, h => simp at h; subst h; simp [Addr.add]
            case c2 => intro z hx; simp at hx; rcases hx with rfl | rfl <;> rfl
            case c3 => have := HL.out; unfold maxLen; omega
            case c4 => have := HL.out; omega
            case c5 => have := HI.out.bel.size; have := HB2.out.size; simp; omega
            intro v' w4 hown' hgrow _
            obtain ⟨g', cap', rfl⟩ := ownsRow_succ hown'
            have H4 : Hid (KeepsFrom w1.heap.size W (w4.setCell ⟨w.heap.size + 2, 0, none⟩ (.slice (some ⟨g', 0, none⟩) _ cap')) ∧ KeepB [w.heap.size + 3, w.heap.size + 4, w.heap.size + 5] W (w4.setCell ⟨w.heap.size + 2, 0, none⟩ (.slice (some ⟨g', 0, none⟩) _ cap')) ∧ PI w.heap.size w (pre ++ [x]) (w4.setCell ⟨w.heap.size + 2, 0, none⟩ (.slice (some ⟨g', 0, none⟩) _ cap'))) :=
              PI.put HI.out HP3.out HB3.out HV.out.1 HV.out.2 (by rw [h0]; exact hown') hgrow HPAW.out HL.out (Nat.le_refl _)
            have hv1 : Boxed w4 (w.heap.size + 2) 22 _ := (HV.out.1.alloc _).kept hgrow (HV.out.1.not_row (by decide) HV.out.2)
            have hc1 := hv1.cell
            have hf1 := hv1.frozen
            clear hown' hgrow hv1
            gi_wp2_with fail
            exact H4.out
          · clear hown
            gi_wp2_with (gi_at_builtin; refine wpListIn_append_own _ rfl _ _ 22 rfl w.heap.size 31 i1 (.agg #[.int .i64 0, .int .i64 0]) 2 16 Tryd.underlying22 hi1 hy0 hy1 hy2 rfl (by decide) _ _ _ rfl (HV.out.2.alloc _) ⟨W2.heap.size + 1, 0, none⟩ 1 1 [.int .i64 a, .int .i64 b] rfl rfl ?c1 ?c2 ?c3 ?c4 ?c5 ?_)
            case c1 =>
              intro j z h
              match j, h with
              | 0, h => simp at h; subst h; simp [Addr.add]
              | 1, h => simp at h; subst h; simp [Addr.add]
            case c2 => intro z hx; simp at hx; rcases hx with rfl | rfl <;> rfl
            case c3 => have := HL.out; unfold maxLen; omega
            case c4 => have := HL.out; omega
            case c5 => have := HI.out.bel.size; have := HB2.out.size; simp; omega
            intro v' w4 hown' hgrow _
            obtain ⟨g', cap', rfl⟩ := ownsRow_succ hown'
            have H4 : Hid (KeepsFrom w1.heap.size W (w4.setCell ⟨w.heap.size + 2, 0, none⟩ (.slice (some ⟨g', 0, none⟩) _ cap')) ∧ KeepB [w.heap.size + 3, w.heap.size + 4, w.heap.size + 5] W (w4.setCell ⟨w.heap.size + 2, 0, none⟩ (.slice (some ⟨g', 0, none⟩) _ cap')) ∧ PI w.heap.size w (pre ++ [x]) (w4.setCell ⟨w.heap.size + 2, 0, none⟩ (.slice (some ⟨g', 0, none⟩) _ cap'))) :=
              PI.put HI.out HP3.out HB3.out HV.out.1 HV.out.2 hown' hgrow HPAW.out HL.out (Nat.le_refl _)
            have hv1 : Boxed w4 (w.heap.size + 2) 22 _ := (HV.out.1.alloc _).kept hgrow (HV.out.1.not_row (by decide) HV.out.2)
            have hc1 := hv1.cell
            have hf1 := hv1.frozen
            clear hown' hgrow hv1
            gi_wp2_with fail
            exact H4.out
        · have hg : decide (((kp pre).length : Int) ≤ 20) = false := decide_eq_false (by omega)
          have HL : Hid (20 < (kp pre).length) := by show _ < _; omega
          rcases hown.2 with ⟨rfl, h0⟩ | ⟨g, cap, cur, rfl, _⟩
          · omega
          · clear hown
            gi_wp2_with fail
            exact PI.stay HI.out HP3.out HB3.out HPAW.out HL.out
    case done =>
      intro D W hD hI hK
      have HI : Hid (PI w.heap.size w All W) := hI
      obtain ⟨v, hv, hown, _⟩ := hI.wants
      obtain ⟨ws, hws⟩ := hI.okk
      obtain ⟨e1, e2⟩ := pa_done HC.out HALL.out hws
      have hc := hv.cell
      have HD : Hid (w.heap.size ≤ D) := by have := HSZ.out; show _ ≤ _; omega
      have HK : Hid (W.heap[D]? = some (.deferred (some []))) := hK
      have m0 := hI.res0.cell
      have f0 := hI.res0.frozen
      have HOWN : Hid (W.ownsRow w.heap.size 31 2 v (kp All).length (wns (kp All))) := hown
      by_cases hl : 20 < (kp All).length
      · have hg : decide (((kp All).length : Int) > 20) = true := decide_eq_true (by omega)
        have HP : Hid (paSp s.data.toList = ([], 2)) := e1 hl
        have HF : Hid _ := fin_world (.slice none 0 0) (.int .i64 2) HI.out.res0 HI.out.res1 HI.out.bel HK.out HD.out (Nat.le_refl _)
        have m1 := (hI.res1.other (B' := w.heap.size) (by omega) (.slice none 0 0)).cell
        have f1 := (hI.res1.other (B' := w.heap.size) (by omega) (.slice none 0 0)).frozen
        rcases hown.2 with ⟨rfl, h0⟩ | ⟨g, cap, cur, rfl, _⟩
        · omega
        · clear hI hv hD hK hown hl e1 e2 hws
          gi_wp2_with fail
          refine ⟨by simp, .inl ⟨_, _, rfl, run_takeDeferred HF.out.1, ?_⟩⟩
          refine ⟨.tuple #[.slice none 0 0, .int .i64 2], ?_, _, by rw [HP.out], ?_, HF.out.2.2.2⟩
          · obtain ⟨_, c0, c1, _⟩ := HF.out
            simp [results, Tryd.f9, go_sem, c0, c1]
          · rw [HP.out]; exact World.ownsRow_nil _ _ _ _
      · have hg : decide (((kp All).length : Int) > 20) = false := decide_eq_false (by omega)
        have HP : Hid (paSp s.data.toList = (kp All, 0)) := e2 hl
        have HF : Hid _ := fin_world v (.int .i64 0) HI.out.res0 HI.out.res1 HI.out.bel HK.out HD.out (Nat.le_refl _)
        have HO : Hid _ := own_fin v (.int .i64 0) HI.out.res0 HI.out.res1 HK.out HOWN.out
        have m1 := (hI.res1.other (B' := w.heap.size) (by omega) v).cell
        have f1 := (hI.res1.other (B' := w.heap.size) (by omega) v).frozen
        rcases hown.2 with ⟨rfl, h0⟩ | ⟨g, cap, cur, rfl, _⟩
        · have HE : Hid (kp All = []) := List.eq_nil_of_length_eq_zero h0
          rw [h0] at hg
          clear hI hv hD hK hown hl e1 e2 hws
          gi_wp2_with fail
          refine ⟨by simp, .inl ⟨_, _, rfl, run_takeDeferred HF.out.1, ?_⟩⟩
          refine ⟨.tuple #[.slice none 0 0, .int .i64 0], ?_, _, by rw [HP.out], ?_, HF.out.2.2.2⟩
          · obtain ⟨_, c0, c1, _⟩ := HF.out
            simp [results, Tryd.f9, go_sem, c0, c1]
          · rw [HP.out]; dsimp only; rw [HE.out]; exact World.ownsRow_nil _ _ _ _
        · clear hI hv hD hK hown hl e1 e2 hws
          gi_wp2_with fail
          refine ⟨by simp, .inl ⟨_, _, rfl, run_takeDeferred HF.out.1, ?_⟩⟩
          refine ⟨.tuple #[.slice (some ⟨g, 0, none⟩) (kp All).length cap, .int .i64 0], ?_, _, by rw [HP.out], ?_, HF.out.2.2.2⟩
          · obtain ⟨_, c0, c1, _⟩ := HF.out
            simp [results, Tryd.f9, go_sem, c0, c1]
          · rw [HP.out]; exact HO.out
    case stop =>
      intro D c pre rest W hD hx hX hK
      obtain ⟨rfl, hdead, r0, r1, hb⟩ := hX
      have HP : Hid (paSp s.data.toList = ([], 3)) := pa_dead HC.out HALL.out hx hdead
      have HK : Hid (W.heap[D]? = some (.deferred (some []))) := hK
      have HC0 : Hid ((W.putObj D (.deferred none)).cell? ⟨w.heap.size, 0, none⟩ = some (.slice none 0 0) ∧ (W.putObj D (.deferred none)).cell? ⟨w.heap.size + 1, 0, none⟩ = some (.int .i64 3) ∧ Below w.heap.size w (W.putObj D (.deferred none))) :=
        ⟨cell_kept r0.cell (grownBy_putObj' _ D (.deferred none)) (fun r e => by cases e; exact ⟨_, hK, rfl⟩), cell_kept r1.cell (grownBy_putObj' _ D (.deferred none)) (fun r e => by cases e; exact ⟨_, hK, rfl⟩),
          hb.trans (belowK_b (w := w) (Nat.le_refl _) _ D _ _ (by have := HSZ.out; omega) hK rfl rfl)⟩
      clear hx hK r0 r1 hb hD hdead
      gi_wp2_with fail
      refine ⟨by simp, .inl ⟨_, _, rfl, run_takeDeferred HK.out, ?_⟩⟩
      refine ⟨.tuple #[.slice none 0 0, .int .i64 3], ?_, _, by rw [HP.out], ?_, HC0.out.2.2⟩
      · obtain ⟨c0, c1, _⟩ := HC0.out
        simp [results, Tryd.f9, go_sem, c0, c1]
      · rw [HP.out]; exact World.ownsRow_nil _ _ _ _
theorem sparse_at (s : ByteArray) (w : World) (hs : s.size ≤ 140737488351232) (hT : STabs w) :
    Calls Tryd.prog 9 #[.string s] w fun e w' => ∃ v, e = .returned (.tuple #[v, .int .i64 (paSp s.data.toList).2]) ∧
      w'.ownsRow w.heap.size 31 2 v (paSp s.data.toList).1.length (wns (paSp s.data.toList).1) ∧ Below w.heap.size w w' := callsIn_wide.1 (sparse_in s w hs hT)
end Go.Proofs.YtkmbhgbmdeoppaaDoor
