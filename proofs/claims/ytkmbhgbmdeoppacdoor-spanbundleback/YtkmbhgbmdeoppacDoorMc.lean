/-
  What lies beside a builder at work: a block of two cells stays; no program is named here.
-/
import Derived.Test.YtkmbhgbmdeoppacDoorMb
import Derived.Shelf.Strings.Builder1
import Derived.Shelf.Strings.BuilderK
import Derived.Test.YtkmbhgbmdeoppacDoorShelf
import Derived.Test.YtkmbhgbmdeoppacDoorRows
import Derived.Deep.AppendLies
namespace Go.Proofs.YtkmbhgbmdeoppacDoor
open Go.RowKit

theorem kept_pair {w w' : World} {b g : Nat} {t : TypeId} {n u : Value} (h : Lib.OthersKept 5 (some b) w w') (hg : w.heap[g]? = some (.cells #[n, u] t (0, 0))) (hne : b ≠ g) (ht : t ≠ 5) : w'.heap[g]? = some (.cells #[n, u] t (0, 0)) := by
  refine h g _ hg (fun e => hne (Option.some.inj e).symm) ?_
  intro c f e
  injection e with _ e2 _
  exact ht e2
theorem pair_cell {w : World} {g : Nat} {t : TypeId} {n u : Value} (hg : w.heap[g]? = some (.cells #[n, u] t (0, 0))) : w.cell? ⟨g, 0, none⟩ = some n ∧ w.cell? ⟨g, 1, none⟩ = some u := by
  refine ⟨?_, ?_⟩ <;> rw [Lib.cell_of_heap hg] <;> rfl
theorem cells_more (a : List UInt8) (s : ByteArray) : Lib.byteCells a ++ Lib.strCells s = Lib.byteCells (a ++ s.data.toList) := by rw [Lib.byteCells_append]; rfl
theorem bw_below {T e : TypeId} {B b : Nat} {bs : List Value} {W W' : World} (h : Lib.IsBuilderF T e B b bs W) (hb : Below W.heap.size W W') : Lib.IsBuilderF T e B b bs W' := by
  have one : ∀ {p : Value}, Lib.BuilderAtF T e B b p bs W → Lib.BuilderAtF T e B b p bs W' := by
    intro p h
    have hlt := h.lt
    obtain ⟨hB, v, hv, hown, hne⟩ := h
    refine ⟨hB, v, ?_, hown.kept (row := none) ⟨hb.os, hb.tape, hb.output, hb.size, fun k hk _ => hb.block k hk⟩ (Classical.em _), hne⟩
    rw [hb.block b hlt]; exact hv
  rcases h with h | h
  · exact .inl (one h)
  · exact .inr (one h)
end Go.Proofs.YtkmbhgbmdeoppacDoor

/-
  The contract of Go's (*strings.Builder).WriteString, which the shelf proves over any program, laid over this seat's translation. No condition but those that the theorem names.
-/
namespace Go.Proofs
def Tryd.lays166_ren : Go.Shelf.Ren := ⟨fun | 166 => 16 | 240 => 25 | 276 => 34 | n => n, fun | 0 => 0 | 3 => 3 | 4 => 4 | 5 => 5 | 9 => 9 | 20 => 20 | 37 => 46 | 70 => 45 | 72 => 48 | 75 => 50 | 80 => 54 | 164 => 66 | n => n, fun | n => n⟩
theorem Tryd.lays166 : Go.Proofs.Lays.n166 Tryd.prog Tryd.lays166_ren := {
  mixed := by kernel_rfl
  f166 := Tryd.func16.trans (congrArg some (by kernel_rfl))
  f240 := Tryd.func25.trans (congrArg some (by kernel_rfl))
  f276 := Tryd.func34.trans (congrArg some (by kernel_rfl))
  t0 := Tryd.underlying0
  a0 := Tryd.isAgg0
  z0 := Tryd.sizeOf0
  v0 := Tryd.zeroValue0
  t3 := Tryd.underlying3
  a3 := Tryd.isAgg3
  z3 := Tryd.sizeOf3
  v3 := Tryd.zeroValue3
  t4 := Tryd.underlying4
  a4 := Tryd.isAgg4
  z4 := Tryd.sizeOf4
  v4 := Tryd.zeroValue4
  t9 := Tryd.underlying9
  a9 := Tryd.isAgg9
  z9 := Tryd.sizeOf9
  v9 := Tryd.zeroValue9
  t20 := Tryd.underlying20
  a20 := Tryd.isAgg20
  z20 := Tryd.sizeOf20
  v20 := Tryd.zeroValue20
  t37 := Tryd.underlying46
  a37 := Tryd.isAgg46
  z37 := Tryd.sizeOf46
  v37 := Tryd.zeroValue46
  t70 := Tryd.underlying45
  a70 := Tryd.isAgg45
  z70 := Tryd.sizeOf45
  v70 := Tryd.zeroValue45
  t72 := Tryd.underlying48
  a72 := Tryd.isAgg48
  z72 := Tryd.sizeOf48
  v72 := Tryd.zeroValue48
  t75 := Tryd.underlying50
  a75 := Tryd.isAgg50
  z75 := Tryd.sizeOf50
  v75 := Tryd.zeroValue50
  t164 := Tryd.underlying66
  a164 := Tryd.isAgg66
  z164 := Tryd.sizeOf66
  v164 := Tryd.zeroValue66 }
theorem Tryd.Builder_Extra_166 : Builder.Extra Tryd.prog Tryd.lays166_ren := {
  sizeBuilder := by kernel_rfl
  liesBuilder := by kernel_rfl
  t5 := Tryd.underlying5
  a5 := Tryd.isAgg5
  z5 := Tryd.sizeOf5
  v5 := Tryd.zeroValue5
  infoByte := by kernel_rfl
  cellsByte := by kernel_rfl
  sizeByte := by kernel_rfl
  neB5 := by decide }
open Go.RowKit in
theorem Tryd.Builder_WriteString (B b : Nat) (bs : List Value) (s : ByteArray) (w : World) (h : Lib.IsBuilder 48 5 B b bs w) (hlen : bs.length + s.size ≤ 140737488355328) (hBw : B ≤ w.heap.size) :
    Calls Tryd.prog 16 #[.pointer (some ⟨b, 0, none⟩), .string s] w fun e w' => e = .returned (.tuple #[.int .i64 s.size, .nilIface]) ∧ (Lib.BuilderAt 48 5 B b (.pointer (some ⟨b, 0, none⟩)) (bs ++ Lib.strCells s) w' ∧ Below B w w') := Any.Builder_WriteString Tryd.lays166 Tryd.Builder_Extra_166 B b bs s w h hlen hBw
open Go.RowKit in
theorem Tryd.Builder_WriteString_k (B b : Nat) (bs : List Value) (s : ByteArray) (w : World) (h : Lib.IsBuilderF 48 5 B b bs w) (hlen : bs.length + s.size ≤ 140737488355328) (hBw : B ≤ w.heap.size) :
    Calls Tryd.prog 16 #[.pointer (some ⟨b, 0, none⟩), .string s] w fun e w' => e = .returned (.tuple #[.int .i64 s.size, .nilIface]) ∧ (Lib.BuilderAtF 48 5 B b (.pointer (some ⟨b, 0, none⟩)) (bs ++ Lib.strCells s) w' ∧ Below B w w' ∧ Lib.OthersKept 5 (some b) w w') := Any.Builder_WriteString_k Tryd.lays166 Tryd.Builder_Extra_166 B b bs s w h hlen hBw
end Go.Proofs

/-
  What Bundle of package span answers; the powers of ten of package strconv hold what their text lays.
-/
namespace Go.Proofs.YtkmbhgbmdeoppacDoor
open Go.RowKit

theorem bpt_len {b body : List UInt8} {x : Wn} (hb : b.length ≤ 30) (h : okC x body.length = true) : (ptB b body.length x (ctOf body x)).length ≤ 100100 := by
  have h1 := ctB_len h
  have h2 := ctOf_len h
  obtain ⟨h3, h4, h5, h6⟩ := okC_is h
  have h7 := hd_len b
  unfold ptB
  simp only [List.length_append, List.length_cons, List.length_nil]
  omega
theorem bpts_len {b body : List UInt8} {l : List Wn} (hb : b.length ≤ 30) (h : ∀ x ∈ l, okC x body.length = true) : (l.flatMap (fun x => ptB b body.length x (ctOf body x))).length ≤ 100100 * l.length := by
  induction l with
  | nil => simp
  | cons x l ih =>
    have h1 := ih (fun y hy => h y (List.mem_cons_of_mem _ hy))
    have h2 := bpt_len hb (h x (by simp))
    rw [List.flatMap_cons, List.length_append, List.length_cons]; omega
set_option maxRecDepth 100000 in
theorem sopen_at (b t : ByteArray) (ht : t.data.toList = hdB b.data.toList) (hb : b.size ≤ 140737488351232) (w : World) :
    Calls Tryd.prog 17 #[.string b] w fun e w' => e = .returned (.string t) ∧ w' = w := by
  have HTT : Hid ((⟨#[45, 45]⟩ : ByteArray) ++ b ++ ⟨#[13, 10]⟩ ++ ⟨#[67, 111, 110, 116, 101, 110, 116, 45, 82, 97, 110, 103, 101, 58, 32]⟩ = t) := by
    show _ = _
    apply ByteArray.ext; apply Array.ext'
    rw [ht]
    unfold hdB
    simp
  clear ht
  go_enter Tryd.func17, Tryd.ntmps17
  go_wp2_with fail
  go_ret
  exact ⟨ret_str HTT.out, rfl⟩
set_option maxHeartbeats 4000000 in
set_option maxRecDepth 100000 in
theorem sbundle_at (b body : ByteArray) (v : Value) (ls : List Wn) (t : ByteArray) (c : Int) (h : bdl b.data.toList body.data.toList ls = (t.data.toList, c)) (w : World) (hf : Wl w v ls) (hb : b.size ≤ maxLen) (hT : PowT w) :
    Calls Tryd.prog 7 #[.string b, .string body, v] w fun e w' => e = .returned (.tuple #[.string t, .int .i64 c]) ∧ Below w.heap.size w w' := by
  have HF : Hid (Wl w v ls) := hf
  have HP : Hid (PowT w) := hT
  obtain ⟨ad, cap, rfl, hcap, hcm, _⟩ := id hf
  obtain ⟨tk, htk⟩ : ∃ tk, token b.data.toList = tk := ⟨_, rfl⟩
  have HTK : Hid (token b.data.toList = tk) := htk
  have HH : Hid (bdl b.data.toList body.data.toList ls = (t.data.toList, c)) := h
  have HB : Hid (b.size ≤ maxLen) := hb
  have hokb : okBn b.data.toList = (tk && decide (b.size ≤ 30)) := by unfold okBn; rw [htk, size_list]
  unfold maxLen at hcm
  clear hf htk h hb hT
  have ans : ∀ {k : Int}, bdl b.data.toList body.data.toList ls = ([], k) → t = ⟨#[]⟩ ∧ c = k := by
    intro k e
    have := HH.out
    rw [e] at this
    obtain ⟨h1, h2⟩ := Prod.mk.inj this
    exact ⟨by apply ByteArray.ext; apply Array.ext'; exact h1.symm, h2.symm⟩
  cases tk
  · have HE : Hid (t = ⟨#[]⟩ ∧ c = 3) := ans (bdl_syn (by rw [hokb]; rfl))
    clear hokb ans
    go_enter Tryd.func7, Tryd.ntmps7
    go_wp2_with fail
    refine (isToken_any b _ HB.out).mono ?_
    rintro e w1 ⟨rfl, hww⟩
    rw [hww, HTK.out]
    clear hww w1
    go_wp2_with fail
    go_ret2
    exact ⟨by rw [HE.out.1, HE.out.2]; rfl, Below.refl _ _⟩
  · by_cases h30 : b.size ≤ 30
    · have g30 : decide ((b.size : Int) > 30) = false := decide_eq_false (by omega)
      have hok : okBn b.data.toList = true := by rw [hokb, decide_eq_true h30]; rfl
      have HOK : Hid (okBn b.data.toList = true) := hok
      have H30 : Hid (b.size ≤ 30) := h30
      clear hokb hok
      by_cases hl0 : ls.length = 0
      · have HE : Hid (t = ⟨#[]⟩ ∧ c = 1) := ans (bdl_arg HOK.out (.inl hl0))
        have g0 : ((ls.length : Int) == 0) = true := beq_iff_eq.2 (by omega)
        clear ans hl0
        go_enter Tryd.func7, Tryd.ntmps7
        go_wp2_with fail
        refine (isToken_any b _ HB.out).mono ?_
        rintro e w1 ⟨rfl, hww⟩
        rw [hww, HTK.out]
        clear hww w1
        go_wp2_with fail
        go_ret2
        exact ⟨by rw [HE.out.1, HE.out.2]; rfl, Below.refl _ _⟩
      · have g0 : ((ls.length : Int) == 0) = false := beq_eq_false_iff_ne.2 (by omega)
        by_cases hl20 : 20 < ls.length
        · have HE : Hid (t = ⟨#[]⟩ ∧ c = 1) := ans (bdl_arg HOK.out (.inr hl20))
          have g20 : decide ((ls.length : Int) > 20) = true := decide_eq_true (by omega)
          clear ans hl0 hl20
          go_enter Tryd.func7, Tryd.ntmps7
          go_wp2_with fail
          refine (isToken_any b _ HB.out).mono ?_
          rintro e w1 ⟨rfl, hww⟩
          rw [hww, HTK.out]
          clear hww w1
          go_wp2_with fail
          go_ret2
          exact ⟨by rw [HE.out.1, HE.out.2]; rfl, Below.refl _ _⟩
        · have g20 : decide ((ls.length : Int) > 20) = false := decide_eq_false (by omega)
          have HL : Hid (¬ (ls.length = 0 ∨ 20 < ls.length)) := by show ¬ _; omega
          have HBAD : Hid (ls.all (fun x => okC x body.size) = false → t = ⟨#[]⟩ ∧ c = 1) := fun h => ans (bdl_bad HOK.out HL.out (by rw [size_list]; exact h))
          have HGOOD : Hid (ls.all (fun x => okC x body.size) = true → t.data.toList = ls.flatMap (fun x => ptB b.data.toList body.size x (ctOf body.data.toList x)) ++ tlB b.data.toList ∧ c = 0) := by
            intro h
            have := HH.out
            rw [bdl_ok HOK.out HL.out (by rw [size_list]; exact h)] at this
            obtain ⟨h1, h2⟩ := Prod.mk.inj this
            rw [size_list] at h1
            exact ⟨h1.symm, h2.symm⟩
          obtain ⟨hd, hhd⟩ : ∃ hd : ByteArray, hd.data.toList = hdB b.data.toList := ⟨⟨(hdB b.data.toList).toArray⟩, rfl⟩
          have HHD : Hid (hd.data.toList = hdB b.data.toList) := hhd
          have hhs : hd.size ≤ 49 := by rw [← size_list, hhd, hd_len, size_list]; omega
          have HHS : Hid (hd.size ≤ 49) := hhs
          obtain ⟨acc, hacc⟩ : ∃ acc : Nat → List UInt8, acc = fun k => (ls.take k).flatMap (fun x => ptB b.data.toList body.size x (ctOf body.data.toList x)) := ⟨_, rfl⟩
          have HACC : Hid (acc = fun k => (ls.take k).flatMap (fun x => ptB b.data.toList body.size x (ctOf body.data.toList x))) := hacc
          have HLEN : Hid (∀ k, k ≤ ls.length → (∀ x ∈ ls.take k, okC x body.size = true) → (acc k).length ≤ 100100 * k) := by
            intro k hk hx
            have := bpts_len (b := b.data.toList) (body := body.data.toList) (l := ls.take k) (by rw [size_list]; exact H30.out) (by rw [size_list]; exact hx)
            rw [size_list, List.length_take] at this
            rw [HACC.out]
            rw [Nat.min_eq_left hk] at this
            exact this
          have hfr := Lib.fresh_isBuilder 48 5 w
          have HB0 : Hid (Lib.IsBuilderF 48 5 w.heap.size w.heap.size [] (w.alloc (.cells #[.pointer none, .slice none 0 0] 48))) := Lib.IsBuilderF.of hfr
          have HW0 : Hid (Below w.heap.size w (w.alloc (.cells #[.pointer none, .slice none 0 0] 48))) := below_alloc _ _
          clear hfr hhd hhs hacc ans h30
          go_enter Tryd.func7, Tryd.ntmps7
          go_wp2_with fail
          refine (isToken_any b _ HB.out).mono ?_
          rintro e w1 ⟨rfl, hww⟩
          rw [hww, HTK.out]
          clear hww w1
          go_wp2_with fail
          go_loopw [31] (fun i wr => ∃ k : Nat, k ≤ ls.length ∧ i = .int .i64 k ∧ (∀ x ∈ ls.take k, okC x body.size = true) ∧ Lib.IsBuilderF 48 5 w.heap.size w.heap.size (Lib.byteCells (acc k)) wr ∧ Below w.heap.size w wr) (fun i _ => ls.length - (intOf i).toNat)
          case atStart => exact ⟨0, Nat.zero_le _, rfl, by simp, by rw [HACC.out]; exact HB0.out, HW0.out⟩
          case round =>
            obtain ⟨k, hk, rfl, hall, hbu, hw⟩ := hrel
            have HBU : Hid (Lib.IsBuilderF 48 5 w.heap.size w.heap.size (Lib.byteCells (acc k)) wr) := hbu
            have HTAKEN : Hid (∀ x ∈ ls.take k, okC x body.size = true) := hall
            have hsz := hw.size
            have hwl : w.heap.size < wr.heap.size := by
              rcases HBU.out with h | h
              · exact h.lt
              · exact h.lt
            have HLK : Hid ((acc k).length ≤ 100100 * 20) := by
              have h1 := HLEN.out k hk hall
              have h2 : ls.length ≤ 20 := by have := HL.out; omega
              show _ ≤ _
              have : 100100 * k ≤ 100100 * 20 := Nat.mul_le_mul_left _ (by omega)
              omega
            clear hbu hall
            by_cases hlt : k < ls.length
            · obtain ⟨ad', cap', hv', _, _, hc'⟩ := HF.out
              simp only [Value.slice.injEq] at hv'
              obtain ⟨rfl, _, rfl⟩ := hv'
              obtain ⟨g, off, rfl, hgs, hce⟩ := hc' (by omega)
              obtain ⟨c1, c2⟩ := hce k hlt
              obtain ⟨p, hp⟩ : ∃ p, (ls[k]).1 = p := ⟨_, rfl⟩
              obtain ⟨q, hq⟩ : ∃ q, (ls[k]).2 = q := ⟨_, rfl⟩
              have HX : Hid (ls[k] = (p, q)) := Prod.ext hp hq
              have HKL : Hid (k < ls.length) := hlt
              have HMEM : Hid ((p, q) ∈ ls) := by show _ ∈ _; rw [← HX.out]; exact List.getElem_mem hlt
              have d1 : wr.cell? ⟨g, off + k * 2, none⟩ = some (.int .i64 p) := by rw [hw.cell (p := ⟨g, off + k * 2, none⟩) hgs, ← hp]; exact c1
              have d2 : wr.cell? ⟨g, off + k * 2 + 1, none⟩ = some (.int .i64 q) := by rw [hw.cell (p := ⟨g, off + k * 2 + 1, none⟩) hgs, ← hq]; exact c2
              have hgr : g < wr.heap.size := by omega
              have HTK1 : Hid (ls.take (k + 1) = ls.take k ++ [(p, q)]) := by rw [← HX.out]; exact (List.take_append_getElem hlt).symm
              clear hce c1 c2 hp hq hc'
              have hki : (k : Int) < (ls.length : Int) := by omega
              have hk0 : (0 : Int) ≤ (k : Int) := by omega
              have HW0' : Hid (Below w.heap.size w (wr.alloc (.cells #[.int .i64 p, .int .i64 q] 23))) := hw.alloc (by omega) _
              have HBU0 : Hid (Lib.IsBuilderF 48 5 w.heap.size w.heap.size (Lib.byteCells (acc k)) (wr.alloc (.cells #[.int .i64 p, .int .i64 q] 23))) := HBU.out.alloc _
              have HP0 : Hid ((wr.alloc (.cells #[.int .i64 p, .int .i64 q] 23)).heap[wr.heap.size]? = some (.cells #[.int .i64 p, .int .i64 q] 23 (0, 0))) := heap_alloc_new _ _
              have HLT : Hid (w.heap.size < wr.heap.size) := hwl
              obtain ⟨ct, d, hct⟩ := pair_bi (prC (p, q) body.size)
              have HCT : Hid (prC (p, q) body.size = (ct.data.toList, d)) := hct
              have HCP : Hid (∀ W, Below w.heap.size w W → Calls Tryd.prog 5 #[.agg #[.int .i64 p, .int .i64 q], .int .i64 (body.size : Int)] W fun e w' => e = .returned (.tuple #[.string ct, .int .i64 d]) ∧ Below W.heap.size W w') :=
                fun W hW => scprint_at p q body.size ct d HCT.out W (HP.out.below hW)
              clear hct
              go_wp2_with fail
              refine (HCP.out _ HW0'.out).mono ?_
              rintro e w2 ⟨rfl, hb2⟩
              have HW2 : Hid (Below w.heap.size w w2) := HW0'.out.trans (hb2.mono HW0'.out.size)
              have HBU2 : Hid (Lib.IsBuilderF 48 5 w.heap.size w.heap.size (Lib.byteCells (acc k)) w2) := bw_below HBU0.out hb2
              have HPP2 : Hid (w2.heap[wr.heap.size]? = some (.cells #[.int .i64 p, .int .i64 q] 23 (0, 0))) := (hb2.block _ (by simp)).trans HP0.out
              clear hb2
              cases hok : okC (p, q) body.size
              · have hd : d = 1 := by
                  have := HCT.out
                  rw [prC_bad hok] at this
                  exact (Prod.mk.inj this).2.symm
                subst hd
                have HE : Hid (t = ⟨#[]⟩ ∧ c = 1) := HBAD.out (by
                  rw [List.all_eq_false]
                  exact ⟨_, HMEM.out, by rw [hok]; simp⟩)
                go_wp2_with fail
                go_ret2
                exact ⟨by rw [HE.out.1, HE.out.2]; rfl, HW2.out⟩
              · obtain ⟨o1, o2, o3, o4⟩ := okC_is hok
                simp only at o1 o2 o3 o4
                have hd : ct.data.toList = ctB (p, q) body.size ∧ d = 0 := by
                  have := HCT.out
                  rw [prC_ok hok] at this
                  exact ⟨(Prod.mk.inj this).1.symm, (Prod.mk.inj this).2.symm⟩
                obtain ⟨hct, rfl⟩ := hd
                have HCTL : Hid (ct.data.toList = ctB (p, q) body.size) := hct
                have hcts : ct.size ≤ 23 := by rw [← size_list, hct]; exact ctB_len hok
                obtain ⟨i, rfl⟩ : ∃ i : Nat, p = (i : Int) := ⟨p.toNat, by omega⟩
                obtain ⟨j, rfl⟩ : ∃ j : Nat, q = (j : Int) := ⟨q.toNat, by omega⟩
                have HOKX : Hid (okC ((i : Int), (j : Int)) body.size = true) := hok
                have HSZ : Hid (hd.size ≤ 49 ∧ ct.size ≤ 23 ∧ (body.extract i j).size ≤ 99999) := by
                  refine ⟨HHS.out, hcts, ?_⟩
                  simp
                  omega
                have s1 : (0 : Int) ≤ (i : Int) := by omega
                have s2 : (i : Int) ≤ (j : Int) := by omega
                have s3 : (j : Int) ≤ (body.size : Int) := by omega
                have hcp0 := pair_cell HPP2.out
                clear o1 o2 o3 o4 hct hcts hok
                go_wp2_with fail
                refine (sopen_at b hd HHD.out (by have := H30.out; omega) _).mono ?_
                rintro e w2b ⟨rfl, hww⟩
                rw [hww]
                clear hww w2b
                go_wp2_with fail
                refine (Tryd.Builder_WriteString_k w.heap.size w.heap.size _ hd _ HBU2.out (by rw [Lib.byteCells_length]; have h1 := HLK.out; have h2 := HSZ.out; omega) HW2.out.size).mono ?_
                rintro e w3 ⟨rfl, hb3, hw3, hk3⟩
                have HPP3 : Hid (w3.heap[wr.heap.size]? = some (.cells #[.int .i64 i, .int .i64 j] 23 (0, 0))) := kept_pair hk3 HPP2.out (by have := HLT.out; omega) (by decide)
                have HW3 : Hid (Below w.heap.size w w3) := HW2.out.trans hw3
                rw [cells_more] at hb3
                have HBU3 : Hid (Lib.IsBuilderF 48 5 w.heap.size w.heap.size (Lib.byteCells (acc k ++ hd.data.toList)) w3) := .inr hb3
                clear hb3 hw3 hk3
                go_wp2_with fail
                refine (Tryd.Builder_WriteString_k w.heap.size w.heap.size _ ct _ HBU3.out (by rw [Lib.byteCells_length]; have h1 := HLK.out; have h2 := HSZ.out; simp only [List.length_append, size_list]; omega) HW3.out.size).mono ?_
                rintro e w4 ⟨rfl, hb4, hw4, hk4⟩
                have HPP4 : Hid (w4.heap[wr.heap.size]? = some (.cells #[.int .i64 i, .int .i64 j] 23 (0, 0))) := kept_pair hk4 HPP3.out (by have := HLT.out; omega) (by decide)
                have HW4 : Hid (Below w.heap.size w w4) := HW3.out.trans hw4
                rw [cells_more] at hb4
                have HBU4 : Hid (Lib.IsBuilderF 48 5 w.heap.size w.heap.size (Lib.byteCells (acc k ++ hd.data.toList ++ ct.data.toList)) w4) := .inr hb4
                clear hb4 hw4 hk4
                go_wp2_with fail
                refine (Tryd.Builder_WriteString_k w.heap.size w.heap.size _ (⟨#[13, 10, 13, 10]⟩ : ByteArray) _ HBU4.out (by rw [Lib.byteCells_length]; have h1 := HLK.out; have h2 := HSZ.out; simp only [List.length_append, size_list]; show _ + 4 ≤ _; omega) HW4.out.size).mono ?_
                rintro e w5 ⟨rfl, hb5, hw5, hk5⟩
                have HPP5 : Hid (w5.heap[wr.heap.size]? = some (.cells #[.int .i64 i, .int .i64 j] 23 (0, 0))) := kept_pair hk5 HPP4.out (by have := HLT.out; omega) (by decide)
                have HW5 : Hid (Below w.heap.size w w5) := HW4.out.trans hw5
                rw [cells_more] at hb5
                have HBU5 : Hid (Lib.IsBuilderF 48 5 w.heap.size w.heap.size (Lib.byteCells (acc k ++ hd.data.toList ++ ct.data.toList ++ [13, 10, 13, 10])) w5) := .inr hb5
                clear hb5 hw5 hk5
                have hcp := pair_cell HPP5.out
                obtain ⟨hcp1, hcp2⟩ := hcp
                go_wp2_with fail
                refine (Tryd.Builder_WriteString_k w.heap.size w.heap.size _ (body.extract i j) _ HBU5.out (by rw [Lib.byteCells_length]; have h1 := HLK.out; have h2 := HSZ.out; simp only [List.length_append, size_list, List.length_cons, List.length_nil]; omega) HW5.out.size).mono ?_
                rintro e w6 ⟨rfl, hb6, hw6, hk6⟩
                have HPP6 : Hid (w6.heap[wr.heap.size]? = some (.cells #[.int .i64 i, .int .i64 j] 23 (0, 0))) := kept_pair hk6 HPP5.out (by have := HLT.out; omega) (by decide)
                have HW6 : Hid (Below w.heap.size w w6) := HW5.out.trans hw6
                rw [cells_more] at hb6
                have HBU6 : Hid (Lib.IsBuilderF 48 5 w.heap.size w.heap.size (Lib.byteCells (acc k ++ hd.data.toList ++ ct.data.toList ++ [13, 10, 13, 10] ++ (body.extract i j).data.toList)) w6) := .inr hb6
                clear hb6 hw6 hk6
                go_wp2_with fail
                refine (Tryd.Builder_WriteString_k w.heap.size w.heap.size _ (⟨#[13, 10]⟩ : ByteArray) _ HBU6.out (by rw [Lib.byteCells_length]; have h1 := HLK.out; have h2 := HSZ.out; simp only [List.length_append, size_list, List.length_cons, List.length_nil]; show _ + 2 ≤ _; omega) HW6.out.size).mono ?_
                rintro e w7 ⟨rfl, hb7, hw7, hk7⟩
                have HW7 : Hid (Below w.heap.size w w7) := HW6.out.trans hw7
                rw [cells_more] at hb7
                have HBU7 : Hid (Lib.IsBuilderF 48 5 w.heap.size w.heap.size (Lib.byteCells (acc k ++ hd.data.toList ++ ct.data.toList ++ [13, 10, 13, 10] ++ (body.extract i j).data.toList ++ [13, 10])) w7) := .inr hb7
                clear hb7 hw7 hk7
                go_wp2_with fail
                go_roundw
                case rel =>
                  have e1 : acc (k + 1) = acc k ++ hd.data.toList ++ ct.data.toList ++ [13, 10, 13, 10] ++ (body.extract i j).data.toList ++ [13, 10] := by
                    rw [HACC.out]
                    simp only
                    rw [HTK1.out, List.flatMap_append, List.flatMap_cons, List.flatMap_nil, List.append_nil, HHD.out, HCTL.out, extract_seg]
                    unfold ptB ctOf
                    simp
                  refine ⟨k + 1, HKL.out, by go_num, ?_, by rw [e1]; exact HBU7.out, HW7.out⟩
                  rw [HTK1.out]
                  intro x hx
                  rcases List.mem_append.1 hx with hx | hx
                  · exact HTAKEN.out x hx
                  · simp at hx; rw [hx]; exact HOKX.out
                case measure => have := HKL.out; simp [intOf]; omega
            · have HEnd : Hid (ls.take k = ls) := List.take_of_length_le (by omega)
              obtain ⟨tl, htl⟩ : ∃ tl : ByteArray, (⟨#[45, 45]⟩ : ByteArray) ++ b ++ ⟨#[45, 45]⟩ ++ ⟨#[13, 10]⟩ = tl := ⟨_, rfl⟩
              have HTL : Hid (tl.data.toList = tlB b.data.toList) := by
                show _ = _
                rw [← htl]; unfold tlB; simp
              have HTS : Hid (tl.size ≤ 36) := by
                show _ ≤ _
                rw [← size_list, HTL.out, tl_len, size_list]; have := H30.out; omega
              have HW2 : Hid (Below w.heap.size w wr) := hw
              have hb30 := H30.out
              go_wp2_with fail
              refine (Tryd.Builder_WriteString_k w.heap.size w.heap.size _ tl _ HBU.out (by rw [Lib.byteCells_length]; have h1 := HLK.out; have h2 := HTS.out; omega) HW2.out.size).mono ?_
              rintro e w3 ⟨rfl, hb3, hw3, hk3⟩
              rw [cells_more] at hb3
              have HW3 : Hid (Below w.heap.size w w3) := HW2.out.trans hw3
              have HBU3 : Hid (Lib.IsBuilderF 48 5 w.heap.size w.heap.size (Lib.byteCells (acc k ++ tl.data.toList)) w3) := .inr hb3
              clear hb3 hw3 hk3 htl
              go_wp2_with fail
              refine (Tryd.Builder_String_any_f w.heap.size w.heap.size _ _ HBU3.out HW3.out.size).mono ?_
              rintro e w4 ⟨rfl, hw4⟩
              have HW4 : Hid (Below w.heap.size w w4) := HW3.out.trans hw4.2
              clear hw4
              go_wp2_with fail
              go_ret2
              obtain ⟨g1, g2⟩ := HGOOD.out (by
                rw [List.all_eq_true]
                have := HTAKEN.out
                rw [HEnd.out] at this
                exact this)
              refine ⟨?_, HW4.out⟩
              rw [g2]
              have e2 : (⟨(acc k ++ tl.data.toList).toArray⟩ : ByteArray) = t := by
                apply ByteArray.ext; apply Array.ext'
                rw [g1, HACC.out, HTL.out]
                simp only
                rw [HEnd.out]
              rw [← e2]
              rfl
    · have g30 : decide ((b.size : Int) > 30) = true := decide_eq_true (by omega)
      have HE : Hid (t = ⟨#[]⟩ ∧ c = 3) := ans (bdl_syn (by rw [hokb, decide_eq_false h30]; rfl))
      clear hokb ans h30
      go_enter Tryd.func7, Tryd.ntmps7
      go_wp2_with fail
      refine (isToken_any b _ HB.out).mono ?_
      rintro e w1 ⟨rfl, hww⟩
      rw [hww, HTK.out]
      clear hww w1
      go_wp2_with fail
      go_ret2
      exact ⟨by rw [HE.out.1, HE.out.2]; rfl, Below.refl _ _⟩
end Go.Proofs.YtkmbhgbmdeoppacDoor

/-
  What strings.Cut computes; a text has less than 2^32 - 15 bytes, and the package variable that the library reads holds some number.
-/
namespace Go.Proofs.YtkmbhgbmdeoppacDoor
open Go.RowKit

theorem mk_self (s : ByteArray) (l : List UInt8) (h : s.data.toList = l) : (⟨l.toArray⟩ : ByteArray) = s := by
  apply ByteArray.ext; apply Array.ext'; exact h.symm
theorem drewN_heap (w : World) (n : Nat) : (w.drewN n).heap = w.heap := by
  induction n with
  | zero => rfl
  | succ n ih => exact ih

theorem scut_at (s p a b : ByteArray) (f : Bool) (h : Lib.cut s.data.toList p.data.toList = (a.data.toList, b.data.toList, f)) (m : Int) (w : World) (hm : w.cell? ⟨0, 0, none⟩ = some (.int .i64 m)) (hs : s.size < 4294967281) :
    Calls Tryd.prog 13 #[.string s, .string p] w fun e w' => e = .returned (.tuple #[.string a, .string b, .bool f]) ∧ ∃ n, w' = w.drewN n := by
  refine (Tryd.strings_Cut s p m w hs hm).mono ?_
  rintro e w' ⟨rfl, hn⟩
  refine ⟨?_, hn⟩
  rw [h]
end Go.Proofs.YtkmbhgbmdeoppacDoor

/-
  Slices of a body: those that have the same bytes, merged; no program is named here.
-/
namespace Go.Proofs.YtkmbhgbmdeoppacDoor
open Go.RowKit

/-- Has one of the slices a byte? -/
def insd (l : List Wn) (k : Int) : Bool := l.any fun s => decide (s.1 ≤ k) && decide (k < s.2)
/-- Slices with bytes, that rise, with gaps between them. -/
def canonM (l : List Wn) : Prop := (∀ s ∈ l, s.1 < s.2) ∧ l.Pairwise fun a b => a.2 < b.1
theorem insd_nil (k : Int) : insd [] k = false := rfl
theorem insd_cons (s : Wn) (l : List Wn) (k : Int) : insd (s :: l) k = ((decide (s.1 ≤ k) && decide (k < s.2)) || insd l k) := by simp [insd]
theorem insd_app (a b : List Wn) (k : Int) : insd (a ++ b) k = (insd a k || insd b k) := by simp [insd]
theorem insd_iff (l : List Wn) (k : Int) : insd l k = true ↔ ∃ s ∈ l, s.1 ≤ k ∧ k < s.2 := by
  unfold insd
  rw [List.any_eq_true]
  constructor
  · rintro ⟨s, h, h2⟩
    exact ⟨s, h, by simpa using h2⟩
  · rintro ⟨s, h, h2⟩
    exact ⟨s, h, by simpa using h2⟩
theorem insd_no (l : List Wn) (k : Int) (h : ∀ s ∈ l, ¬ (s.1 ≤ k ∧ k < s.2)) : insd l k = false := by
  cases hq : insd l k
  · rfl
  · obtain ⟨s, hs, h2⟩ := (insd_iff l k).1 hq
    exact absurd h2 (h s hs)
theorem canon_nil : canonM [] := ⟨by simp, .nil⟩
theorem canon_tail {s : Wn} {l : List Wn} (h : canonM (s :: l)) : canonM l ∧ s.1 < s.2 ∧ ∀ t ∈ l, s.2 < t.1 := by
  obtain ⟨h1, h2⟩ := h
  rw [List.pairwise_cons] at h2
  exact ⟨⟨fun t ht => h1 t (List.mem_cons_of_mem _ ht), h2.2⟩, h1 s (by simp), h2.1⟩
theorem canon_cons {s : Wn} {l : List Wn} (h : canonM l) (h1 : s.1 < s.2) (h2 : ∀ t ∈ l, s.2 < t.1) : canonM (s :: l) := by
  refine ⟨fun t ht => ?_, List.pairwise_cons.2 ⟨h2, h.2⟩⟩
  rcases List.mem_cons.1 ht with rfl | ht
  · exact h1
  · exact h.1 t ht
/-- Those that rise with gaps are known by their bytes. -/
theorem canon_one : ∀ (a b : List Wn), canonM a → canonM b → (∀ k, insd a k = insd b k) → a = b := by
  intro a
  induction a with
  | nil =>
    intro b _ hb h
    cases b with
    | nil => rfl
    | cons t b =>
      obtain ⟨_, h1, _⟩ := canon_tail hb
      have := h t.1
      rw [insd_nil, insd_cons, decide_eq_true (Int.le_refl _), decide_eq_true h1] at this
      simp at this
  | cons s a ih =>
    intro b ha hb h
    obtain ⟨ha1, ha2, ha3⟩ := canon_tail ha
    cases b with
    | nil =>
      have := h s.1
      rw [insd_nil, insd_cons, decide_eq_true (Int.le_refl _), decide_eq_true ha2] at this
      simp at this
    | cons t b =>
      obtain ⟨hb1, hb2, hb3⟩ := canon_tail hb
      have low : ∀ (u : Wn) (l : List Wn), (∀ x ∈ l, u.2 < x.1) → u.1 < u.2 → ∀ k, k < u.1 → insd (u :: l) k = false := by
        intro u l hl hu k hk
        apply insd_no
        intro x hx
        rcases List.mem_cons.1 hx with rfl | hx
        · omega
        · have := hl x hx; omega
      have end_ : ∀ (u : Wn) (l : List Wn), (∀ x ∈ l, u.2 < x.1) → insd (u :: l) u.2 = false := by
        intro u l hl
        apply insd_no
        intro x hx
        rcases List.mem_cons.1 hx with rfl | hx
        · omega
        · have := hl x hx; omega
      have in_ : ∀ (u : Wn) (l : List Wn) (k : Int), u.1 ≤ k → k < u.2 → insd (u :: l) k = true := by
        intro u l k h1 h2
        rw [insd_cons, decide_eq_true h1, decide_eq_true h2]; rfl
      have e1 : s.1 = t.1 := by
        rcases Int.lt_trichotomy s.1 t.1 with hlt | heq | hgt
        · have := h s.1
          rw [in_ s a s.1 (Int.le_refl _) ha2, low t b hb3 hb2 _ hlt] at this; cases this
        · exact heq
        · have := h t.1
          rw [in_ t b t.1 (Int.le_refl _) hb2, low s a ha3 ha2 _ hgt] at this; cases this
      have e2 : s.2 = t.2 := by
        rcases Int.lt_trichotomy s.2 t.2 with hlt | heq | hgt
        · have := h s.2
          rw [end_ s a ha3, in_ t b s.2 (by omega) hlt] at this; cases this
        · exact heq
        · have := h t.2
          rw [end_ t b hb3, in_ s a t.2 (by omega) hgt] at this; cases this
      have e : s = t := Prod.ext e1 e2
      subst e
      rw [ih b ha1 hb1 (fun k => ?_)]
      have hk := h k
      rw [insd_cons, insd_cons] at hk
      by_cases hq : s.1 ≤ k ∧ k < s.2
      · rw [insd_no a k (fun x hx => by have := ha3 x hx; omega), insd_no b k (fun x hx => by have := hb3 x hx; omega)]
      · have : (decide (s.1 ≤ k) && decide (k < s.2)) = false := by
          rw [← Bool.decide_and, decide_eq_false hq]
        rw [this] at hk
        simpa using hk
/-- One slice laid into those that are there, as the document's answer does. -/
structure M3 where
  s : Wn
  ah : List Wn
  be : List Wn
def mstep (x : M3) (t : Wn) : M3 :=
  if t.2 < x.s.1 then ⟨x.s, x.ah ++ [t], x.be⟩ else if x.s.2 < t.1 then ⟨x.s, x.ah, x.be ++ [t]⟩ else ⟨(min x.s.1 t.1, max x.s.2 t.2), x.ah, x.be⟩
def mrun (s : Wn) (out : List Wn) : M3 := out.foldl mstep ⟨s, [], []⟩
def mone (out : List Wn) (s : Wn) : List Wn := if s.2 ≤ s.1 then out else (mrun s out).ah ++ [(mrun s out).s] ++ (mrun s out).be
def mrgL (l : List Wn) : List Wn := l.foldl mone []
theorem mrun_snoc (s : Wn) (out : List Wn) (t : Wn) : mrun s (out ++ [t]) = mstep (mrun s out) t := by simp [mrun]
theorem mrun_take (s : Wn) (out : List Wn) (k : Nat) (h : k < out.length) : mrun s (out.take (k + 1)) = mstep (mrun s (out.take k)) out[k] := by
  rw [List.take_succ_eq_append_getElem h, mrun_snoc]
theorem mrgL_snoc (l : List Wn) (s : Wn) : mrgL (l ++ [s]) = mone (mrgL l) s := by simp [mrgL]
theorem mrgL_take (l : List Wn) (k : Nat) (h : k < l.length) : mrgL (l.take (k + 1)) = mone (mrgL (l.take k)) l[k] := by
  rw [List.take_succ_eq_append_getElem h, mrgL_snoc]
/-- What holds while one is laid. -/
structure MI (s0 : Wn) (out : List Wn) (x : M3) : Prop where
  big : x.s.1 < x.s.2
  ah1 : canonM x.ah
  ah2 : ∀ t ∈ x.ah, t.2 < x.s.1
  be1 : canonM x.be
  be2 : ∀ t ∈ x.be, x.s.2 < t.1
  len : x.ah.length + x.be.length ≤ out.length
  bytes : ∀ k, (insd (x.ah ++ x.s :: x.be) k) = (insd out k || (decide (s0.1 ≤ k) && decide (k < s0.2)))
  lastA : ∀ t ∈ x.ah, t ∈ out
  lastB : ∀ t ∈ x.be, t ∈ out
  ends : x.s.2 = s0.2 ∨ ∃ t ∈ out, x.s.2 = t.2
theorem canon_snoc {l : List Wn} {t : Wn} (h : canonM l) (h1 : t.1 < t.2) (h2 : ∀ u ∈ l, u.2 < t.1) : canonM (l ++ [t]) := by
  refine ⟨fun u hu => ?_, ?_⟩
  · rcases List.mem_append.1 hu with hu | hu
    · exact h.1 u hu
    · rw [List.mem_singleton.1 hu]; exact h1
  · rw [List.pairwise_append]
    refine ⟨h.2, List.pairwise_singleton _ _, fun a ha b hb => ?_⟩
    rw [List.mem_singleton.1 hb]; exact h2 a ha
theorem bor1 : ∀ {A X B Q S T : Bool}, (A || (X || B)) = (Q || S) → ((A || T) || (X || B)) = ((Q || T) || S) := by decide
theorem bor2 : ∀ {A X B Q S T : Bool}, (A || (X || B)) = (Q || S) → (A || (X || (B || T))) = ((Q || T) || S) := by decide
theorem bor3 : ∀ {A X B Q S T : Bool}, (A || (X || B)) = (Q || S) → (A || ((X || T) || B)) = ((Q || T) || S) := by decide
theorem mrun_ok (s : Wn) (hs : s.1 < s.2) : ∀ (out : List Wn), canonM out → MI s out (mrun s out) := by
  intro out
  induction hn : out.length generalizing out with
  | zero =>
    intro _
    obtain rfl := List.eq_nil_of_length_eq_zero hn
    refine ⟨hs, canon_nil, by simp [mrun], canon_nil, by simp [mrun], by simp [mrun], fun k => ?_, by simp [mrun], by simp [mrun], .inl rfl⟩
    show insd ([] ++ s :: []) k = _
    rw [List.nil_append, insd_cons, insd_nil, Bool.or_false, Bool.false_or]
  | succ n ih =>
    intro hc
    rcases List.eq_nil_or_concat out with h | ⟨q, t, h⟩
    · rw [h] at hn; simp at hn
    · rw [List.concat_eq_append] at h
      subst h
      have hq : canonM q := ⟨fun u hu => hc.1 u (List.mem_append_left _ hu), (List.pairwise_append.1 hc.2).1⟩
      have ht : t.1 < t.2 := hc.1 t (by simp)
      have hqt : ∀ u ∈ q, u.2 < t.1 := fun u hu => (List.pairwise_append.1 hc.2).2.2 u hu t (by simp)
      obtain ⟨b, a1, a2, b1, b2, ln, by_, la, lb, en⟩ := ih q (by simpa using hn) hq
      rw [mrun_snoc]
      generalize mrun s q = x at *
      have hbk : ∀ k, insd (q ++ [t]) k = (insd q k || (decide (t.1 ≤ k) && decide (k < t.2))) := by
        intro k; rw [insd_app, insd_cons, insd_nil, Bool.or_false]
      unfold mstep
      split
      · rename_i h1
        refine ⟨b, canon_snoc a1 ht (fun u hu => hqt u (la u hu)), ?_, b1, b2, ?_, fun k => ?_, ?_, ?_, ?_⟩
        · intro u hu
          rcases List.mem_append.1 hu with hu | hu
          · exact a2 u hu
          · rw [List.mem_singleton.1 hu]; exact h1
        · simp only [List.length_append, List.length_singleton]; omega
        · have := by_ k
          rw [insd_app, insd_cons] at this
          rw [hbk, insd_app, insd_app, insd_cons, insd_cons, insd_nil, Bool.or_false]
          exact bor1 this
        · intro u hu
          rcases List.mem_append.1 hu with hu | hu
          · exact List.mem_append_left _ (la u hu)
          · exact List.mem_append_right _ hu
        · intro u hu; exact List.mem_append_left _ (lb u hu)
        · rcases en with en | ⟨u, hu, en⟩
          · exact .inl en
          · exact .inr ⟨u, List.mem_append_left _ hu, en⟩
      · split
        · rename_i h1 h2
          refine ⟨b, a1, a2, canon_snoc b1 ht (fun u hu => hqt u (lb u hu)), ?_, ?_, fun k => ?_, ?_, ?_, ?_⟩
          · intro u hu
            rcases List.mem_append.1 hu with hu | hu
            · exact b2 u hu
            · rw [List.mem_singleton.1 hu]; exact h2
          · simp only [List.length_append, List.length_singleton]; omega
          · have := by_ k
            rw [insd_app, insd_cons] at this
            rw [hbk, insd_app, insd_cons, insd_app, insd_cons, insd_nil, Bool.or_false]
            exact bor2 this
          · intro u hu; exact List.mem_append_left _ (la u hu)
          · intro u hu
            rcases List.mem_append.1 hu with hu | hu
            · exact List.mem_append_left _ (lb u hu)
            · exact List.mem_append_right _ hu
          · rcases en with en | ⟨u, hu, en⟩
            · exact .inl en
            · exact .inr ⟨u, List.mem_append_left _ hu, en⟩
        · rename_i h1 h2
          have hbe : x.be = [] := by
            cases hx : x.be with
            | nil => rfl
            | cons u r =>
              have h3 := b2 u (by rw [hx]; simp)
              have h4 := hqt u (lb u (by rw [hx]; simp))
              have h5 := b1.1 u (by rw [hx]; simp)
              omega
          refine ⟨by simp only; omega, a1, ?_, b1, ?_, ?_, fun k => ?_, ?_, ?_, ?_⟩
          · intro u hu
            have h3 := a2 u hu
            have h4 := hqt u (la u hu)
            simp only; omega
          · rw [hbe]; simp
          · simp only [List.length_append, List.length_singleton]; omega
          · have := by_ k
            rw [insd_app, insd_cons] at this
            rw [hbk, insd_app, insd_cons]
            have e : (decide (min x.s.1 t.1 ≤ k) && decide (k < max x.s.2 t.2)) = ((decide (x.s.1 ≤ k) && decide (k < x.s.2)) || (decide (t.1 ≤ k) && decide (k < t.2))) := by
              rw [Bool.eq_iff_iff]
              simp only [Bool.and_eq_true, Bool.or_eq_true, decide_eq_true_eq]
              omega
            simp only [e]
            exact bor3 this
          · intro u hu; exact List.mem_append_left _ (la u hu)
          · intro u hu; exact List.mem_append_left _ (lb u hu)
          · simp only
            rcases Int.le_total x.s.2 t.2 with hle | hle
            · exact .inr ⟨t, by simp, by omega⟩
            · rw [Int.max_eq_left hle]
              rcases en with en | ⟨u, hu, en⟩
              · exact .inl en
              · exact .inr ⟨u, List.mem_append_left _ hu, en⟩
theorem mone_ok {out : List Wn} (h : canonM out) (s : Wn) : canonM (mone out s) ∧ (mone out s).length ≤ out.length + 1 ∧ ∀ k, insd (mone out s) k = (insd out k || (decide (s.1 ≤ k) && decide (k < s.2))) := by
  unfold mone
  split
  · rename_i hs
    refine ⟨h, by omega, fun k => ?_⟩
    have : (decide (s.1 ≤ k) && decide (k < s.2)) = false := by
      rw [← Bool.decide_and, decide_eq_false (by omega)]
    rw [this, Bool.or_false]
  · rename_i hs
    obtain ⟨b, a1, a2, b1, b2, ln, by_, la, lb, en⟩ := mrun_ok s (by omega) out h
    refine ⟨?_, ?_, fun k => ?_⟩
    · refine ⟨fun t ht => ?_, ?_⟩
      · rcases List.mem_append.1 ht with ht | ht
        · rcases List.mem_append.1 ht with ht | ht
          · exact a1.1 t ht
          · rw [List.mem_singleton.1 ht]; exact b
        · exact b1.1 t ht
      · rw [List.pairwise_append]
        refine ⟨(canon_snoc a1 b a2).2, b1.2, fun x hx y hy => ?_⟩
        rcases List.mem_append.1 hx with hx | hx
        · have h1 := a2 x hx
          have h2 := b2 y hy
          omega
        · rw [List.mem_singleton.1 hx]; exact b2 y hy
    · simp only [List.length_append, List.length_singleton]; omega
    · rw [← by_ k, List.append_assoc]; rfl
theorem mrgL_ok (l : List Wn) : canonM (mrgL l) ∧ (mrgL l).length ≤ l.length ∧ ∀ k, insd (mrgL l) k = insd l k := by
  have gen : ∀ (l out : List Wn), canonM out → canonM (l.foldl mone out) ∧ (l.foldl mone out).length ≤ out.length + l.length ∧ ∀ k, insd (l.foldl mone out) k = (insd out k || insd l k) := by
    intro l
    induction l with
    | nil => intro out h; exact ⟨h, by simp, fun k => by rw [insd_nil]; simp⟩
    | cons s l ih =>
      intro out h
      obtain ⟨h1, h2, h3⟩ := mone_ok h s
      obtain ⟨h4, h5, h6⟩ := ih _ h1
      rw [List.foldl_cons]
      refine ⟨h4, by rw [List.length_cons]; omega, fun k => ?_⟩
      rw [h6, h3, insd_cons, Bool.or_assoc]
  have := gen l [] canon_nil
  unfold mrgL
  refine ⟨this.1, by simpa using this.2.1, fun k => by rw [this.2.2 k, insd_nil]; rfl⟩
/-- What is merged is known by its bytes. -/
theorem mrgL_is {l m : List Wn} (h : canonM m) (hb : ∀ k, insd m k = insd l k) : m = mrgL l :=
  canon_one m (mrgL l) h (mrgL_ok l).1 (fun k => by rw [hb, (mrgL_ok l).2.2 k])
theorem mrgL_self {m : List Wn} (h : canonM m) : mrgL m = m := (mrgL_is h (fun _ => rfl)).symm
theorem mrgL_twice (l : List Wn) : mrgL (mrgL l) = mrgL l := mrgL_self (mrgL_ok l).1
theorem mrgL_turn (a b : List Wn) : mrgL (a ++ b) = mrgL (b ++ a) := by
  refine canon_one _ _ (mrgL_ok _).1 (mrgL_ok _).1 (fun k => ?_)
  rw [(mrgL_ok _).2.2 k, (mrgL_ok _).2.2 k, insd_app, insd_app, Bool.or_comm]
theorem mrgL_parts (a b : List Wn) : mrgL (mrgL a ++ mrgL b) = mrgL (a ++ b) := by
  refine canon_one _ _ (mrgL_ok _).1 (mrgL_ok _).1 (fun k => ?_)
  rw [(mrgL_ok _).2.2 k, (mrgL_ok _).2.2 k, insd_app, insd_app, (mrgL_ok _).2.2 k, (mrgL_ok _).2.2 k]
end Go.Proofs.YtkmbhgbmdeoppacDoor

/-
  Slices of a body read out of one text, one behind the other, in plain lists; no program is named here.
-/
namespace Go.Proofs.YtkmbhgbmdeoppacDoor
open Go.RowKit

def c4 : List UInt8 := [13, 10, 13, 10]
theorem index_at_c4 (l t : List UInt8) (h : ∀ b ∈ l, b ≠ 13) : Lib.index (l ++ (c4 ++ t)) c4 = (l.length : Int) := by
  unfold c4
  induction l with
  | nil => simp [Lib.index]
  | cons b l ih =>
    have ih := ih fun c hc => h c (List.mem_cons_of_mem _ hc)
    have hb : b ≠ 13 := h b (List.mem_cons_self ..)
    have hp : ([13, 10, 13, 10] : List UInt8).isPrefixOf (b :: (l ++ ([13, 10, 13, 10] ++ t))) = false := by
      simp [List.isPrefixOf]
      intro e; exact absurd e.symm hb
    rw [List.cons_append]
    unfold Lib.index
    rw [hp, ih]
    have : ((l.length : Int) == -1) = false := by rw [beq_eq_false_iff_ne]; omega
    rw [this]; simp
theorem bdl_same {b body body' : List UInt8} {l : List Wn} (hl : body.length = body'.length) (h : ∀ x ∈ l, ctOf body x = ctOf body' x) : bdl b body l = bdl b body' l := by
  unfold bdl
  rw [hl]
  have : l.flatMap (fun x => ptB b body'.length x (ctOf body x)) = l.flatMap (fun x => ptB b body'.length x (ctOf body' x)) := by
    induction l with
    | nil => rfl
    | cons x l ih =>
      rw [List.flatMap_cons, List.flatMap_cons, h x (by simp), ih (fun y hy => h y (by simp [hy]))]
  rw [this]
theorem ct_same {body body' : List UInt8} {x : Wn} (h0 : 0 ≤ x.1) (h : ∀ k : Nat, x.1 ≤ k → (k : Int) < x.2 → body[k]? = body'[k]?) : ctOf body x = ctOf body' x := by
  unfold ctOf
  apply List.ext_getElem?
  intro i
  rw [List.getElem?_take, List.getElem?_take]
  split
  · rw [List.getElem?_drop, List.getElem?_drop]
    exact h _ (by omega) (by omega)
  · rfl
/-- Where the reading stands. -/
structure UI (b : List UInt8) (size : Int) (s : List UInt8) (l : List Wn) (ts : List (List UInt8)) (bd rest : List UInt8) : Prop where
  len : (bd.length : Int) = size
  both : ts.length = l.length
  oks : ∀ x ∈ l, 0 ≤ x.1 ∧ x.1 < x.2 ∧ x.2 ≤ size
  fwd : ∀ (body : List UInt8) (l' : List Wn), (body.length : Int) = size → bdl b body l' = (s, 0) → ∃ l2, l' = l ++ l2 ∧ rest = l2.flatMap (fun x => ptB b size x (ctOf body x)) ++ tlB b ∧ ts = l.map (ctOf body) ∧ ∀ k : Nat, insd l k = true → bd[k]? = body[k]?
theorem UI.start (b : List UInt8) (size : Nat) (s bd : List UInt8) (h : bd.length = size) : UI b size s [] [] bd s := by
  refine ⟨by omega, rfl, by simp, fun body l' h1 h2 => ⟨l', rfl, ?_, rfl, fun k hk => by cases hk⟩⟩
  have := (bdl_is h2).2.2.2.2
  rw [this]
  have e : (body.length : Int) = (size : Int) := h1
  simp only [e]
theorem UI.done {b : List UInt8} {size : Int} {s : List UInt8} {l : List Wn} {ts : List (List UInt8)} {bd rest : List UInt8} (h : UI b size s l ts bd rest) (ho : bdl b bd l = (s, 0)) : UnbR b s size l ts 0 := by
  refine .inl ⟨rfl, bd, h.len, ho, ?_⟩
  obtain ⟨_, _, _, h3, _⟩ := h.fwd bd l h.len ho
  exact h3
theorem UI.fail {b : List UInt8} {size : Int} {s : List UInt8} {l : List Wn} {ts : List (List UInt8)} {bd rest : List UInt8} (h : UI b size s l ts bd rest) (hp : Lib.hasPrefix rest (hdB b) = false) (ho : bdl b bd l ≠ (s, 0)) : UnbR b s size [] [] 3 := by
  refine .inr ⟨rfl, rfl, rfl, fun body l' h1 h2 => ?_⟩
  obtain ⟨l2, e1, e2, e3, e4⟩ := h.fwd body l' h1 h2
  have h0 : l2 = [] := by
    cases l2 with
    | nil => rfl
    | cons x l2 =>
      exfalso
      rw [e2, List.flatMap_cons] at hp
      unfold ptB at hp
      simp only [List.append_assoc] at hp
      rw [hd_pre] at hp; cases hp
  subst h0
  rw [List.append_nil] at e1
  subst e1
  apply ho
  rw [bdl_same (body' := body) (by have := h.len; omega) ?_]
  · exact h2
  · intro x hx
    obtain ⟨k1, k2, k3⟩ := h.oks x hx
    refine ct_same k1 (fun k hk1 hk2 => e4 k ?_)
    rw [insd_iff]
    exact ⟨x, hx, hk1, hk2⟩
/-- What is behind a head, if it can be read. -/
theorem UI.next {b : List UInt8} {size : Int} {s : List UInt8} {l : List Wn} {ts : List (List UInt8)} {bd rest : List UInt8} (h : UI b size s l ts bd rest) (hp : Lib.hasPrefix rest (hdB b) = true) (body : List UInt8) (l' : List Wn) (h1 : (body.length : Int) = size) (h2 : bdl b body l' = (s, 0)) :
    ∃ x l3, okC x size = true ∧ l' = l ++ x :: l3 ∧ rest.drop (hdB b).length = ctB x size ++ (c4 ++ (ctOf body x ++ ([13, 10] ++ (l3.flatMap (fun x => ptB b size x (ctOf body x)) ++ tlB b)))) ∧ (ctOf body x).length = x.2.toNat - x.1.toNat := by
  obtain ⟨l2, e1, e2, e3, e4⟩ := h.fwd body l' h1 h2
  cases l2 with
  | nil =>
    exfalso
    rw [e2, List.flatMap_nil, List.nil_append, tl_pre] at hp; cases hp
  | cons x l3 =>
    have hx : okC x body.length = true := (bdl_is h2).2.2.2.1 x (by rw [e1]; simp)
    refine ⟨x, l3, by rw [← h1]; exact hx, e1, ?_, ctOf_len hx⟩
    rw [e2, List.flatMap_cons]
    unfold ptB
    simp only [List.append_assoc]
    rw [hd_drop]
    rfl
/-- It can't be read, so it is no such text. -/
theorem UI.bad {b : List UInt8} {size : Int} {s : List UInt8} {l : List Wn} {ts : List (List UInt8)} {bd rest : List UInt8} (h : UI b size s l ts bd rest) (hp : Lib.hasPrefix rest (hdB b) = true)
    (hbad : Lib.index (rest.drop (hdB b).length) c4 < 0 ∨ ∃ k : Nat, Lib.index (rest.drop (hdB b).length) c4 = k ∧ ∃ x n e, paC ((rest.drop (hdB b).length).take k) = ((x, n), e) ∧ (e ≠ 0 ∨ ((rest.drop (hdB b).length).length : Int) < k + 6 + (x.2 - x.1) ∨ size < x.2)) : UnbR b s size [] [] 3 := by
  refine .inr ⟨rfl, rfl, rfl, fun body l' h1 h2 => ?_⟩
  obtain ⟨x, l3, hx, e1, e2, e3⟩ := h.next hp body l' h1 h2
  have hi := index_at_c4 (ctB x size) (ctOf body x ++ ([13, 10] ++ (l3.flatMap (fun x => ptB b size x (ctOf body x)) ++ tlB b))) (ct_no13 x size)
  rw [← e2] at hi
  obtain ⟨o1, o2, o3, o4⟩ := okC_is hx
  rcases hbad with h3 | ⟨k, h3, y, n, e, h4, h5⟩
  · omega
  · obtain rfl : k = (ctB x size).length := by omega
    have ht : (rest.drop (hdB b).length).take (ctB x size).length = ctB x size := by rw [e2]; simp
    rw [ht, paC_back hx] at h4
    obtain ⟨h6, rfl⟩ := Prod.mk.inj h4
    obtain ⟨rfl, rfl⟩ := Prod.mk.inj h6
    rcases h5 with h5 | h5 | h5
    · exact h5 rfl
    · rw [e2] at h5
      simp only [List.length_append, e3] at h5
      unfold c4 at h5
      simp only [List.length_cons, List.length_nil] at h5
      omega
    · omega
/-- The text with a piece written into it. -/
def ovl (bd : List UInt8) (p : Nat) (t : List UInt8) : List UInt8 := bd.take p ++ (t ++ bd.drop (p + t.length))
theorem ovl_len {bd t : List UInt8} {p : Nat} (h : p + t.length ≤ bd.length) : (ovl bd p t).length = bd.length := by
  unfold ovl
  simp only [List.length_append, List.length_take, List.length_drop]; omega
theorem ovl_in {bd t : List UInt8} {p k : Nat} (h : p + t.length ≤ bd.length) (h1 : p ≤ k) (h2 : k < p + t.length) : (ovl bd p t)[k]? = t[k - p]? := by
  unfold ovl
  rw [List.getElem?_append_right (by rw [List.length_take]; omega), List.length_take, List.getElem?_append_left (by omega)]
  congr 1; omega
theorem ovl_out {bd t : List UInt8} {p k : Nat} (h : p + t.length ≤ bd.length) (h1 : k < p ∨ p + t.length ≤ k) : (ovl bd p t)[k]? = bd[k]? := by
  unfold ovl
  rcases h1 with h1 | h1
  · rw [List.getElem?_append_left (by rw [List.length_take]; omega), List.getElem?_take, if_pos h1]
  · rw [List.getElem?_append_right (by rw [List.length_take]; omega), List.length_take, List.getElem?_append_right (by omega), List.getElem?_drop]
    congr 1; omega
theorem UI.step {b : List UInt8} {size : Int} {s : List UInt8} {l : List Wn} {ts : List (List UInt8)} {bd rest : List UInt8} (h : UI b size s l ts bd rest) (hp : Lib.hasPrefix rest (hdB b) = true) (k : Nat) (x : Wn) (n : Int)
    (hk : Lib.index (rest.drop (hdB b).length) c4 = k) (hc : paC ((rest.drop (hdB b).length).take k) = ((x, n), 0)) (hl : (k : Int) + 6 + (x.2 - x.1) ≤ ((rest.drop (hdB b).length).length : Int)) (hs : x.2 ≤ size) :
    UI b size s (l ++ [x]) (ts ++ [((rest.drop (hdB b).length).drop (k + 4)).take (x.2.toNat - x.1.toNat)]) (ovl bd x.1.toNat (((rest.drop (hdB b).length).drop (k + 4)).take (x.2.toNat - x.1.toNat))) ((rest.drop (hdB b).length).drop (k + 6 + (x.2.toNat - x.1.toNat))) := by
  obtain ⟨hx, _⟩ := paC_ok hc
  obtain ⟨o1, o2, o3, o4⟩ := okC_is hx
  have htl : (((rest.drop (hdB b).length).drop (k + 4)).take (x.2.toNat - x.1.toNat)).length = x.2.toNat - x.1.toNat := by
    rw [List.length_take, List.length_drop]; omega
  have hfit : x.1.toNat + (((rest.drop (hdB b).length).drop (k + 4)).take (x.2.toNat - x.1.toNat)).length ≤ bd.length := by
    rw [htl]; have := h.len; omega
  refine ⟨by rw [ovl_len hfit]; exact h.len, by simp [h.both], ?_, ?_⟩
  · intro y hy
    rcases List.mem_append.1 hy with hy | hy
    · exact h.oks y hy
    · rw [List.mem_singleton.1 hy]; exact ⟨o1, o2, hs⟩
  · intro body l' h1 h2
    obtain ⟨y, l3, hy, e1, e2, e3⟩ := h.next hp body l' h1 h2
    obtain ⟨l2, f1, f2, f3, f4⟩ := h.fwd body l' h1 h2
    have hi := index_at_c4 (ctB y size) (ctOf body y ++ ([13, 10] ++ (l3.flatMap (fun x => ptB b size x (ctOf body x)) ++ tlB b))) (ct_no13 y size)
    rw [← e2] at hi
    obtain rfl : k = (ctB y size).length := by omega
    have ht : (rest.drop (hdB b).length).take (ctB y size).length = ctB y size := by rw [e2]; simp
    rw [ht, paC_back hy] at hc
    obtain ⟨h6, _⟩ := Prod.mk.inj hc
    obtain ⟨rfl, rfl⟩ := Prod.mk.inj h6
    have hd4 : (rest.drop (hdB b).length).drop ((ctB y size).length + 4) = ctOf body y ++ ([13, 10] ++ (l3.flatMap (fun x => ptB b size x (ctOf body x)) ++ tlB b)) := by
      rw [e2, ← List.append_assoc, show (ctB y size).length + 4 = (ctB y size ++ c4).length by simp [c4], List.drop_left]
    have htx : ((rest.drop (hdB b).length).drop ((ctB y size).length + 4)).take (y.2.toNat - y.1.toNat) = ctOf body y := by
      rw [hd4, ← e3, List.take_left]
    have hrs : (rest.drop (hdB b).length).drop ((ctB y size).length + 6 + (y.2.toNat - y.1.toNat)) = l3.flatMap (fun x => ptB b size x (ctOf body x)) ++ tlB b := by
      have e : (ctB y size).length + 6 + (y.2.toNat - y.1.toNat) = ((ctB y size).length + 4) + ((ctOf body y).length + 2) := by rw [e3]; omega
      rw [e, ← List.drop_drop, hd4, ← List.append_assoc, show (ctOf body y).length + 2 = (ctOf body y ++ [13, 10]).length by simp, List.drop_left]
    rw [htx] at hfit ⊢
    refine ⟨l3, by rw [e1]; simp, hrs, by rw [f3]; simp, fun q hq => ?_⟩
    by_cases hin : y.1.toNat ≤ q ∧ q < y.1.toNat + (ctOf body y).length
    · rw [ovl_in hfit hin.1 hin.2]
      unfold ctOf
      rw [List.getElem?_take, if_pos (by rw [e3] at hin; omega), List.getElem?_drop]
      congr 1; omega
    · rw [ovl_out hfit (by omega)]
      apply f4
      rw [insd_app, Bool.or_eq_true] at hq
      rcases hq with hq | hq
      · exact hq
      · exfalso
        obtain ⟨z, hz, hz1, hz2⟩ := (insd_iff _ _).1 hq
        rw [List.mem_singleton.1 hz] at hz1 hz2
        rw [e3] at hin
        omega
end Go.Proofs.YtkmbhgbmdeoppacDoor

/-
  What is read of a bundle part by part, and the body that is made of what was read; no program is named here.
-/
namespace Go.Proofs.YtkmbhgbmdeoppacDoor
open Go.RowKit

/-- One part: its slice, its bytes, what stands behind, and whether it was one. -/
def rdP (b rest : List UInt8) (size : Int) : (Wn × List UInt8) × (List UInt8 × Bool) :=
  if (cutPre rest (hdB b)).2 = true ∧ (Lib.cut (cutPre rest (hdB b)).1 c4).2.2 = true ∧ (paC (Lib.cut (cutPre rest (hdB b)).1 c4).1).2 = 0 ∧ (paC (Lib.cut (cutPre rest (hdB b)).1 c4).1).1.2 = size ∧
      (paC (Lib.cut (cutPre rest (hdB b)).1 c4).1).1.1.2 - (paC (Lib.cut (cutPre rest (hdB b)).1 c4).1).1.1.1 ≤ ((Lib.cut (cutPre rest (hdB b)).1 c4).2.1.length : Int) then
    (((paC (Lib.cut (cutPre rest (hdB b)).1 c4).1).1.1, (Lib.cut (cutPre rest (hdB b)).1 c4).2.1.take ((paC (Lib.cut (cutPre rest (hdB b)).1 c4).1).1.1.2 - (paC (Lib.cut (cutPre rest (hdB b)).1 c4).1).1.1.1).toNat),
      cutPre ((Lib.cut (cutPre rest (hdB b)).1 c4).2.1.drop ((paC (Lib.cut (cutPre rest (hdB b)).1 c4).1).1.1.2 - (paC (Lib.cut (cutPre rest (hdB b)).1 c4).1).1.1.1).toNat) [13, 10])
  else (((0, 0), []), ([], false))
theorem rdP_of {b rest r1 c r2 : List UInt8} {op told : Bool} {x : Wn} {n e size : Int} (h1 : cutPre rest (hdB b) = (r1, op)) (h2 : Lib.cut r1 c4 = (c, r2, told)) (h3 : paC c = ((x, n), e)) :
    rdP b rest size = if op = true ∧ told = true ∧ e = 0 ∧ n = size ∧ x.2 - x.1 ≤ (r2.length : Int) then ((x, r2.take (x.2 - x.1).toNat), cutPre (r2.drop (x.2 - x.1).toNat) [13, 10]) else (((0, 0), []), ([], false)) := by
  unfold rdP
  simp only [h1, h2, h3]
theorem cutPre_app (p r : List UInt8) : cutPre (p ++ r) p = (r, true) := by
  unfold cutPre Lib.trimPrefix
  have : Lib.hasPrefix (p ++ r) p = true := by
    unfold Lib.hasPrefix
    exact List.isPrefixOf_iff_prefix.2 ⟨r, rfl⟩
  rw [this]
  simp
theorem cut_c4 (l r : List UInt8) (h : ∀ b ∈ l, b ≠ 13) : Lib.cut (l ++ (c4 ++ r)) c4 = (l, r, true) := by
  have hi := index_at_c4 l r h
  unfold Lib.cut
  rw [hi, if_pos (by omega), Int.toNat_natCast, List.take_left, ← List.append_assoc]
  rw [show l.length + c4.length = (l ++ c4).length by simp, List.drop_left]
theorem rdP_next {b : List UInt8} {size : Int} {x : Wn} {t : List UInt8} (q : List UInt8) (hx : okC x size = true) (ht : t.length = x.2.toNat - x.1.toNat) : rdP b (ptB b size x t ++ q) size = ((x, t), (q, true)) := by
  obtain ⟨h1, h2, h3, h4⟩ := okC_is hx
  have e : ptB b size x t ++ q = hdB b ++ (ctB x size ++ (c4 ++ (t ++ ([13, 10] ++ q)))) := by
    unfold ptB c4
    simp only [List.append_assoc]
  have hn : (x.2 - x.1).toNat = t.length := by omega
  rw [e, rdP_of (cutPre_app _ _) (cut_c4 _ _ (ct_no13 x size)) (paC_back hx), if_pos ⟨rfl, rfl, rfl, rfl, by rw [List.length_append]; omega⟩, hn, List.take_left, List.drop_left, cutPre_app]
theorem rdP_is {b rest : List UInt8} {size : Int} {x : Wn} {t q : List UInt8} (h : rdP b rest size = ((x, t), (q, true))) : okC x size = true ∧ t.length = x.2.toNat - x.1.toNat := by
  obtain ⟨r1, op, h1⟩ : ∃ r1 op, cutPre rest (hdB b) = (r1, op) := ⟨_, _, rfl⟩
  obtain ⟨c, r2, told, h2⟩ : ∃ c r2 told, Lib.cut r1 c4 = (c, r2, told) := ⟨_, _, _, rfl⟩
  obtain ⟨y, n, e, h3⟩ : ∃ y n e, paC c = ((y, n), e) := ⟨_, _, _, rfl⟩
  rw [rdP_of h1 h2 h3] at h
  split at h
  · rename_i hc
    obtain ⟨_, _, rfl, rfl, hl⟩ := hc
    obtain ⟨g1, _⟩ := Prod.mk.inj h
    obtain ⟨rfl, rfl⟩ := Prod.mk.inj g1
    have ho := (paC_ok h3).1
    have := okC_is ho
    exact ⟨ho, by rw [List.length_take]; omega⟩
  · cases (Prod.mk.inj (Prod.mk.inj h).2).2
theorem rdP_tl (b : List UInt8) (size : Int) : (rdP b (tlB b) size).2.2 = false := by
  obtain ⟨r1, h1⟩ : ∃ r1, cutPre (tlB b) (hdB b) = (r1, false) := ⟨_, by unfold cutPre; rw [tl_pre]⟩
  obtain ⟨c, r2, told, h2⟩ : ∃ c r2 told, Lib.cut r1 c4 = (c, r2, told) := ⟨_, _, _, rfl⟩
  obtain ⟨y, n, e, h3⟩ : ∃ y n e, paC c = ((y, n), e) := ⟨_, _, _, rfl⟩
  rw [rdP_of h1 h2 h3, if_neg (by simp)]
/-- Where the reading of parts stands. -/
structure DI (b : List UInt8) (size : Int) (s : List UInt8) (l : List Wn) (ts : List (List UInt8)) (rest : List UInt8) : Prop where
  both : ts.length = l.length
  oks : ∀ x ∈ l, okC x size = true
  lens : ∀ (i : Nat) (h : i < l.length) (h2 : i < ts.length), ts[i].length = (l[i]).2.toNat - (l[i]).1.toNat
  fwd : ∀ (body : List UInt8) (l' : List Wn), (body.length : Int) = size → bdl b body l' = (s, 0) → ∃ l2, l' = l ++ l2 ∧ rest = l2.flatMap (fun x => ptB b size x (ctOf body x)) ++ tlB b ∧ ts = l.map (ctOf body)
theorem DI.start (b : List UInt8) (size : Int) (s : List UInt8) : DI b size s [] [] s := by
  refine ⟨rfl, by simp, fun i h => by simp at h, fun body l' h1 h2 => ⟨l', rfl, ?_, rfl⟩⟩
  rw [(bdl_is h2).2.2.2.2, h1]
theorem DI.step {b : List UInt8} {size : Int} {s : List UInt8} {l : List Wn} {ts : List (List UInt8)} {rest : List UInt8} (h : DI b size s l ts rest) {x : Wn} {t q : List UInt8} (hr : rdP b rest size = ((x, t), (q, true))) :
    DI b size s (l ++ [x]) (ts ++ [t]) q := by
  obtain ⟨hx, ht⟩ := rdP_is hr
  have hb := h.both
  refine ⟨by simp [hb], ?_, ?_, ?_⟩
  · intro y hy
    rcases List.mem_append.1 hy with hy | hy
    · exact h.oks y hy
    · rw [List.mem_singleton.1 hy]; exact hx
  · intro i h1 h2
    by_cases hi : i < l.length
    · have h3 : i < ts.length := by omega
      rw [List.getElem_append_left h3, List.getElem_append_left hi]
      exact h.lens i hi h3
    · have hi2 : i = l.length := by simp at h1; omega
      subst hi2
      rw [List.getElem_append_right (by omega), List.getElem_append_right (by omega)]
      simp only [List.getElem_singleton]; exact ht
  · intro body l' h1 h2
    obtain ⟨l2, e1, e2, e3⟩ := h.fwd body l' h1 h2
    obtain ⟨_, _, _, hok, _⟩ := bdl_is h2
    cases l2 with
    | nil =>
      exfalso
      rw [List.flatMap_nil, List.nil_append] at e2
      have := rdP_tl b size
      rw [← e2, hr] at this; cases this
    | cons y l3 =>
      have hy : okC y body.length = true := hok y (by rw [e1]; simp)
      have hn := rdP_next (b := b) (l3.flatMap (fun x => ptB b size x (ctOf body x)) ++ tlB b) (h1 ▸ hy) (ctOf_len hy)
      rw [List.flatMap_cons, List.append_assoc] at e2
      rw [← e2, hr] at hn
      obtain ⟨g1, g2⟩ := Prod.mk.inj hn
      obtain ⟨rfl, rfl⟩ := Prod.mk.inj g1
      obtain ⟨rfl, _⟩ := Prod.mk.inj g2
      exact ⟨l3, by rw [e1]; simp, rfl, by rw [e3]; simp⟩
/-- What is true when no part is read any more: whatever was told so has these slices. -/
def DEnd (b : List UInt8) (size : Int) (s : List UInt8) (l : List Wn) (ts : List (List UInt8)) : Prop :=
  ∀ (body : List UInt8) (l' : List Wn), (body.length : Int) = size → bdl b body l' = (s, 0) → l' = l ∧ ts = l.map (ctOf body)
theorem DI.stop {b : List UInt8} {size : Int} {s : List UInt8} {l : List Wn} {ts : List (List UInt8)} {rest : List UInt8} (h : DI b size s l ts rest) (hr : (rdP b rest size).2.2 = false) : DEnd b size s l ts := by
  intro body l' h1 h2
  obtain ⟨l2, e1, e2, e3⟩ := h.fwd body l' h1 h2
  obtain ⟨_, _, _, hok, _⟩ := bdl_is h2
  cases l2 with
  | nil => exact ⟨by rw [e1]; simp, e3⟩
  | cons y l3 =>
    exfalso
    have hy : okC y body.length = true := hok y (by rw [e1]; simp)
    have hn := rdP_next (b := b) (l3.flatMap (fun x => ptB b size x (ctOf body x)) ++ tlB b) (h1 ▸ hy) (ctOf_len hy)
    rw [List.flatMap_cons, List.append_assoc] at e2
    rw [← e2] at hn
    rw [hn] at hr; cases hr
theorem DI.full {b : List UInt8} {size : Int} {s : List UInt8} {l : List Wn} {ts : List (List UInt8)} {rest : List UInt8} (h : DI b size s l ts rest) (hl : 20 < l.length) : DEnd b size s l ts := by
  intro body l' h1 h2
  obtain ⟨l2, e1, _, _⟩ := h.fwd body l' h1 h2
  obtain ⟨_, _, h20, _⟩ := bdl_is h2
  rw [e1, List.length_append] at h20
  omega

/-- The body that is made of the parts. -/
def ovls (bd : List UInt8) (l : List Wn) (ts : List (List UInt8)) : List UInt8 := (l.zip ts).foldl (fun bd x => ovl bd x.1.1.toNat x.2) bd
theorem ovls_take (bd : List UInt8) (l : List Wn) (ts : List (List UInt8)) (k : Nat) (h : k < l.length) (h2 : k < ts.length) : ovls bd (l.take (k + 1)) (ts.take (k + 1)) = ovl (ovls bd (l.take k) (ts.take k)) (l[k]).1.toNat ts[k] := by
  unfold ovls
  rw [List.take_succ_eq_append_getElem h, List.take_succ_eq_append_getElem h2, List.zip_append (by rw [List.length_take, List.length_take]; omega), List.foldl_append]
  rfl
theorem ovls_len (bd : List UInt8) (size : Int) (l : List Wn) (ts : List (List UInt8)) (hb : (bd.length : Int) = size) (ho : ∀ x ∈ l, okC x size = true) (hl : ∀ (i : Nat) (h : i < l.length) (h2 : i < ts.length), ts[i].length = (l[i]).2.toNat - (l[i]).1.toNat) (k : Nat) (hk : k ≤ l.length) (hk2 : k ≤ ts.length) :
    ((ovls bd (l.take k) (ts.take k)).length : Int) = size := by
  induction k with
  | zero => simpa [ovls] using hb
  | succ k ih =>
    have e := ih (by omega) (by omega)
    have h1 := okC_is (ho l[k] (List.getElem_mem (by omega)))
    have h2 := hl k (by omega) (by omega)
    rw [ovls_take bd l ts k (by omega) (by omega), ovl_len (by omega)]; exact e
theorem ovls_in (bd body : List UInt8) (size : Int) (l : List Wn) (hb : (bd.length : Int) = size) (hbo : (body.length : Int) = size) (ho : ∀ x ∈ l, okC x size = true) (k : Nat) (hk : k ≤ l.length) :
    ∀ i : Nat, insd (l.take k) i = true → (ovls bd (l.take k) ((l.map (ctOf body)).take k))[i]? = body[i]? := by
  have hlen : ∀ (i : Nat) (h : i < l.length) (h2 : i < (l.map (ctOf body)).length), ((l.map (ctOf body))[i]).length = (l[i]).2.toNat - (l[i]).1.toNat := by
    intro i h h2
    rw [List.getElem_map]
    exact ctOf_len (hbo ▸ ho l[i] (List.getElem_mem h))
  induction k with
  | zero => intro i h; simp [insd] at h
  | succ k ih =>
    intro i hi
    have hk2 : k < (l.map (ctOf body)).length := by rw [List.length_map]; omega
    have e := ovls_len bd size l (l.map (ctOf body)) hb ho hlen k (by omega) (by omega)
    have h1 := okC_is (ho l[k] (List.getElem_mem (by omega)))
    have h2 := hlen k (by omega) hk2
    rw [ovls_take bd l _ k (by omega) hk2]
    by_cases hin : (l[k]).1.toNat ≤ i ∧ i < (l[k]).1.toNat + ((l.map (ctOf body))[k]).length
    · rw [ovl_in (by omega) hin.1 hin.2, List.getElem_map]
      unfold ctOf
      rw [List.getElem?_take, if_pos (by omega), List.getElem?_drop]
      congr 1; omega
    · rw [ovl_out (by omega) (by omega)]
      apply ih (by omega)
      rw [List.take_succ_eq_append_getElem (by omega), insd_app, Bool.or_eq_true] at hi
      rcases hi with hi | hi
      · exact hi
      · exfalso
        simp only [insd, List.any_cons, List.any_nil, Bool.or_false, Bool.and_eq_true, decide_eq_true_eq] at hi
        omega
/-- What Unbundle answers is told by the body that is made, bundled anew. -/
theorem DEnd.none {b : List UInt8} {size : Int} {s : List UInt8} (h : DEnd b size s [] []) : UnbR b s size [] [] 3 := by
  refine .inr ⟨rfl, rfl, rfl, fun body l' h1 h2 => ?_⟩
  obtain ⟨rfl, _⟩ := h body l' h1 h2
  obtain ⟨_, h3, _⟩ := bdl_is h2
  simp at h3
theorem DEnd.yes {b bd : List UInt8} {size : Int} {s : List UInt8} {l : List Wn} {ts : List (List UInt8)} (h : DEnd b size s l ts) (hb : (bd.length : Int) = size) (ho : bdl b bd l = (s, 0)) : UnbR b s size l ts 0 :=
  .inl ⟨rfl, bd, hb, ho, (h bd l hb ho).2⟩
theorem DEnd.no {b bd : List UInt8} {size : Int} {s : List UInt8} {l : List Wn} {ts : List (List UInt8)} (h : DEnd b size s l ts) (hb : (bd.length : Int) = size) (hok : ∀ x ∈ l, okC x size = true) (hn : bdl b (ovls bd l ts) l ≠ (s, 0)) : UnbR b s size [] [] 3 := by
  refine .inr ⟨rfl, rfl, rfl, fun body l' h1 h2 => ?_⟩
  obtain ⟨rfl, h3⟩ := h body l' h1 h2
  apply hn
  have hin := ovls_in bd body size l' hb h1 hok l'.length (Nat.le_refl _)
  have hlen : ∀ (i : Nat) (h : i < l'.length) (h2 : i < (l'.map (ctOf body)).length), ((l'.map (ctOf body))[i]).length = (l'[i]).2.toNat - (l'[i]).1.toNat := by
    intro i h h2
    rw [List.getElem_map]
    exact ctOf_len (h1 ▸ hok l'[i] (List.getElem_mem h))
  have hl := ovls_len bd size l' (l'.map (ctOf body)) hb hok hlen l'.length (Nat.le_refl _) (by simp)
  have e1 : l'.take l'.length = l' := List.take_length
  have e2 : (l'.map (ctOf body)).take l'.length = l'.map (ctOf body) := by
    apply List.take_of_length_le; simp
  rw [e1, e2] at hin hl
  rw [h3]
  rw [bdl_same (body' := body) (by omega) (fun x hx => ct_same (okC_is (hok x hx)).1 (fun k hk1 hk2 => hin k ?_))]
  · exact h2
  · rw [insd_iff]; exact ⟨x, hx, hk1, hk2⟩
end Go.Proofs.YtkmbhgbmdeoppacDoor

/-
  What readPart of package span answers; a text has fewer than 2^32 - 15 bytes; the listed variables of package strconv hold what their text lays.
-/
namespace Go.Proofs.YtkmbhgbmdeoppacDoor
open Go.RowKit

theorem cutPre_bi (s : ByteArray) (p : List UInt8) : ∃ (r : ByteArray) (f : Bool), cutPre s.data.toList p = (r.data.toList, f) ∧ r.size ≤ s.size := by
  refine ⟨⟨(cutPre s.data.toList p).1.toArray⟩, (cutPre s.data.toList p).2, rfl, ?_⟩
  rw [← size_list, ← size_list]
  show (cutPre s.data.toList p).1.length ≤ _
  unfold cutPre Lib.trimPrefix
  split
  · rw [List.length_drop]; omega
  · exact Nat.le_refl _
theorem cut4_bi (s : ByteArray) (p : List UInt8) : ∃ (x y : ByteArray) (f : Bool), Lib.cut s.data.toList p = (x.data.toList, y.data.toList, f) ∧ x.size ≤ s.size ∧ y.size ≤ s.size := by
  refine ⟨⟨(Lib.cut s.data.toList p).1.toArray⟩, ⟨(Lib.cut s.data.toList p).2.1.toArray⟩, (Lib.cut s.data.toList p).2.2, rfl, ?_⟩
  have hl : (Lib.cut s.data.toList p).1.length ≤ s.data.toList.length ∧ (Lib.cut s.data.toList p).2.1.length ≤ s.data.toList.length := by
    unfold Lib.cut
    split
    · simp only [List.length_take, List.length_drop]; omega
    · simp
  rw [size_list] at hl
  exact hl
theorem paC_small {s : List UInt8} {p q n e : Int} (h : paC s = (((p, q), n), e)) : 0 ≤ p ∧ p ≤ 99999 ∧ 0 ≤ q ∧ q ≤ 99999 ∧ p ≤ q := by
  rcases paC_two s with ⟨x, size, h2⟩ | h2
  · rw [h2] at h
    obtain ⟨h3, _⟩ := Prod.mk.inj h
    obtain ⟨h4, _⟩ := Prod.mk.inj h3
    have := okC_is (paC_ok h2).1
    rw [h4] at this
    simp only at this
    omega
  · rw [h2] at h
    obtain ⟨h3, _⟩ := Prod.mk.inj h
    obtain ⟨h4, _⟩ := Prod.mk.inj h3
    obtain ⟨h6, h7⟩ := Prod.mk.inj h4
    omega
set_option maxHeartbeats 4000000 in
set_option maxRecDepth 100000 in
theorem srdp_at (b s t bh : ByteArray) (p q size : Int) (ok : Bool) (h : rdP b.data.toList s.data.toList size = (((p, q), t.data.toList), (bh.data.toList, ok))) (m : Int) (w : World) (hm : w.cell? ⟨0, 0, none⟩ = some (.int .i64 m))
    (hs : s.size < 4294967281) (hb : b.size ≤ 140737488351232) (hT : STabs w) :
    Calls Tryd.prog 26 #[.string b, .string s, .int .i64 size] w fun e w' => e = .returned (.tuple #[.agg #[.int .i64 p, .int .i64 q], .string t, .string bh, .bool ok]) ∧ Below w.heap.size w w' := by
  obtain ⟨hd, hhd⟩ : ∃ hd : ByteArray, hd.data.toList = hdB b.data.toList := ⟨⟨(hdB b.data.toList).toArray⟩, rfl⟩
  have HHD : Hid (hd.data.toList = hdB b.data.toList) := hhd
  obtain ⟨r1, op, h1, h1s⟩ := cutPre_bi s (hdB b.data.toList)
  obtain ⟨x, r2, told, h2, h2s, h2t⟩ := cut4_bi r1 c4
  obtain ⟨p1, q1, n, e, h3⟩ : ∃ p1 q1 n e, paC x.data.toList = (((p1, q1), n), e) := ⟨_, _, _, _, rfl⟩
  have HC1 : Hid (cutPre s.data.toList hd.data.toList = (r1.data.toList, op)) := by show _ = _; rw [hhd]; exact h1
  have HC2 : Hid (Lib.cut r1.data.toList (⟨#[13, 10, 13, 10]⟩ : ByteArray).data.toList = (x.data.toList, r2.data.toList, told)) := h2
  have HPC : Hid (paC x.data.toList = (((p1, q1), n), e)) := h3
  obtain ⟨d0, d1, d2, d3, d4⟩ := paC_small h3
  obtain ⟨d, hd0⟩ : ∃ d : Nat, q1 - p1 = (d : Int) := ⟨(q1 - p1).toNat, by omega⟩
  have e1 : IntKind.i64.wrap (q1 - p1) = (d : Int) := by rw [IntKind.wrap_i64]; omega
  have HBAD : Hid (¬ (op = true ∧ told = true ∧ e = 0 ∧ n = size ∧ (d : Int) ≤ (r2.size : Int)) → p = 0 ∧ q = 0 ∧ t = ⟨#[]⟩ ∧ bh = ⟨#[]⟩ ∧ ok = false) := by
    intro hn
    rw [rdP_of h1 h2 h3, if_neg (by rw [size_list, hd0]; exact hn)] at h
    obtain ⟨g1, g2⟩ := Prod.mk.inj h
    obtain ⟨g3, g4⟩ := Prod.mk.inj g1
    obtain ⟨g5, g6⟩ := Prod.mk.inj g2
    obtain ⟨g7, g8⟩ := Prod.mk.inj g3
    exact ⟨g7.symm, g8.symm, by apply ByteArray.ext; apply Array.ext'; exact g4.symm, by apply ByteArray.ext; apply Array.ext'; exact g5.symm, g6.symm⟩
  have HGOOD : Hid (op = true ∧ told = true ∧ e = 0 ∧ n = size ∧ (d : Int) ≤ (r2.size : Int) → p1 = p ∧ q1 = q ∧ r2.extract 0 d = t ∧ cutPre (r2.extract d r2.size).data.toList (⟨#[13, 10]⟩ : ByteArray).data.toList = (bh.data.toList, ok)) := by
    intro hn
    have hd1 : (q1 - p1).toNat = d := by omega
    rw [rdP_of h1 h2 h3, if_pos (by rw [size_list, hd0]; exact hn)] at h
    simp only [hd1] at h
    obtain ⟨g1, g2⟩ := Prod.mk.inj h
    obtain ⟨g3, g4⟩ := Prod.mk.inj g1
    obtain ⟨g7, g8⟩ := Prod.mk.inj g3
    refine ⟨g7, g8, ?_, ?_⟩
    · rw [extract_seg]; apply ByteArray.ext; apply Array.ext'; rw [← g4]; simp
    · rw [← g2, extract_seg]
      simp only
      rw [List.take_of_length_le (by rw [List.length_drop, size_list]; omega)]
  have HSZ : Hid (r1.size < 4294967281 ∧ x.size ≤ 140737488351232 ∧ r2.size < 4294967281 ∧ b.size ≤ 140737488351232) := ⟨by omega, by omega, by omega, hb⟩
  have HM : Hid (w.cell? ⟨0, 0, none⟩ = some (.int .i64 m)) := hm
  have HT : Hid (STabs w) := hT
  have hr2 : r2.size < 4294967281 := by omega
  clear h hhd h1 h1s h2 h2s h2t h3 d0 d1 d2 d3 d4 hd0 hm hs hb hT
  go_enter Tryd.func26, Tryd.ntmps26
  go_wp2_with fail
  refine (sopen_at b hd HHD.out HSZ.out.2.2.2 _).mono ?_
  rintro e2 w1 ⟨rfl, hww⟩
  rw [hww]
  clear hww w1
  go_wp2_with fail
  refine (scutPre_at s hd r1 op HC1.out _).mono ?_
  rintro e2 w1 ⟨rfl, hww⟩
  rw [hww]
  clear hww w1
  go_wp2_with fail
  refine (scut_at r1 ⟨#[13, 10, 13, 10]⟩ x r2 told HC2.out m _ (cell_keep (below_alloc _ _) HM.out) HSZ.out.1).mono ?_
  rintro e2 w1 ⟨rfl, nq, hw1⟩
  have hb1 : Below (w.alloc (.cells #[.int .i64 0, .int .i64 0] 23)).heap.size (w.alloc (.cells #[.int .i64 0, .int .i64 0] 23)) w1 := by rw [hw1]; exact drewN_below _ _ _
  have HB1 : Hid (Below (w.alloc (.cells #[.int .i64 0, .int .i64 0] 23)).heap.size (w.alloc (.cells #[.int .i64 0, .int .i64 0] 23)) w1) := hb1
  have HT1 : Hid (STabs w1) := HT.out.below (below_new hb1)
  clear hw1 hb1
  go_wp2_with fail
  refine (scparse_at x p1 q1 n e HPC.out _ HSZ.out.2.1 HT1.out).mono ?_
  rintro e2 w2 ⟨rfl, hb2⟩
  obtain ⟨r0, r1', rf, rlt, rb⟩ := two_cells (HB1.out.trans (hb2.mono HB1.out.size))
  have f0' := rf 0
  have f1' := rf 1
  obtain ⟨k0, k1⟩ := two_set (.int .i64 p1) (.int .i64 q1) r0 r1'
  have HRB : Hid (Below w.heap.size w ((w2.setCell ⟨w.heap.size, 0, none⟩ (.int .i64 p1)).setCell ⟨w.heap.size, 1, none⟩ (.int .i64 q1))) := (rb.setCell (p := ⟨w.heap.size, 0, none⟩) (Nat.le_refl _) _).setCell (p := ⟨w.heap.size, 1, none⟩) (Nat.le_refl _) _
  clear hb2 rf rb
  have g0 : ((w2.setCell ⟨w.heap.size, 0, none⟩ (.int .i64 p1)).setCell ⟨w.heap.size, 1, none⟩ (.int .i64 q1)).frozen? ⟨w.heap.size, 0, none⟩ = false := by rw [World.frozen?_setCell, World.frozen?_setCell]; exact f0'
  have g1 : ((w2.setCell ⟨w.heap.size, 0, none⟩ (.int .i64 p1)).setCell ⟨w.heap.size, 1, none⟩ (.int .i64 q1)).frozen? ⟨w.heap.size, 1, none⟩ = false := by rw [World.frozen?_setCell, World.frozen?_setCell]; exact f1'
  cases op
  · have HE : Hid (p = 0 ∧ q = 0 ∧ t = ⟨#[]⟩ ∧ bh = ⟨#[]⟩ ∧ ok = false) := HBAD.out (by simp)
    clear HBAD HGOOD
    go_wp2_with fail
    obtain ⟨c0, c1⟩ := two_set (.int .i64 0) (.int .i64 0) k0 k1
    have HB7 : Hid (Below w.heap.size w ((((w2.setCell ⟨w.heap.size, 0, none⟩ (.int .i64 p1)).setCell ⟨w.heap.size, 1, none⟩ (.int .i64 q1)).setCell ⟨w.heap.size, 0, none⟩ (.int .i64 0)).setCell ⟨w.heap.size, 1, none⟩ (.int .i64 0))) := (HRB.out.setCell (p := ⟨w.heap.size, 0, none⟩) (Nat.le_refl _) _).setCell (p := ⟨w.heap.size, 1, none⟩) (Nat.le_refl _) _
    generalize (((w2.setCell ⟨w.heap.size, 0, none⟩ (.int .i64 p1)).setCell ⟨w.heap.size, 1, none⟩ (.int .i64 q1)).setCell ⟨w.heap.size, 0, none⟩ (.int .i64 0)).setCell ⟨w.heap.size, 1, none⟩ (.int .i64 0) = w7 at c0 c1 HB7 ⊢
    refine bodyPost_ret (by simp [results, Tryd.results26, go_sem, c0, c1]; try rfl) rfl ?_
    exact ⟨by rw [HE.out.1, HE.out.2.1, HE.out.2.2.1, HE.out.2.2.2.1, HE.out.2.2.2.2], HB7.out⟩
  · cases told
    · have HE : Hid (p = 0 ∧ q = 0 ∧ t = ⟨#[]⟩ ∧ bh = ⟨#[]⟩ ∧ ok = false) := HBAD.out (by simp)
      clear HBAD HGOOD
      go_wp2_with fail
      obtain ⟨c0, c1⟩ := two_set (.int .i64 0) (.int .i64 0) k0 k1
      have HB7 : Hid (Below w.heap.size w ((((w2.setCell ⟨w.heap.size, 0, none⟩ (.int .i64 p1)).setCell ⟨w.heap.size, 1, none⟩ (.int .i64 q1)).setCell ⟨w.heap.size, 0, none⟩ (.int .i64 0)).setCell ⟨w.heap.size, 1, none⟩ (.int .i64 0))) := (HRB.out.setCell (p := ⟨w.heap.size, 0, none⟩) (Nat.le_refl _) _).setCell (p := ⟨w.heap.size, 1, none⟩) (Nat.le_refl _) _
      generalize (((w2.setCell ⟨w.heap.size, 0, none⟩ (.int .i64 p1)).setCell ⟨w.heap.size, 1, none⟩ (.int .i64 q1)).setCell ⟨w.heap.size, 0, none⟩ (.int .i64 0)).setCell ⟨w.heap.size, 1, none⟩ (.int .i64 0) = w7 at c0 c1 HB7 ⊢
      refine bodyPost_ret (by simp [results, Tryd.results26, go_sem, c0, c1]; try rfl) rfl ?_
      exact ⟨by rw [HE.out.1, HE.out.2.1, HE.out.2.2.1, HE.out.2.2.2.1, HE.out.2.2.2.2], HB7.out⟩
    · by_cases he : e = 0
      · subst he
        by_cases hn : n = size
        · have hnb : (n != size) = false := by simpa using hn
          by_cases hdl : (d : Int) ≤ (r2.size : Int)
          · have hlb : decide ((r2.size : Int) < (d : Int)) = false := decide_eq_false (by omega)
            have HG : Hid _ := HGOOD.out ⟨rfl, rfl, rfl, hn, hdl⟩
            have d0 : (0 : Int) ≤ (d : Int) := by omega
            clear HBAD HGOOD hn
            go_wp2_with fail
            refine (scutPre_at (r2.extract d r2.size) ⟨#[13, 10]⟩ bh ok HG.out.2.2.2 _).mono ?_
            rintro e2 w6 ⟨rfl, hww⟩
            rw [hww]
            clear hww w6
            go_wp2_with fail
            have mixed : Tryd.prog.follows Departure.mixedOrders = true := by kernel_rfl
            go_region_o
            go_wp2_with fail
            obtain ⟨c0, c1⟩ := two_set (.int .i64 p1) (.int .i64 q1) k0 k1
            obtain ⟨w7, hw7⟩ : ∃ w7, w7 = ((((w2.setCell ⟨w.heap.size, 0, none⟩ (.int .i64 p1)).setCell ⟨w.heap.size, 1, none⟩ (.int .i64 q1)).setCell ⟨w.heap.size, 0, none⟩ (.int .i64 p1)).setCell ⟨w.heap.size, 1, none⟩ (.int .i64 q1)).drew := ⟨_, rfl⟩
            have hb7 : Below w.heap.size w w7 := by rw [hw7]; exact ((HRB.out.setCell (p := ⟨w.heap.size, 0, none⟩) (Nat.le_refl _) _).setCell (p := ⟨w.heap.size, 1, none⟩) (Nat.le_refl _) _).drew
            have c0' : w7.cell? ⟨w.heap.size, 0, none⟩ = some (.int .i64 p1) := by rw [hw7]; exact c0
            have c1' : w7.cell? ⟨w.heap.size, 1, none⟩ = some (.int .i64 q1) := by rw [hw7]; exact c1
            rw [← hw7]
            clear hw7 c0 c1
            refine bodyPost_ret (by simp [results, Tryd.results26, go_sem, c0', c1']; try rfl) rfl ?_
            exact ⟨by rw [← HG.out.1, ← HG.out.2.1, ← HG.out.2.2.1], hb7⟩
          · have hlb : decide ((r2.size : Int) < (d : Int)) = true := decide_eq_true (by omega)
            have HE : Hid (p = 0 ∧ q = 0 ∧ t = ⟨#[]⟩ ∧ bh = ⟨#[]⟩ ∧ ok = false) := HBAD.out (fun h => hdl h.2.2.2.2)
            clear HBAD HGOOD
            go_wp2_with fail
            obtain ⟨c0, c1⟩ := two_set (.int .i64 0) (.int .i64 0) k0 k1
            have HB7 : Hid (Below w.heap.size w ((((w2.setCell ⟨w.heap.size, 0, none⟩ (.int .i64 p1)).setCell ⟨w.heap.size, 1, none⟩ (.int .i64 q1)).setCell ⟨w.heap.size, 0, none⟩ (.int .i64 0)).setCell ⟨w.heap.size, 1, none⟩ (.int .i64 0))) := (HRB.out.setCell (p := ⟨w.heap.size, 0, none⟩) (Nat.le_refl _) _).setCell (p := ⟨w.heap.size, 1, none⟩) (Nat.le_refl _) _
            generalize (((w2.setCell ⟨w.heap.size, 0, none⟩ (.int .i64 p1)).setCell ⟨w.heap.size, 1, none⟩ (.int .i64 q1)).setCell ⟨w.heap.size, 0, none⟩ (.int .i64 0)).setCell ⟨w.heap.size, 1, none⟩ (.int .i64 0) = w7 at c0 c1 HB7 ⊢
            refine bodyPost_ret (by simp [results, Tryd.results26, go_sem, c0, c1]; try rfl) rfl ?_
            exact ⟨by rw [HE.out.1, HE.out.2.1, HE.out.2.2.1, HE.out.2.2.2.1, HE.out.2.2.2.2], HB7.out⟩
        · have hnb : (n != size) = true := by simpa using hn
          have HE : Hid (p = 0 ∧ q = 0 ∧ t = ⟨#[]⟩ ∧ bh = ⟨#[]⟩ ∧ ok = false) := HBAD.out (fun h => hn h.2.2.2.1)
          clear HBAD HGOOD
          go_wp2_with fail
          obtain ⟨c0, c1⟩ := two_set (.int .i64 0) (.int .i64 0) k0 k1
          have HB7 : Hid (Below w.heap.size w ((((w2.setCell ⟨w.heap.size, 0, none⟩ (.int .i64 p1)).setCell ⟨w.heap.size, 1, none⟩ (.int .i64 q1)).setCell ⟨w.heap.size, 0, none⟩ (.int .i64 0)).setCell ⟨w.heap.size, 1, none⟩ (.int .i64 0))) := (HRB.out.setCell (p := ⟨w.heap.size, 0, none⟩) (Nat.le_refl _) _).setCell (p := ⟨w.heap.size, 1, none⟩) (Nat.le_refl _) _
          generalize (((w2.setCell ⟨w.heap.size, 0, none⟩ (.int .i64 p1)).setCell ⟨w.heap.size, 1, none⟩ (.int .i64 q1)).setCell ⟨w.heap.size, 0, none⟩ (.int .i64 0)).setCell ⟨w.heap.size, 1, none⟩ (.int .i64 0) = w7 at c0 c1 HB7 ⊢
          refine bodyPost_ret (by simp [results, Tryd.results26, go_sem, c0, c1]; try rfl) rfl ?_
          exact ⟨by rw [HE.out.1, HE.out.2.1, HE.out.2.2.1, HE.out.2.2.2.1, HE.out.2.2.2.2], HB7.out⟩
      · have heb : (e != 0) = true := by simpa using he
        have HE : Hid (p = 0 ∧ q = 0 ∧ t = ⟨#[]⟩ ∧ bh = ⟨#[]⟩ ∧ ok = false) := HBAD.out (fun h => he h.2.2.1)
        clear HBAD HGOOD
        go_wp2_with fail
        obtain ⟨c0, c1⟩ := two_set (.int .i64 0) (.int .i64 0) k0 k1
        have HB7 : Hid (Below w.heap.size w ((((w2.setCell ⟨w.heap.size, 0, none⟩ (.int .i64 p1)).setCell ⟨w.heap.size, 1, none⟩ (.int .i64 q1)).setCell ⟨w.heap.size, 0, none⟩ (.int .i64 0)).setCell ⟨w.heap.size, 1, none⟩ (.int .i64 0))) := (HRB.out.setCell (p := ⟨w.heap.size, 0, none⟩) (Nat.le_refl _) _).setCell (p := ⟨w.heap.size, 1, none⟩) (Nat.le_refl _) _
        generalize (((w2.setCell ⟨w.heap.size, 0, none⟩ (.int .i64 p1)).setCell ⟨w.heap.size, 1, none⟩ (.int .i64 q1)).setCell ⟨w.heap.size, 0, none⟩ (.int .i64 0)).setCell ⟨w.heap.size, 1, none⟩ (.int .i64 0) = w7 at c0 c1 HB7 ⊢
        refine bodyPost_ret (by simp [results, Tryd.results26, go_sem, c0, c1]; try rfl) rfl ?_
        exact ⟨by rw [HE.out.1, HE.out.2.1, HE.out.2.2.1, HE.out.2.2.2.1, HE.out.2.2.2.2], HB7.out⟩
end Go.Proofs.YtkmbhgbmdeoppacDoor

/-
  What strings.Clone computes; a string is no longer than Go allows.
-/
namespace Go.Proofs.YtkmbhgbmdeoppacDoor
open Go.RowKit

set_option maxRecDepth 100000 in
theorem clone_big (s : ByteArray) (w : World) (hs : s.size ≤ 281474976710656) :
    Calls Tryd.prog 27 #[.string s] w fun e w' => e = .returned (.string s) ∧ Below w.heap.size w w' := by
  go_enter Tryd.func27, Tryd.ntmps27
  go_wp2_with fail
  refine (Tryd.stringslite_Clone s _ (by omega)).mono ?_
  rintro e w1 ⟨rfl, hb⟩
  go_wp2_with fail
  go_ret
  exact ⟨rfl, hb⟩
end Go.Proofs.YtkmbhgbmdeoppacDoor

/-
  A slice of texts that can be read, as a plain list; no program is named here.
-/
namespace Go.Proofs.YtkmbhgbmdeoppacDoor
open Go.RowKit

def strsV (ss : List (List UInt8)) : List Value := ss.map fun s => .string ⟨s.toArray⟩
def Sl (w : World) (v : Value) (ss : List (List UInt8)) : Prop :=
  ∃ g off cap, v = .slice (some ⟨g, off, none⟩) ss.length cap ∧ ss.length ≤ cap ∧ cap ≤ maxLen ∧ g < w.heap.size ∧ ∀ (k : Nat) (h : k < ss.length), w.cell? ⟨g, off + k, none⟩ = some (.string ⟨ss[k].toArray⟩)
theorem Sl.below {w w' : World} {v : Value} {ss : List (List UInt8)} (h : Sl w v ss) (hb : Below w.heap.size w w') : Sl w' v ss := by
  obtain ⟨g, off, cap, hv, h1, h2, hg, hc⟩ := h
  exact ⟨g, off, cap, hv, h1, h2, Nat.lt_of_lt_of_le hg hb.size, fun k hk => (hb.cell (p := ⟨g, off + k, none⟩) hg).trans (hc k hk)⟩
theorem strsV_get (ss : List (List UInt8)) (k : Nat) (h : k < ss.length) : (strsV ss)[k]? = some (.string ⟨ss[k].toArray⟩) := by
  unfold strsV; rw [List.getElem?_map, List.getElem?_eq_getElem h]; rfl
theorem strsV_one (ss : List (List UInt8)) : ∀ u ∈ strsV ss, u.oneCell' = true := by
  intro u hu
  obtain ⟨x, _, rfl⟩ := List.mem_map.1 hu
  rfl
theorem strsV_len (ss : List (List UInt8)) : (strsV ss).length = ss.length * 1 := by simp [strsV]
theorem Sl.own {w : World} {B : Nat} {e : TypeId} {v : Value} {ss : List (List UInt8)} (h : w.ownsRow B e 1 v ss.length (strsV ss)) (h0 : 0 < ss.length) : Sl w v ss := by
  obtain ⟨ad, cap, hv, h2, h1, h3⟩ := own_form2 h
  obtain ⟨g, ha, _, hg, hc⟩ := h3 h0
  subst ha
  refine ⟨g, 0, cap, hv, h1, h2, hg, fun k hk => ?_⟩
  rw [Nat.zero_add, hc k (by omega), strsV_get ss k hk]
theorem Sl.cells {w : World} {a : Addr} {n c : Nat} {ss : List (List UInt8)} (h : Sl w (.slice (some a) n c) ss) : ∀ j u, (strsV ss)[j]? = some u → w.cell? (a.add j) = some u := by
  obtain ⟨g, off, cap, hv, h1, h2, hg, hc⟩ := h
  obtain ⟨ha, _, _⟩ := Value.slice.inj hv
  obtain rfl := Option.some.inj ha
  intro j u hj
  have hjl : j < ss.length := by have := (List.getElem?_eq_some_iff.1 hj).1; simpa [strsV] using this
  rw [strsV_get ss j hjl] at hj
  have hform : (⟨g, off, none⟩ : Addr).add j = ⟨g, off + j, none⟩ := by
    by_cases h0 : j = 0
    · subst h0; simp [Addr.add]
    · simp [Addr.add, h0]
  rw [hform, hc j hjl]; exact hj
end Go.Proofs.YtkmbhgbmdeoppacDoor

/-
  Two rows of the call's own side by side: one grows, the other stays; no program is named here.
-/
namespace Go.Proofs.YtkmbhgbmdeoppacDoor
open Go.RowKit

/-- Two rows whose blocks are not the same. -/
def Sep (u v : Value) : Prop := ∀ g, u.ownBlock = some g → v.ownBlock ≠ some g
theorem Sep.turn {u v : Value} (h : Sep u v) : Sep v u := fun g hv hu => h g hu hv
theorem Sep.nil (v : Value) : Sep (.slice none 0 0) v := fun g h => by cases h
theorem Sep.new {u v : Value} {g n c : Nat} {H : Nat} (h : Sep u v) (hat : u.ownBlock = some g ∨ g = H) (hv : ∀ k, v.ownBlock = some k → k < H) : Sep (.slice (some ⟨g, 0, none⟩) n c) v := by
  intro k hk e
  have hk' : g = k := Option.some.inj hk
  subst hk'
  rcases hat with h1 | h1
  · exact h g h1 e
  · have := hv g e; omega
theorem sep_types {w : World} {B B' size size' n n' : Nat} {e e' : TypeId} {u v : Value} {xs ys : List Value} (h : w.ownsRow B e size u n xs) (h' : w.ownsRow B' e' size' v n' ys) (hne : e ≠ e') : Sep u v := by
  intro g hu hv
  rcases h.2 with ⟨rfl, _⟩ | ⟨g1, cap, cur, rfl, _, hg1, _⟩
  · cases hu
  · rcases h'.2 with ⟨rfl, _⟩ | ⟨g2, cap2, cur2, rfl, _, hg2, _⟩
    · cases hv
    · obtain rfl : g1 = g := by simpa [Value.ownBlock] using hu
      obtain rfl : g2 = g1 := by simpa [Value.ownBlock] using hv
      rw [hg1] at hg2
      injection hg2 with hg2
      injection hg2 with _ h2
      exact hne h2
theorem own_low {w : World} {B B' size n : Nat} {e : TypeId} {v : Value} {xs : List Value} (h : w.ownsRow B e size v n xs) (hb : B' ≤ B) : w.ownsRow B' e size v n xs :=
  ⟨h.1, h.2.imp id fun ⟨g, cap, cur, h1, h2, h3⟩ => ⟨g, cap, cur, h1, Nat.le_trans hb h2, h3⟩⟩
theorem own_kept {w w' : World} {B size n : Nat} {e : TypeId} {u v : Value} {xs : List Value} (h : w.ownsRow B e size v n xs) (hg : w.grownBy w' u.ownBlock) (hs : Sep u v) : w'.ownsRow B e size v n xs := by
  refine h.kept hg ?_
  cases hv : v.ownBlock with
  | none => exact .inl rfl
  | some g =>
    right
    intro hu
    exact hs g hu.symm hv
theorem cell_kept_by {w w' : World} {u : Value} {g i : Nat} {x : Value} (hg : w.grownBy w' u.ownBlock) (h : w.cell? ⟨g, i, none⟩ = some x) (hu : ∀ k, u.ownBlock = some k → k < g) : w'.cell? ⟨g, i, none⟩ = some x := by
  refine (hg.cell_far ⟨g, i, none⟩ (cell_in h) ?_).trans h
  intro e
  have := hu g e.symm
  omega
theorem one_news {w : World} {g : Nat} {x : Value} (h : w.cell? ⟨g, 0, none⟩ = some x) : ∀ j u, [x][j]? = some u → w.cell? ((⟨g, 0, none⟩ : Addr).add j) = some u := by
  intro j u hj
  match j, hj with
  | 0, hj => simp at hj; subst hj; simpa [Addr.add] using h
theorem two_news {w : World} {g : Nat} {x y : Value} (h : w.cell? ⟨g, 0, none⟩ = some x) (h' : w.cell? ⟨g, 1, none⟩ = some y) : ∀ j u, [x, y][j]? = some u → w.cell? ((⟨g, 0, none⟩ : Addr).add j) = some u := by
  intro j u hj
  match j, hj with
  | 0, hj => simp at hj; subst hj; simpa [Addr.add] using h
  | 1, hj => simp at hj; subst hj; simpa [Addr.add] using h'
end Go.Proofs.YtkmbhgbmdeoppacDoor

/-
  The row of the type of texts, and the cells of a block of one; over the program's table of types.
-/
namespace Go.Proofs.YtkmbhgbmdeoppacDoor
open Go.RowKit

theorem info9 : (Tryd.prog.info? 9).map (fun i => (i.zero, i.size, i.bytes)) = some (some (.string ⟨#[]⟩), 1, 16) := by kernel_rfl
theorem one_cell (w : World) (v : Value) (t : TypeId) : ∀ (j : Nat) u, [v][j]? = some u → (w.alloc (.cells #[v] t)).cell? ((⟨w.heap.size, 0, none⟩ : Addr).add j) = some u := by
  intro j u h
  match j, h with
  | 0, h => simp at h; subst h; simp [Addr.add]
end Go.Proofs.YtkmbhgbmdeoppacDoor

/-
  What the program's table tells of a slice of a body's type.
-/
namespace Go.Proofs.YtkmbhgbmdeoppacDoor
open Go.RowKit

theorem infoSc : (Tryd.prog.info? 23).map (fun i => (i.zero, i.size, i.bytes)) = some (some (.agg #[.int .i64 0, .int .i64 0]), 2, 16) := by kernel_rfl
end Go.Proofs.YtkmbhgbmdeoppacDoor
