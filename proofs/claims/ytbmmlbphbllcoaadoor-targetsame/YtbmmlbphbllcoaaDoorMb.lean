/-
  Plain functions on fields (a name and a value, each a list of bytes), and what is known of a list of fields in memory; no program is named here.
-/
import Derived.Test.YtbmmlbphbllcoaaDoorMa
import Derived.Handy
import Derived.Deep.Draws
import Derived.Test.YtbmmlbphbllcoaaDoorRows
import Derived.Lib.LaidTab
import Derived.Lib.ItoaNum
import Derived.Test.YtbmmlbphbllcoaaDoorShelf
import Derived.Lib.LaidU8
import Derived.MakeChecks
import Derived.Shelf.Strings.Builder1
import Derived.Shelf.Strings.BuilderK
import Derived.Shelf.Strings.MapGrows
import Derived.Lib.AtoiErrMem
import Derived.LaidEql
import Derived.Stop.IfaceNil
import Derived.Laws.Rows
import Derived.Lib.Buffer
import Derived.Laws.IdiomStrings
import Derived.Deep.RegionHeld3
import Derived.Deep.AppendLies
namespace Go.Proofs.YtbmmlbphbllcoaaDoor
open Go.RowKit

abbrev Fld := List UInt8 × List UInt8
def flds (ps : List Fld) : List Value := ps.flatMap fun x => [Value.string ⟨x.1.toArray⟩, Value.string ⟨x.2.toArray⟩]
theorem flds_snoc (ps : List Fld) (x : Fld) : flds ps ++ [Value.string ⟨x.1.toArray⟩, Value.string ⟨x.2.toArray⟩] = flds (ps ++ [x]) := by simp [flds]
theorem flds_app (ps qs : List Fld) : flds (ps ++ qs) = flds ps ++ flds qs := by simp [flds]
theorem flds_length (ps : List Fld) : (flds ps).length = ps.length * 2 := by
  induction ps with
  | nil => rfl
  | cons x ps ih =>
    have e : flds (x :: ps) = [Value.string ⟨x.1.toArray⟩, Value.string ⟨x.2.toArray⟩] ++ flds ps := by simp [flds]
    rw [e, List.length_append, ih, List.length_cons]; simp; omega
theorem flds_get (ps : List Fld) : ∀ (k : Nat) (h : k < ps.length), (flds ps)[k * 2]? = some (.string ⟨(ps[k]).1.toArray⟩) ∧ (flds ps)[k * 2 + 1]? = some (.string ⟨(ps[k]).2.toArray⟩) := by
  induction ps with
  | nil => intro k h; simp at h
  | cons x ps ih =>
    intro k h
    have e : flds (x :: ps) = Value.string ⟨x.1.toArray⟩ :: Value.string ⟨x.2.toArray⟩ :: flds ps := by simp [flds]
    rw [e]
    cases k with
    | zero => exact ⟨rfl, rfl⟩
    | succ k =>
      have := ih k (by simpa using h)
      rw [show (k + 1) * 2 = k * 2 + 1 + 1 from by omega, show k * 2 + 1 + 1 + 1 = (k * 2 + 1) + 1 + 1 from by omega, List.getElem?_cons_succ, List.getElem?_cons_succ, List.getElem?_cons_succ, List.getElem?_cons_succ]
      exact this

/-- A slice of fields that can be read. -/
def Fl (w : World) (v : Value) (ls : List Fld) : Prop :=
  ∃ ad cap, v = .slice ad ls.length cap ∧ ls.length ≤ cap ∧ cap ≤ maxLen ∧ (0 < ls.length → ∃ g off, ad = some ⟨g, off, none⟩ ∧ g < w.heap.size ∧
    ∀ (k : Nat) (h : k < ls.length), w.cell? ⟨g, off + k * 2, none⟩ = some (.string ⟨(ls[k]).1.toArray⟩) ∧ w.cell? ⟨g, off + k * 2 + 1, none⟩ = some (.string ⟨(ls[k]).2.toArray⟩))
/-- No name and no value is longer than so many bytes. -/
def Most (m : Nat) (ls : List Fld) : Prop := ∀ x ∈ ls, x.1.length ≤ m ∧ x.2.length ≤ m

/-- How many values and letters a list of fields holds. -/
def bulkF (ls : List Fld) : Nat := (ls.map fun y => y.1.length + y.2.length + 3).sum

theorem Fl.below {w w' : World} {v : Value} {ls : List Fld} (h : Fl w v ls) (hb : Below w.heap.size w w') : Fl w' v ls := by
  obtain ⟨ad, cap, hv, h1, h2, h3⟩ := h
  refine ⟨ad, cap, hv, h1, h2, fun h0 => ?_⟩
  obtain ⟨g, off, ha, hg, hc⟩ := h3 h0
  refine ⟨g, off, ha, Nat.lt_of_lt_of_le hg hb.size, fun k hk => ?_⟩
  obtain ⟨c1, c2⟩ := hc k hk
  exact ⟨(hb.cell (p := ⟨g, off + k * 2, none⟩) hg).trans c1, (hb.cell (p := ⟨g, off + k * 2 + 1, none⟩) hg).trans c2⟩
theorem Fl.nil (w : World) : Fl w (.slice none 0 0) [] := ⟨none, 0, rfl, Nat.le_refl _, by unfold maxLen; omega, fun h => absurd h (by simp)⟩

theorem own_below3 {w w1 : World} {B : Nat} {e : TypeId} {size : Nat} {v : Value} {n : Nat} {xs : List Value} (h : w.ownsRow B e size v n xs) (hb : Below w.heap.size w w1) : w1.ownsRow B e size v n xs := by
  refine ⟨h.1, ?_⟩
  rcases h.2 with h0 | ⟨g, cap, cur, hv, hB, hg, h3⟩
  · exact .inl h0
  · exact .inr ⟨g, cap, cur, hv, hB, (hb.block g (Array.getElem?_eq_some_iff.1 hg).1).trans hg, h3⟩
theorem own_form2 {w : World} {B : Nat} {e : TypeId} {size : Nat} {v : Value} {n : Nat} {xs : List Value} (h : w.ownsRow B e size v n xs) : ∃ ad cap, v = .slice ad n cap ∧ cap ≤ maxLen ∧ n ≤ cap ∧ (0 < n → ∃ g, ad = some ⟨g, 0, none⟩ ∧ B ≤ g ∧ g < w.heap.size ∧ ∀ j, j < n * size → w.cell? ⟨g, j, none⟩ = xs[j]?) := by
  rcases h.2 with ⟨rfl, rfl⟩ | ⟨g, cap, cur, hv, hb, hg, hnc, hcm, _, _⟩
  · exact ⟨none, 0, rfl, by unfold maxLen; omega, Nat.le_refl _, fun h => absurd h (by omega)⟩
  · refine ⟨some ⟨g, 0, none⟩, cap, hv, hcm, hnc, fun _ => ⟨g, rfl, hb, (Array.getElem?_eq_some_iff.1 hg).1, fun j hj => ?_⟩⟩
    subst hv
    exact h.cellAt j hj
theorem own_le {w : World} {B B' : Nat} {e : TypeId} {size : Nat} {v : Value} {n : Nat} {xs : List Value} (h : w.ownsRow B e size v n xs) (hb : B' ≤ B) : w.ownsRow B' e size v n xs := by
  refine ⟨h.1, ?_⟩
  rcases h.2 with h0 | ⟨g, cap, cur, hv, hB, h3⟩
  · exact .inl h0
  · exact .inr ⟨g, cap, cur, hv, Nat.le_trans hb hB, h3⟩
/-- A row of fields that the call made itself can be read. -/
theorem Fl.own {w : World} {B : Nat} {e : TypeId} {v : Value} {ls : List Fld} (h : w.ownsRow B e 2 v ls.length (flds ls)) : Fl w v ls := by
  obtain ⟨ad, cap, hv, hcm, hnc, hc⟩ := own_form2 h
  refine ⟨ad, cap, hv, hnc, hcm, fun h0 => ?_⟩
  obtain ⟨g, ha, _, hg, hce⟩ := hc h0
  refine ⟨g, 0, ha, hg, fun k hk => ?_⟩
  obtain ⟨p1, p2⟩ := flds_get ls k hk
  rw [Nat.zero_add, hce _ (by omega), hce _ (by omega)]
  exact ⟨p1, p2⟩

theorem drewN_below (B : Nat) (w : World) (n : Nat) : Below B w (w.drewN n) := by
  induction n with
  | zero => exact Below.refl _ _
  | succ n ih => exact ih.drew
theorem drewN_cell (w : World) (n : Nat) (a : Addr) : (w.drewN n).cell? a = w.cell? a := by
  induction n with
  | zero => rfl
  | succ n ih => exact ih
theorem drewN_frozen (w : World) (n : Nat) (a : Addr) : (w.drewN n).frozen? a = w.frozen? a := by
  induction n with
  | zero => rfl
  | succ n ih => exact ih
theorem drewN_size (w : World) (n : Nat) : (w.drewN n).heap.size = w.heap.size := by
  induction n with
  | zero => rfl
  | succ n ih => exact ih
theorem new_free (w : World) (cs : Array Value) (t : TypeId) (j : Nat) : (w.alloc (.cells cs t)).frozen? ⟨w.heap.size, j, none⟩ = false :=
  Lib.frozen_of_heap (heap_alloc_new w (.cells cs t)) j
theorem cell_in {w : World} {a : Addr} {v : Value} (h : w.cell? a = some v) : a.block < w.heap.size := by
  rcases Nat.lt_or_ge a.block w.heap.size with h1 | h1
  · exact h1
  · exfalso
    unfold World.cell? at h
    rw [Array.getElem?_eq_none h1] at h
    simp at h
theorem cell_keep {w w' : World} {a : Addr} {v : Value} (h : Below w.heap.size w w') (hc : w.cell? a = some v) : w'.cell? a = some v := (h.cell (cell_in hc)).trans hc
theorem ret_int {a b : Int} (h : a = b) : Ending.returned (.int .i64 a) = .returned (.int .i64 b) := by rw [h]

def chk1 (x : Fld) : Int := if token x.1 = false then 3 else if 30 < x.1.length ∨ 1000 < x.2.length then 2 else if allPlain x.2 = true ∧ trimL x.2 = x.2 then 0 else 3
def chkL : List Fld → Int
  | [] => 0
  | x :: r => if chk1 x = 0 then chkL r else chk1 x
def chk (ls : List Fld) : Int := if 30 < ls.length then 2 else chkL ls
theorem chk1_tok (x : Fld) (h : token x.1 = false) : chk1 x = 3 := by unfold chk1; rw [if_pos h]
theorem chk1_large (x : Fld) (h : token x.1 = true) (hl : 30 < x.1.length ∨ 1000 < x.2.length) : chk1 x = 2 := by unfold chk1; rw [if_neg (by rw [h]; simp), if_pos hl]
theorem chk1_bad (x : Fld) (h : token x.1 = true) (hl : ¬ (30 < x.1.length ∨ 1000 < x.2.length)) (hp : ¬ (allPlain x.2 = true ∧ trimL x.2 = x.2)) : chk1 x = 3 := by unfold chk1; rw [if_neg (by rw [h]; simp), if_neg hl, if_neg hp]
theorem chk1_ok (x : Fld) (h : token x.1 = true) (hl : ¬ (30 < x.1.length ∨ 1000 < x.2.length)) (hp : allPlain x.2 = true ∧ trimL x.2 = x.2) : chk1 x = 0 := by unfold chk1; rw [if_neg (by rw [h]; simp), if_neg hl, if_pos hp]
theorem chk1_is (x : Fld) (h : chk1 x = 0) : token x.1 = true ∧ x.1.length ≤ 30 ∧ x.2.length ≤ 1000 ∧ allPlain x.2 = true ∧ trimL x.2 = x.2 := by
  unfold chk1 at h
  split at h
  · cases h
  · rename_i ht
    split at h
    · cases h
    · rename_i hl
      split at h
      · rename_i hp
        exact ⟨by simpa using ht, by omega, by omega, hp.1, hp.2⟩
      · cases h
theorem chk1_some (x : Fld) : chk1 x = 0 ∨ chk1 x = 2 ∨ chk1 x = 3 := by
  unfold chk1
  split
  · exact .inr (.inr rfl)
  · split
    · exact .inr (.inl rfl)
    · split
      · exact .inl rfl
      · exact .inr (.inr rfl)
theorem chkL_app (a b : List Fld) (h : chkL a = 0) : chkL (a ++ b) = chkL b := by
  induction a with
  | nil => rfl
  | cons x a ih =>
    unfold chkL at h
    split at h
    · rename_i hx
      rw [List.cons_append]
      show (if chk1 x = 0 then chkL (a ++ b) else chk1 x) = _
      rw [if_pos hx]; exact ih h
    · rename_i hx; exact absurd h hx
theorem chkL_one (x : Fld) : chkL [x] = chk1 x := by
  show (if chk1 x = 0 then chkL [] else chk1 x) = chk1 x
  split
  · rename_i h; rw [h]; rfl
  · rfl
theorem chkL_take (ls : List Fld) (k : Nat) (h : k < ls.length) (h0 : chkL (ls.take k) = 0) (h1 : chk1 ls[k] = 0) : chkL (ls.take (k + 1)) = 0 := by
  rw [List.take_succ_eq_append_getElem h, chkL_app _ _ h0, chkL_one, h1]
theorem chkL_dead (ls : List Fld) (k : Nat) (h : k < ls.length) (h0 : chkL (ls.take k) = 0) (h1 : chk1 ls[k] ≠ 0) : chkL ls = chk1 ls[k] := by
  have e : ls = ls.take k ++ ls[k] :: ls.drop (k + 1) := by rw [← List.drop_eq_getElem_cons h, List.take_append_drop]
  have e2 : chkL (ls.take k ++ ls[k] :: ls.drop (k + 1)) = chk1 ls[k] := by
    rw [chkL_app _ _ h0]
    show (if chk1 ls[k] = 0 then chkL (ls.drop (k + 1)) else chk1 ls[k]) = _
    rw [if_neg h1]
  rw [← e] at e2
  exact e2
theorem chkL_all (ls : List Fld) (h : chkL ls = 0) : ∀ x ∈ ls, chk1 x = 0 := by
  induction ls with
  | nil => intro x hx; cases hx
  | cons a ls ih =>
    unfold chkL at h
    split at h
    · rename_i ha
      intro x hx
      rcases List.mem_cons.1 hx with rfl | hx
      · exact ha
      · exact ih h x hx
    · rename_i ha; exact absurd h ha
theorem chkL_of_all (ls : List Fld) (h : ∀ x ∈ ls, chk1 x = 0) : chkL ls = 0 := by
  induction ls with
  | nil => rfl
  | cons a ls ih =>
    show (if chk1 a = 0 then chkL ls else chk1 a) = 0
    rw [if_pos (h a (List.mem_cons_self ..))]
    exact ih fun x hx => h x (List.mem_cons_of_mem _ hx)
theorem chk_many (ls : List Fld) (h : 30 < ls.length) : chk ls = 2 := by unfold chk; rw [if_pos h]
theorem chk_few (ls : List Fld) (h : ¬ 30 < ls.length) : chk ls = chkL ls := by unfold chk; rw [if_neg h]
theorem chk_zero (ls : List Fld) (h : chk ls = 0) : ls.length ≤ 30 ∧ chkL ls = 0 := by
  unfold chk at h
  split at h
  · cases h
  · exact ⟨by omega, h⟩
end Go.Proofs.YtbmmlbphbllcoaaDoor

/-
  The variables that package strconv reads, as the rows of this seat list them, hold what its functions ask.
-/
namespace Go.Proofs.YtbmmlbphbllcoaaDoor
open Go.RowKit Go.Lib

theorem iface_of {H : Type} {enc : TypeId × Value → H} {P : Program} {w : World} {base : Nat} {sp : Nat → Bool} {held : Bool} {fuel : Nat} {t : TypeId} {cs : List Value} {nm : String} {d : DataW H} {p : List MemPlace} {ms : _}
    (ht : P.underlying t = some (.interface ms)) (h : DataW.trod enc P w base sp held fuel t cs = some (.iface nm d, p)) : ∃ u v, cs = [.iface u v] := by
  cases fuel with
  | zero => simp [DataW.trod] at h
  | succ fuel =>
    match cs, h with
    | [.iface u v], _ => exact ⟨u, v, rfl⟩
    | [], h => simp [DataW.trod, ht] at h
    | x :: y :: r, h => simp [DataW.trod, ht] at h
    | [x], h => cases x <;> simp [DataW.trod, ht] at h <;> exact ⟨_, _, rfl⟩

structure STabs (w : World) : Prop where
  pow : Lib.TabIs Tryd.prog w "internal/strconv.uint64pow10" .u64 Lib.pow10Tab
  syn : ∃ u v, w.cell? ⟨4, 0, none⟩ = some (.iface u v)
  rng : ∃ u v, w.cell? ⟨5, 0, none⟩ = some (.iface u v)
theorem vkeep {P : Program} {n : String} {cs : Array Value} {w w' : World} (h : w.var? P n = some cs) (hb : Below w.heap.size w w') : w'.var? P n = some cs := by
  unfold World.var? at h ⊢
  cases hg : P.globalNamed n with
  | none => rw [hg] at h; cases h
  | some g =>
    rw [hg, Option.bind_some] at h
    rw [Option.bind_some]
    by_cases hlt : g < w.heap.size
    · rw [hb.block g hlt]; exact h
    · rw [Array.getElem?_eq_none (by omega)] at h; cases h
theorem STabs.below {w w' : World} (h : STabs w) (hb : Below w.heap.size w w') : STabs w' where
  pow := vkeep h.pow hb
  syn := by obtain ⟨u, v, e⟩ := h.syn; exact ⟨u, v, cell_keep hb e⟩
  rng := by obtain ⟨u, v, e⟩ := h.rng; exact ⟨u, v, cell_keep hb e⟩
theorem err_of {w : World} {name : String} {g : Nat} {t : TypeId} {ms : _} {nm : String} {d : DataW Unit} (h : VarReads Tryd.prog w name (.iface nm d)) (hg : Tryd.prog.globalNamed name = some g)
    (hty : (Tryd.prog.globals[g]?).map (·.type) = some t) (ht : Tryd.prog.underlying t = some (.interface ms)) : ∃ u v, w.cell? ⟨g, 0, none⟩ = some (.iface u v) := by
  obtain ⟨g', t', cs, fuel, p, hg', ht', hv, hd⟩ := h
  obtain rfl := Option.some.inj (hg.symm.trans hg')
  obtain rfl := Option.some.inj (hty.symm.trans ht')
  obtain ⟨u, v, e⟩ := iface_of ht hd
  refine ⟨u, v, ?_⟩
  rw [World.var?_cell hg hv 0]
  have : cs[0]? = cs.toList[0]? := by simp
  rw [this, e]; rfl
theorem stabs_of {l : List (String × DataW Unit)} (w : World) (h : laidMet Tryd.prog l w) (h1 : ("internal/strconv.uint64pow10", Rows.laid_internal_strconv_uint64pow10) ∈ l)
    (h2 : ("strconv.ErrSyntax", Rows.laid_strconv_ErrSyntax) ∈ l) (h3 : ("strconv.ErrRange", Rows.laid_strconv_ErrRange) ∈ l) : STabs w where
  pow := by
    have r : VarReads Tryd.prog w "internal/strconv.uint64pow10" Rows.laid_internal_strconv_uint64pow10 := laidMet.reads h h1
    rw [show (Rows.laid_internal_strconv_uint64pow10 : DataW Unit) = tabData .u64 pow10Tab from by kernel_rfl] at r
    obtain ⟨g', t', cs, fuel, p, hg', ht', hv, hd⟩ := r
    obtain rfl := Option.some.inj ((show Tryd.prog.globalNamed "internal/strconv.uint64pow10" = some 6 by kernel_rfl).symm.trans hg')
    obtain rfl := Option.some.inj ((show (Tryd.prog.globals[6]?).map (·.type) = some 127 by kernel_rfl).symm.trans ht')
    unfold TabIs
    rw [hv, ← cells_of_tab Tryd.underlying127 Tryd.underlying74 (by kernel_rfl) (by kernel_rfl) hd]
  syn := err_of (laidMet.reads h h2) (by kernel_rfl) (by kernel_rfl) Tryd.underlying43
  rng := err_of (laidMet.reads h h3) (by kernel_rfl) (by kernel_rfl) Tryd.underlying43
end Go.Proofs.YtbmmlbphbllcoaaDoor

/-
  The contract of Go's (*strings.Builder).WriteString, which the shelf proves over any program, laid over this seat's translation. No condition but those that the theorem names.
-/
namespace Go.Proofs
def Tryd.lays166_ren : Go.Shelf.Ren := ⟨fun | 166 => 31 | 240 => 45 | 276 => 64 | n => n, fun | 0 => 0 | 3 => 3 | 4 => 4 | 5 => 5 | 9 => 9 | 20 => 20 | 37 => 35 | 70 => 34 | 72 => 37 | 75 => 43 | 80 => 40 | 164 => 77 | n => n, fun | n => n⟩
theorem Tryd.lays166 : Go.Proofs.Lays.n166 Tryd.prog Tryd.lays166_ren := {
  mixed := by kernel_rfl
  f166 := Tryd.func31.trans (congrArg some (by kernel_rfl))
  f240 := Tryd.func45.trans (congrArg some (by kernel_rfl))
  f276 := Tryd.func64.trans (congrArg some (by kernel_rfl))
  t0 := Tryd.underlying0
  a0 := Tryd.isAgg0
  z0 := Tryd.sizeOf0
  v0 := Tryd.zeroValue0
  t3 := Tryd.underlying3
  a3 := Tryd.isAgg3
  z3 := Tryd.sizeOf3
  v3 := Tryd.zeroValue3
  t4 := Tryd.underlying4
  a4 := Tryd.isAgg4
  z4 := Tryd.sizeOf4
  v4 := Tryd.zeroValue4
  t9 := Tryd.underlying9
  a9 := Tryd.isAgg9
  z9 := Tryd.sizeOf9
  v9 := Tryd.zeroValue9
  t20 := Tryd.underlying20
  a20 := Tryd.isAgg20
  z20 := Tryd.sizeOf20
  v20 := Tryd.zeroValue20
  t37 := Tryd.underlying35
  a37 := Tryd.isAgg35
  z37 := Tryd.sizeOf35
  v37 := Tryd.zeroValue35
  t70 := Tryd.underlying34
  a70 := Tryd.isAgg34
  z70 := Tryd.sizeOf34
  v70 := Tryd.zeroValue34
  t72 := Tryd.underlying37
  a72 := Tryd.isAgg37
  z72 := Tryd.sizeOf37
  v72 := Tryd.zeroValue37
  t75 := Tryd.underlying43
  a75 := Tryd.isAgg43
  z75 := Tryd.sizeOf43
  v75 := Tryd.zeroValue43
  t164 := Tryd.underlying77
  a164 := Tryd.isAgg77
  z164 := Tryd.sizeOf77
  v164 := Tryd.zeroValue77 }
theorem Tryd.Builder_Extra_166 : Builder.Extra Tryd.prog Tryd.lays166_ren := {
  sizeBuilder := by kernel_rfl
  liesBuilder := by kernel_rfl
  t5 := Tryd.underlying5
  a5 := Tryd.isAgg5
  z5 := Tryd.sizeOf5
  v5 := Tryd.zeroValue5
  infoByte := by kernel_rfl
  cellsByte := by kernel_rfl
  sizeByte := by kernel_rfl
  neB5 := by decide }
open Go.RowKit in
theorem Tryd.Builder_WriteString (B b : Nat) (bs : List Value) (s : ByteArray) (w : World) (h : Lib.IsBuilder 37 5 B b bs w) (hlen : bs.length + s.size ≤ 140737488355328) (hBw : B ≤ w.heap.size) :
    Calls Tryd.prog 31 #[.pointer (some ⟨b, 0, none⟩), .string s] w fun e w' => e = .returned (.tuple #[.int .i64 s.size, .nilIface]) ∧ (Lib.BuilderAt 37 5 B b (.pointer (some ⟨b, 0, none⟩)) (bs ++ Lib.strCells s) w' ∧ Below B w w') := Any.Builder_WriteString Tryd.lays166 Tryd.Builder_Extra_166 B b bs s w h hlen hBw
open Go.RowKit in
theorem Tryd.Builder_WriteString_k (B b : Nat) (bs : List Value) (s : ByteArray) (w : World) (h : Lib.IsBuilderF 37 5 B b bs w) (hlen : bs.length + s.size ≤ 140737488355328) (hBw : B ≤ w.heap.size) :
    Calls Tryd.prog 31 #[.pointer (some ⟨b, 0, none⟩), .string s] w fun e w' => e = .returned (.tuple #[.int .i64 s.size, .nilIface]) ∧ (Lib.BuilderAtF 37 5 B b (.pointer (some ⟨b, 0, none⟩)) (bs ++ Lib.strCells s) w' ∧ Below B w w' ∧ Lib.OthersKept 5 (some b) w w') := Any.Builder_WriteString_k Tryd.lays166 Tryd.Builder_Extra_166 B b bs s w h hlen hBw
end Go.Proofs

/-
  What isFree, mayStand and writeByte of package target compute.
-/
namespace Go.Proofs.YtbmmlbphbllcoaaDoor
open Go.RowKit

theorem freeB_let (c : UInt8) (h : (97 ≤ c.toNat ∧ c.toNat ≤ 122) ∨ (65 ≤ c.toNat ∧ c.toNat ≤ 90) ∨ (48 ≤ c.toNat ∧ c.toNat ≤ 57)) : freeB c = true := by
  have := byAll (fun c => decide ((97 ≤ c.toNat ∧ c.toNat ≤ 122) ∨ (65 ≤ c.toNat ∧ c.toNat ≤ 90) ∨ (48 ≤ c.toNat ∧ c.toNat ≤ 57) → freeB c = true)) (by decide +kernel) c
  exact of_decide_eq_true this h
theorem freeB_sign (c : UInt8) (h : ¬ ((97 ≤ c.toNat ∧ c.toNat ≤ 122) ∨ (65 ≤ c.toNat ∧ c.toNat ≤ 90) ∨ (48 ≤ c.toNat ∧ c.toNat ≤ 57))) : decide ((0 : Int) ≤ Lib.indexByte [45, 46, 95, 126] c) = freeB c := by
  have := byAll (fun c => decide (¬ ((97 ≤ c.toNat ∧ c.toNat ≤ 122) ∨ (65 ≤ c.toNat ∧ c.toNat ≤ 90) ∨ (48 ≤ c.toNat ∧ c.toNat ≤ 57)) → decide ((0 : Int) ≤ Lib.indexByte [45, 46, 95, 126] c) = freeB c)) (by decide +kernel) c
  exact of_decide_eq_true this h
theorem idx_sign (c : UInt8) (w : World) :
    Calls Tryd.prog 48 #[.string ⟨#[45, 46, 95, 126]⟩, .int .u8 (c.toNat : Int)] w fun e w' => e = .returned (.int .i64 (Lib.indexByte [45, 46, 95, 126] c)) ∧ w' = w := by
  refine (Tryd.strings_IndexByte _ _ _).mono ?_
  rintro e w' ⟨rfl, rfl⟩
  refine ⟨?_, rfl⟩
  rw [show (c.toNat : Int).toNat.toUInt8 = c by simp]
set_option maxHeartbeats 1000000 in
set_option maxRecDepth 100000 in
theorem isFree_any (c : UInt8) (w : World) :
    Calls Tryd.prog 43 #[.int .u8 (c.toNat : Int)] w fun e w' => e = .returned (.bool (freeB c)) ∧ w' = w := by
  have hlt : (c.toNat : Int) < 256 := by have := c.toNat_lt; omega
  by_cases hf : (97 ≤ c.toNat ∧ c.toNat ≤ 122) ∨ (65 ≤ c.toNat ∧ c.toNat ≤ 90) ∨ (48 ≤ c.toNat ∧ c.toNat ≤ 57)
  · rw [freeB_let c hf]
    rcases hf with ⟨h, h'⟩ | ⟨h, h'⟩ | ⟨h, h'⟩
    · have h1 : (97 : Int) ≤ (c.toNat : Int) := by omega
      have h2 : (c.toNat : Int) ≤ 122 := by omega
      clear h h'
      go_enter Tryd.func43, Tryd.ntmps43
      go_wp2
      go_ret
      exact ⟨rfl, rfl⟩
    · have h1 : (65 : Int) ≤ (c.toNat : Int) := by omega
      have h2 : (c.toNat : Int) ≤ 90 := by omega
      clear h h'
      go_enter Tryd.func43, Tryd.ntmps43
      go_wp2
      go_ret
      exact ⟨rfl, rfl⟩
    · have h1 : (48 : Int) ≤ (c.toNat : Int) := by omega
      have h2 : (c.toNat : Int) ≤ 57 := by omega
      clear h h'
      go_enter Tryd.func43, Tryd.ntmps43
      go_wp2
      go_ret
      exact ⟨rfl, rfl⟩
  · have HS : Hid (decide ((0 : Int) ≤ Lib.indexByte [45, 46, 95, 126] c) = freeB c) := freeB_sign c hf
    have HI := idx_sign c
    obtain ⟨r, hr⟩ : ∃ r, r = Lib.indexByte [45, 46, 95, 126] c := ⟨_, rfl⟩
    rw [← hr] at HI HS
    clear hr
    rcases (show (c.toNat : Int) < 48 ∨ (57 < (c.toNat : Int) ∧ (c.toNat : Int) < 65) ∨ (90 < (c.toNat : Int) ∧ (c.toNat : Int) < 97) ∨ 122 < (c.toNat : Int) from by omega) with h | ⟨h, h'⟩ | ⟨h, h'⟩ | h
    all_goals (
      clear hf
      go_enter Tryd.func43, Tryd.ntmps43
      go_wp2_with fail
      refine (HI _).mono ?_
      rintro e w1 ⟨rfl, rfl⟩
      go_wp2_with fail
      go_ret
      exact ⟨ret_bool HS.out, rfl⟩)
theorem vis_iff (c : UInt8) : vis c = (decide ((33 : Int) ≤ (c.toNat : Int)) && (decide ((c.toNat : Int) ≤ 126) && !((c.toNat : Int) == 35))) := by
  have := byAll (fun c => vis c == (decide ((33 : Int) ≤ (c.toNat : Int)) && (decide ((c.toNat : Int) ≤ 126) && !((c.toNat : Int) == 35)))) (by decide +kernel) c
  exact eq_of_beq this
set_option maxHeartbeats 1000000 in
set_option maxRecDepth 100000 in
theorem mayStand_any (c : UInt8) (w : World) :
    Calls Tryd.prog 51 #[.int .u8 (c.toNat : Int)] w fun e w' => e = .returned (.bool (vis c)) ∧ w' = w := by
  have hlt : (c.toNat : Int) < 256 := by have := c.toNat_lt; omega
  rw [vis_iff]
  rcases (show (c.toNat : Int) < 33 ∨ ((33 : Int) ≤ (c.toNat : Int) ∧ (c.toNat : Int) < 35) ∨ (c.toNat : Int) = 35 ∨ ((35 : Int) < (c.toNat : Int) ∧ (c.toNat : Int) ≤ 126) ∨ 126 < (c.toNat : Int) from by omega) with h | ⟨h, h'⟩ | h | ⟨h, h'⟩ | h
  all_goals (
    go_enter Tryd.func51, Tryd.ntmps51
    go_wp2
    go_ret
    refine ⟨ret_bool ?_, rfl⟩
    first | rfl | (rw [Bool.eq_iff_iff]; simp; omega))
abbrev Bld (B b : Nat) (l : List UInt8) (w : World) : Prop := Lib.IsBuilderF 37 5 B b (Lib.byteCells l) w
theorem bld_new (w : World) : Bld w.heap.size w.heap.size [] (w.alloc (.cells #[.pointer none, .slice none 0 0] 37)) := Lib.IsBuilderF.of (Lib.fresh_isBuilder 37 5 w)
theorem wbyte_at (B b : Nat) (l : List UInt8) (c : UInt8) (w : World) (h : Bld B b l w) (hl : l.length ≤ 1000) (hB : B ≤ w.heap.size) :
    Calls Tryd.prog 27 #[.pointer (some ⟨b, 0, none⟩), .int .u8 (c.toNat : Int)] w fun e w' => e = .returned .nilIface ∧ Bld B b (l ++ [c]) w' ∧ Below B w w' := by
  refine (Tryd.Builder_WriteByte_k B b _ _ _ h (by rw [Lib.byteCells_length]; omega) hB).mono ?_
  rintro e w' ⟨rfl, hb, hw, _⟩
  refine ⟨rfl, .inr ?_, hw⟩
  rw [Lib.byteCells_append]; exact hb
theorem and15 (c : UInt8) : bits .and .u8 (c.toNat : Int) 15 = ((c.toNat % 16 : Nat) : Int) := by
  have := byAll (fun c => decide (bits .and .u8 (c.toNat : Int) 15 = ((c.toNat % 16 : Nat) : Int))) (by decide +kernel) c
  exact of_decide_eq_true this
theorem dig_at (d : Nat) (h : d < 16) : (⟨#[48, 49, 50, 51, 52, 53, 54, 55, 56, 57, 65, 66, 67, 68, 69, 70]⟩ : ByteArray)[d]'(by show d < 16; exact h) = hexU d := by
  have : ∀ d : Fin 16, (⟨#[48, 49, 50, 51, 52, 53, 54, 55, 56, 57, 65, 66, 67, 68, 69, 70]⟩ : ByteArray)[d.1]'(by show d.1 < 16; exact d.2) = hexU d.1 := by decide
  exact this ⟨d, h⟩
theorem hexix (d : Nat) (h : d < 16) (w : World) : (Instr.index 9 (.string ⟨#[48, 49, 50, 51, 52, 53, 54, 55, 56, 57, 65, 66, 67, 68, 69, 70]⟩) (.int .u8 (d : Int))).run Tryd.prog w = .ok (.int .u8 ((hexU d).toNat : Int)) w := by
  rw [run_index_string w 9 _ .u8 (d : Int) Tryd.underlying9, dif_pos ⟨by omega, by show (d : Int) < 16; omega⟩]
  have := dig_at d h
  rw [← this]; rfl
set_option maxHeartbeats 1000000 in
set_option maxRecDepth 100000 in
theorem writeB_at (B b : Nat) (l : List UInt8) (c : UInt8) (w : World) (h : Bld B b l w) (hl : l.length ≤ 900) (hB : B ≤ w.heap.size) :
    Calls Tryd.prog 21 #[.pointer (some ⟨b, 0, none⟩), .int .u8 (c.toNat : Int)] w fun e w' => e = .returned (.tuple #[]) ∧ Bld B b (l ++ pr1 (c, !freeB c)) w' ∧ Below B w w' := by
  have HB : Hid (Bld B b l w) := h
  have hlt : (c.toNat : Int) < 256 := by have := c.toNat_lt; omega
  clear h
  cases hf : freeB c
  · have HF : Hid (freeB c = false) := hf
    obtain ⟨d1, hd1⟩ : ∃ d : UInt8, d = hexU (c.toNat / 16) := ⟨_, rfl⟩
    obtain ⟨d2, hd2⟩ : ∃ d : UInt8, d = hexU (c.toNat % 16) := ⟨_, rfl⟩
    have HE : Hid (escB c = [37, d1, d2]) := by show _ = _; rw [hd1, hd2]; rfl
    have hi1 := hexix (c.toNat / 16) (by omega)
    rw [← hd1] at hi1
    have hi1 : ∀ w, (Instr.index 9 (.string ⟨#[48, 49, 50, 51, 52, 53, 54, 55, 56, 57, 65, 66, 67, 68, 69, 70]⟩) (.int .u8 ((c.toNat : Int) / 16))).run Tryd.prog w = .ok (.int .u8 (d1.toNat : Int)) w := fun w => by
      have := hi1 w; simpa using this
    have hx2 := dig_at (c.toNat % 16) (by omega)
    rw [← hd2] at hx2
    clear hf hd1 hd2
    go_enter Tryd.func21, Tryd.ntmps21
    go_wp2_with fail
    refine (isFree_any c _).mono ?_
    rintro e w1 ⟨rfl, rfl⟩
    rw [HF.out]
    go_wp2_with fail
    refine (wbyte_at B b l 37 _ HB.out (by omega) hB).mono ?_
    rintro e w2 ⟨rfl, hb2, hw2⟩
    have hB2 := hw2.size
    have HB2 : Hid (Bld B b (l ++ [37]) w2) := hb2
    clear hb2
    go_wp2_with fail
    refine (wbyte_at B b _ d1 _ HB2.out (by rw [List.length_append]; show _ + 1 ≤ _; omega) (by omega)).mono ?_
    rintro e w3 ⟨rfl, hb3, hw3⟩
    have hB3 := hw3.size
    have HB3 : Hid (Bld B b (l ++ [37] ++ [d1]) w3) := hb3
    clear hb3
    go_wp2_with fail
    refine (wbyte_at B b _ d2 _ HB3.out (by rw [List.length_append, List.length_append]; show _ + 1 + 1 ≤ _; omega) (by omega)).mono ?_
    rintro e w4 ⟨rfl, hb4, hw4⟩
    go_wp2_with fail
    go_returns
    refine ⟨rfl, ?_, (hw2.trans hw3).trans hw4⟩
    have : l ++ pr1 (c, !false) = l ++ [37] ++ [d1] ++ [d2] := by show l ++ escB c = _; rw [HE.out]; simp
    rw [this]; exact hb4
  · have HF : Hid (freeB c = true) := hf
    clear hf
    go_enter Tryd.func21, Tryd.ntmps21
    go_wp2_with fail
    refine (isFree_any c _).mono ?_
    rintro e w1 ⟨rfl, rfl⟩
    rw [HF.out]
    go_wp2_with fail
    refine (wbyte_at B b l c _ HB.out (by omega) hB).mono ?_
    rintro e w2 ⟨rfl, hb2, hw2⟩
    go_wp2_with fail
    go_returns
    exact ⟨rfl, hb2, hw2⟩
end Go.Proofs.YtbmmlbphbllcoaaDoor

/-
  Parts of a text, as laws of the slice operation.
-/
namespace Go.Proofs.YtbmmlbphbllcoaaDoor
open Go.RowKit

theorem slice_from (s : ByteArray) (a : Nat) (ha : a ≤ s.size) : ∃ r : ByteArray, r.data.toList = s.data.toList.drop a ∧ r.size = s.size - a ∧ ∀ w, (Instr.slice 9 (.string s) (some (.int .i64 (a : Int))) none none).run Tryd.prog w = .ok (.string r) w := by
  refine ⟨s.extract a s.size, ?_, ?_, fun w => ?_⟩
  · rw [Lib.extract_data, List.take_of_length_le (by rw [List.length_drop, size_list]; omega)]
  · rw [ByteArray.size_extract]; omega
  · rw [run_slice_string_l w 9 s Tryd.underlying9 .i64 (a : Int) (by omega) (by omega)]; rfl
theorem slice_part (s : ByteArray) (a b : Nat) (ha : a ≤ b) (hb : b ≤ s.size) : ∃ r : ByteArray, r.data.toList = (s.data.toList.drop a).take (b - a) ∧ r.size = b - a ∧ ∀ w, (Instr.slice 9 (.string s) (some (.int .i64 (a : Int))) (some (.int .i64 (b : Int))) none).run Tryd.prog w = .ok (.string r) w := by
  refine ⟨s.extract a b, ?_, ?_, fun w => ?_⟩
  · rw [Lib.extract_data]
  · rw [ByteArray.size_extract]; omega
  · rw [run_slice_string w 9 s .i64 .i64 _ _ Tryd.underlying9 (by omega) (by omega) (by omega)]; rfl
theorem slice_to (s : ByteArray) (b : Nat) (hb : b ≤ s.size) : ∃ r : ByteArray, r.data.toList = s.data.toList.take b ∧ r.size = b ∧ ∀ w, (Instr.slice 9 (.string s) none (some (.int .i64 (b : Int))) none).run Tryd.prog w = .ok (.string r) w := by
  refine ⟨s.extract 0 b, ?_, ?_, fun w => ?_⟩
  · rw [Lib.extract_data]; simp
  · rw [ByteArray.size_extract]; omega
  · rw [run_slice_string_h w 9 s Tryd.underlying9 .i64 (b : Int) (by omega) (by omega)]; rfl
end Go.Proofs.YtbmmlbphbllcoaaDoor

/-
  What strconv.ParseUint, readDigits, showBytes and its two function values, Unescape and respell of package target compute.
-/
namespace Go.Proofs.YtbmmlbphbllcoaaDoor
open Go.RowKit

set_option maxHeartbeats 1000000 in
set_option maxRecDepth 100000 in
theorem pu16_at (t : ByteArray) (h2 : t.size = 2) (w : World) (hT : STabs w) :
    Calls Tryd.prog 63 #[.string t, .int .i64 16, .int .i64 8] w fun e w' => Below w.heap.size w w' ∧ ((∃ n, dec16 0 t.data.toList = some n ∧ e = .returned (.tuple #[.int .u64 (n : Int), .nilIface])) ∨
      (dec16 0 t.data.toList = none ∧ ∃ tp p, e = .returned (.tuple #[.int .u64 0, .iface tp p]))) := by
  obtain ⟨u, v, hsyn⟩ := hT.syn
  have HS : Hid (w.cell? ⟨4, 0, none⟩ = some (.iface u v)) := hsyn
  have HI := pu16_in t h2
  have hb0 := Lib.bytesWorld_below w 5 t
  have hlim : t.size ≤ 281474976710656 := by omega
  clear hsyn hT h2
  cases hd : dec16 0 t.data.toList with
  | some n =>
    rw [hd] at HI
    go_enter Tryd.func63, Tryd.ntmps63
    go_wp2_with fail
    refine (HI _).mono ?_
    rintro e w1 ⟨rfl, rfl⟩
    unfold puAns
    go_wp2_with fail
    go_ret2
    exact ⟨hb0, .inl ⟨n, rfl, rfl⟩⟩
  | none =>
    rw [hd] at HI
    go_enter Tryd.func63, Tryd.ntmps63
    go_wp2_with fail
    refine (HI _).mono ?_
    rintro e w1 ⟨rfl, rfl⟩
    unfold puAns
    have HS1 := cell_keep hb0 HS.out
    obtain ⟨w1, hw1⟩ : ∃ w1, w1 = Lib.bytesWorld w 5 t := ⟨_, rfl⟩
    rw [← hw1] at hb0 HS1 ⊢
    clear hw1
    have HS2 : Hid (w1.cell? ⟨4, 0, none⟩ = some (.iface u v)) := HS1
    clear HS1
    go_wp2_with fail
    refine (Tryd.strconv_toError_syntax _ t 16 8 _ _ hlim HS2.out (.inr ⟨u, v, rfl⟩)).mono ?_
    rintro e w2 ⟨N, rfl, h1, h2, h3⟩
    go_wp2_with fail
    go_ret2
    exact ⟨hb0.trans (h3.mono hb0.size), .inr ⟨trivial, _, _, rfl⟩⟩
theorem ret_ub {a b : Int} {c d : Bool} (h : a = b) (h' : c = d) : Ending.returned (.tuple #[.int .u8 a, .bool c]) = .returned (.tuple #[.int .u8 b, .bool d]) := by rw [h, h']
def rdD : List UInt8 → Option UInt8
  | a :: b :: _ => match hexv a, hexv b with
    | some x, some y => some (UInt8.ofNat (16 * x + y))
    | _, _ => none
  | _ => none
theorem rdD_short (l : List UInt8) (h : l.length < 2) : rdD l = none := by
  match l, h with
  | [], _ => rfl
  | [a], _ => rfl
theorem rdD_two (l : List UInt8) (h : 2 ≤ l.length) : rdD l = (dec16 0 (l.take 2)).map UInt8.ofNat := by
  match l, h with
  | a :: b :: r, _ =>
    show (match hexv a, hexv b with | some x, some y => some (UInt8.ofNat (16 * x + y)) | _, _ => none) = (dec16 0 [a, b]).map UInt8.ofNat
    rw [dec16_two]
    cases hexv a <;> cases hexv b <;> rfl
theorem dec16_lt (a b : UInt8) (n : Nat) (h : dec16 0 [a, b] = some n) : n < 256 := by
  rw [dec16_two] at h
  cases ha : hexv a with
  | none => rw [ha] at h; cases h
  | some x =>
    cases hb : hexv b with
    | none => rw [ha, hb] at h; cases h
    | some y =>
      rw [ha, hb] at h
      have := hexv_lt a x ha
      have := hexv_lt b y hb
      obtain rfl := Option.some.inj h
      omega
set_option maxHeartbeats 1000000 in
set_option maxRecDepth 100000 in
theorem readD_any (s : ByteArray) (w : World) (hT : STabs w) :
    Calls Tryd.prog 44 #[.string s] w fun e w' => e = .returned (.tuple #[.int .u8 (((rdD s.data.toList).getD 0).toNat : Int), .bool (rdD s.data.toList).isSome]) ∧ Below w.heap.size w w' := by
  have mixed : Tryd.prog.follows Departure.mixedOrders = true := by kernel_rfl
  have HT : Hid (STabs w) := hT
  clear hT
  by_cases hs : s.size < 2
  · have HR : Hid (rdD s.data.toList = none) := rdD_short _ (by rw [size_list]; exact hs)
    have hsi : (s.size : Int) < 2 := by omega
    go_enter Tryd.func44, Tryd.ntmps44
    go_wp2_with fail
    go_ret2
    rw [HR.out]
    exact ⟨rfl, Below.refl _ _⟩
  · obtain ⟨p, hp, hps, hr⟩ := slice_to s 2 (by omega)
    have hr2 : ∀ w, (Instr.slice 9 (.string s) none (some (.int .i64 2)) none).run Tryd.prog w = .ok (.string p) w := fun w => by simpa using hr w
    have hr := rdD_two s.data.toList (by rw [size_list]; omega)
    rw [← hp] at hr
    have HR : Hid (rdD s.data.toList = (dec16 0 p.data.toList).map UInt8.ofNat) := hr
    have HP : Hid (p.size = 2) := hps
    have hsi : ¬ (s.size : Int) < 2 := by omega
    clear hr hps hp
    go_enter Tryd.func44, Tryd.ntmps44
    go_wp2_with fail
    refine (pu16_at p HP.out _ HT.out).mono ?_
    rintro e w1 ⟨hb1, ⟨n, hd, rfl⟩ | ⟨hd, tp, q, rfl⟩⟩
    · have hn : n < 256 := by
        have h2 : p.data.toList.length = 2 := by rw [size_list]; exact HP.out
        match hl : p.data.toList, h2 with
        | [a, b], _ => rw [hl] at hd; exact dec16_lt a b n hd
      have HD : Hid (dec16 0 p.data.toList = some n) := hd
      clear hd
      go_wp2_with fail
      go_region_o
      all_goals go_wp2_with fail
      all_goals go_ret2
      all_goals rw [HR.out, HD.out]
      all_goals exact ⟨ret_ub (show (n : Int) = ((UInt8.ofNat n).toNat : Int) by rw [UInt8.toNat_ofNat']; omega) rfl, hb1.drew⟩
    · have HD : Hid (dec16 0 p.data.toList = none) := hd
      clear hd
      go_wp2_with fail
      go_region_o
      all_goals go_wp2_with fail
      all_goals go_ret2
      all_goals rw [HR.out, HD.out]
      all_goals exact ⟨rfl, hb1.drew⟩
theorem rdD_cons (s : ByteArray) (k : Nat) (c a b : UInt8) (x y : Nat) (r : List UInt8) (h : s.data.toList.drop k = c :: a :: b :: r) (ha : hexv a = some x) (hb : hexv b = some y) : rdD (s.data.toList.drop (k + 1)) = some (UInt8.ofNat (16 * x + y)) := by
  rw [← List.drop_drop, h]
  show (match hexv a, hexv b with | some x, some y => some (UInt8.ofNat (16 * x + y)) | _, _ => none) = _
  rw [ha, hb]
theorem rdD_bad (l : List UInt8) (h : l.length < 2 ∨ ∃ a b r', l = a :: b :: r' ∧ (hexv a = none ∨ hexv b = none)) : rdD l = none := by
  rcases h with h | ⟨a, b, r, rfl, h⟩
  · exact rdD_short l h
  · show (match hexv a, hexv b with | some x, some y => some (UInt8.ofNat (16 * x + y)) | _, _ => none) = _
    rcases h with h | h
    · rw [h]
    · rw [h]; cases hexv a <;> rfl
theorem drop_head (s : ByteArray) (k : Nat) (c : UInt8) (r : List UInt8) (h : s.data.toList.drop k = c :: r) : ∃ h : k < s.size, s[k] = c ∧ s.data.toList.drop (k + 1) = r ∧ c ∈ s.data.toList := by
  have hl : k < s.data.toList.length := by
    rcases Nat.lt_or_ge k s.data.toList.length with h1 | h1
    · exact h1
    · rw [List.drop_eq_nil_of_le h1] at h; cases h
  have h2 := List.drop_eq_getElem_cons hl
  rw [h] at h2
  obtain ⟨h3, h4⟩ := List.cons.inj h2
  refine ⟨by rw [size_list] at hl; exact hl, h3.symm, h4.symm, ?_⟩
  rw [h3]; exact List.getElem_mem hl
set_option maxHeartbeats 2000000 in
set_option maxRecDepth 100000 in
/-- showBytes: what is told up to some place, whatever the function value does with it, as long as it keeps I. -/
theorem show_at (s : ByteArray) (hs : s.size ≤ 200) (g : Nat) (lb : Array Value) (eg : ∀ args w, (callFunc g args).run Tryd.prog w = .ok (.enter g args) w) (I : List Tk → World → Prop) (ok : Tk → Bool) (hok : ∀ c, ok (c, true) = true)
    (hIT : ∀ d W, I d W → STabs W) (hIk : ∀ d W W', I d W → Below W.heap.size W W' → I d W')
    (hst : ∀ (d : List Tk) (t : Tk) (W : World), I d W → d.length < 200 → Calls Tryd.prog g (#[.int .u8 (t.1.toNat : Int), .bool t.2] ++ lb) W fun e W' => e = .returned (.bool (ok t)) ∧ I (d ++ [t]) W')
    (w : World) (h0 : I [] w) :
    Calls Tryd.prog 25 #[.string s, .func (.func g) #[] lb] w fun e w' => ∃ d r, e = .returned (.bool r) ∧ I d w' ∧ d.length ≤ 200 ∧ (r = true → unT s.data.toList = some d ∧ ∀ t ∈ d, ok t = true) ∧ (r = false → unT s.data.toList = none ∨ ∃ c ∈ s.data.toList, ok (c, false) = false) := by
  have mixed : Tryd.prog.follows Departure.mixedOrders = true := by kernel_rfl
  have HOK : Hid (∀ c, ok (c, true) = true) := hok
  have HIT : Hid (∀ d W, I d W → STabs W) := hIT
  have HIK : Hid (∀ d W W', I d W → Below W.heap.size W W' → I d W') := hIk
  have HST : Hid (∀ (d : List Tk) (t : Tk) (W : World), I d W → d.length < 200 → Calls Tryd.prog g (#[.int .u8 (t.1.toNat : Int), .bool t.2] ++ lb) W fun e W' => e = .returned (.bool (ok t)) ∧ I (d ++ [t]) W') := hst
  have HI0 : Hid (I [] w) := h0
  clear hok hIT hIk hst h0
  go_enter Tryd.func25, Tryd.ntmps25
  go_wp2_with fail
  go_loopw [5] (fun i wr => ∃ (k : Nat) (d : List Tk), i = .int .i64 k ∧ k ≤ s.size ∧ Hid (unT s.data.toList = (unT (s.data.toList.drop k)).map (d ++ ·) ∧ d.length ≤ k ∧ (∀ t ∈ d, ok t = true) ∧ I d wr)) (fun i _ => s.size - (intOf i).toNat)
  case atStart => exact ⟨0, [], rfl, Nat.zero_le _, by rw [List.drop_zero]; cases unT s.data.toList <;> rfl, Nat.le_refl _, fun t ht => (List.not_mem_nil ht).elim, HI0.out⟩
  case round =>
    obtain ⟨k, d, rfl, hk, hh⟩ := hrel
    by_cases hlt : k < s.size
    · have hc256 : (s[k].toNat : Int) < 256 := by have := s[k].toNat_lt; omega
      have hki : (k : Int) < (s.size : Int) := by omega
      rcases unT_cases (s.data.toList.drop k) with h0 | ⟨c, r, hr, hc, he⟩ | ⟨a, b, x, y, r, hr, ha, hb, he⟩ | ⟨he, r, hr, hbad⟩
      · exfalso
        have := congrArg List.length h0
        rw [List.length_drop, size_list] at this
        simp at this; omega
      · obtain ⟨_, hsk, hdr, hmem⟩ := drop_head s k c r hr
        subst hsk
        have HSK : Hid (s.data.toList.drop (k + 1) = r ∧ s[k] ∈ s.data.toList ∧ unT (s.data.toList.drop k) = (unT r).map ((s[k], false) :: ·)) := ⟨hdr, hmem, he⟩
        have h37 : ((s[k].toNat : Int) == 37) = false := by
          rw [beq_eq_false_iff_ne]
          intro e; apply hc
          apply UInt8.toNat.inj; show s[k].toNat = 37; omega
        have hD := hh.out
        have HSP := HST.out d (s[k], false) wr.drew (HIK.out d wr _ hD.2.2.2 ((Below.refl _ _).drew)) (by omega)
        clear hD hdr hmem he hr hc
        cases hv : ok (s[k], false)
        · have HV : Hid (ok (s[k], false) = false) := hv
          rw [hv] at HSP
          clear hv
          go_wp2_with fail
          go_region_o
          go_wp2_with fail
          refine HSP.mono ?_
          rintro e w2 ⟨rfl, hI2⟩
          go_wp2_with fail
          go_ret
          obtain ⟨h1, h2, h3, h4⟩ := hh.out
          exact ⟨d ++ [(s[k], false)], false, rfl, hI2, by simp; omega, (fun h => by cases h), fun _ => .inr ⟨s[k], HSK.out.2.1, HV.out⟩⟩
        · have HV : Hid (ok (s[k], false) = true) := hv
          rw [hv] at HSP
          clear hv
          go_wp2_with fail
          go_region_o
          go_wp2_with fail
          refine HSP.mono ?_
          rintro e w2 ⟨rfl, hI2⟩
          obtain ⟨h1, h2, h3, h4⟩ := hh.out
          have HN : Hid (unT s.data.toList = (unT (s.data.toList.drop (k + 1))).map ((d ++ [(s[k], false)]) ++ ·) ∧ (d ++ [(s[k], false)]).length ≤ k + 1 ∧ (∀ t ∈ d ++ [(s[k], false)], ok t = true) ∧ I (d ++ [(s[k], false)]) w2) := by
            refine ⟨?_, by simp; omega, ?_, hI2⟩
            · rw [h1, HSK.out.2.2, HSK.out.1]
              cases unT r <;> simp
            · intro t ht
              rcases List.mem_append.1 ht with ht | ht
              · exact h3 t ht
              · rw [List.mem_singleton.1 ht]; exact HV.out
          clear h1 h2 h3 h4 hh
          go_wp2_with fail
          go_roundw
          case rel => exact ⟨k + 1, _, by go_num, by omega, HN⟩
          case measure => simp [intOf]; omega
      · obtain ⟨_, hsk, hdr, hmem⟩ := drop_head s k 37 (a :: b :: r) hr
        have HA : Hid (unT (s.data.toList.drop k) = (unT r).map ((UInt8.ofNat (16 * x + y), true) :: ·) ∧ rdD (s.data.toList.drop (k + 1)) = some (UInt8.ofNat (16 * x + y)) ∧ s.data.toList.drop (k + 3) = r) :=
          ⟨he, rdD_cons s k 37 a b x y r hr ha hb, by rw [show k + 3 = k + (1 + 1 + 1) by omega, ← List.drop_drop, hr]; rfl⟩
        have h37 : ((s[k].toNat : Int) == 37) = true := by rw [hsk]; rfl
        obtain ⟨q, hq, hqs, hsl⟩ := slice_from s (k + 1) (by omega)
        have hsl' : ∀ w, (Instr.slice 9 (.string s) (some (.int .i64 ((k : Int) + 1))) none none).run Tryd.prog w = .ok (.string q) w := fun w => by simpa using hsl w
        have HQ : Hid (rdD q.data.toList = some (UInt8.ofNat (16 * x + y))) := by show _ = _; rw [hq]; exact HA.out.2.1
        clear hsk hdr hmem he hr hq hqs hsl ha hb
        go_wp2_with fail
        go_region_o
        go_wp2_with fail
        refine (readD_any q _ (HIT.out d _ (HIK.out d wr _ hh.out.2.2.2 ((Below.refl _ _).drew)))).mono ?_
        rintro e w2 ⟨rfl, hb2⟩
        rw [HQ.out]
        have hD := hh.out
        have HSP := HST.out d (UInt8.ofNat (16 * x + y), true) w2 (HIK.out d wr _ hD.2.2.2 ((Below.refl _ _).drew.trans (hb2.mono (by simp)))) (by omega)
        rw [HOK.out] at HSP
        obtain ⟨v, hv⟩ : ∃ v : UInt8, v = UInt8.ofNat (16 * x + y) := ⟨_, rfl⟩
        have hk3 : k + 3 ≤ s.size := by
          have hA := HA.out.2.1
          rcases Nat.lt_or_ge s.size (k + 3) with h | h
          · rw [rdD_short _ (by rw [List.length_drop, size_list]; omega)] at hA; cases hA
          · exact h
        rw [← hv] at HSP HA ⊢
        have hk3i : (k : Int) + 3 ≤ (s.size : Int) := by omega
        clear hD hv
        go_wp2_with fail
        refine HSP.mono ?_
        rintro e w3 ⟨rfl, hI3⟩
        obtain ⟨h1, h2, h3, h4⟩ := hh.out
        have HN : Hid (unT s.data.toList = (unT (s.data.toList.drop (k + 3))).map ((d ++ [(v, true)]) ++ ·) ∧ (d ++ [(v, true)]).length ≤ k + 3 ∧ (∀ t ∈ d ++ [(v, true)], ok t = true) ∧ I (d ++ [(v, true)]) w3) := by
          refine ⟨?_, by simp; omega, ?_, hI3⟩
          · rw [h1, HA.out.1, HA.out.2.2]
            cases unT r <;> simp
          · intro t ht
            rcases List.mem_append.1 ht with ht | ht
            · exact h3 t ht
            · rw [List.mem_singleton.1 ht]; exact HOK.out v
        clear h1 h2 h3 h4 hh
        go_wp2_with fail
        go_roundw
        case rel => exact ⟨k + 3, _, by go_num, hk3, HN⟩
        case measure => simp [intOf]; omega
      · obtain ⟨_, hsk, hdr, hmem⟩ := drop_head s k 37 r hr
        have HA : Hid (unT (s.data.toList.drop k) = none) := he
        have h37 : ((s[k].toNat : Int) == 37) = true := by rw [hsk]; rfl
        obtain ⟨q, hq, hqs, hsl⟩ := slice_from s (k + 1) (by omega)
        have hsl' : ∀ w, (Instr.slice 9 (.string s) (some (.int .i64 ((k : Int) + 1))) none none).run Tryd.prog w = .ok (.string q) w := fun w => by simpa using hsl w
        have HQ : Hid (rdD q.data.toList = none) := by show _ = _; rw [hq, hdr]; exact rdD_bad r hbad
        clear hsk hdr hmem he hr hq hqs hsl hbad
        go_wp2_with fail
        go_region_o
        go_wp2_with fail
        refine (readD_any q _ (HIT.out d _ (HIK.out d wr _ hh.out.2.2.2 ((Below.refl _ _).drew)))).mono ?_
        rintro e w2 ⟨rfl, hb2⟩
        rw [HQ.out]
        go_wp2_with fail
        go_ret
        obtain ⟨h1, h2, h3, h4⟩ := hh.out
        refine ⟨d, false, rfl, HIK.out d wr _ h4 ((Below.refl _ _).drew.trans (hb2.mono (by simp))), by omega, (fun h => by cases h), fun _ => .inl ?_⟩
        rw [h1, HA.out]; rfl
    · obtain rfl : k = s.size := by omega
      go_wp2_with fail
      go_ret
      obtain ⟨h1, h2, h3, h4⟩ := hh.out
      rw [List.drop_eq_nil_of_le (by rw [size_list]; exact Nat.le_refl _), unT_nil] at h1
      refine ⟨d, true, rfl, h4, by omega, fun _ => ⟨by rw [h1]; simp, h3⟩, (fun h => by cases h)⟩
end Go.Proofs.YtbmmlbphbllcoaaDoor

/-
  What allOf of the document's answers computes; no condition but that a string is no longer than Go allows.
-/
namespace Go.Proofs.YtbmmlbphbllcoaaDoor
open Go.RowKit

set_option maxHeartbeats 400000 in
set_option maxRecDepth 100000 in
theorem allOf_any (s f : ByteArray) (w : World) (hs : s.size ≤ maxLen) :
    Calls Tryd.prog 46 #[.string s, .string f] w fun e w' => e = .returned (.bool (allIn f.data.toList s.data.toList)) ∧ w' = w := by
  unfold maxLen at hs
  go_enter Tryd.func46, Tryd.ntmps46
  go_wp2_with fail
  go_loop [8] (fun i => ∃ k : Nat, k ≤ s.size ∧ i = .int .i64 k ∧ allIn f.data.toList (s.data.toList.take k) = true) (fun i => s.size - (intOf i).toNat)
  case atStart => exact ⟨0, Nat.zero_le _, rfl, rfl⟩
  case round =>
    obtain ⟨k, hk, rfl, hall⟩ := hrel
    have HA : Hid (allIn f.data.toList (s.data.toList.take k) = true) := hall
    clear hall
    by_cases hlt : k < s.size
    · cases ht : f.data.toList.contains s[k]
      · have HT : Hid (f.data.toList.contains s[k] = false) := ht
        clear ht
        go_wp2_with fail
        rw [extract_one s k hlt]
        refine (Tryd.strings_Contains_one _ _ _).mono ?_
        rintro e w' ⟨rfl, rfl⟩
        rw [← Lib.contains_iff_indexByte, HT.out]
        go_wp2_with fail
        go_ret
        refine ⟨ret_bool ?_, rfl⟩
        rw [allIn, all_false s (fun c => f.data.toList.contains c) k hlt HT.out]
      · have HT : Hid (f.data.toList.contains s[k] = true) := ht
        clear ht
        go_wp2_with fail
        rw [extract_one s k hlt]
        refine (Tryd.strings_Contains_one _ _ _).mono ?_
        rintro e w' ⟨rfl, rfl⟩
        rw [← Lib.contains_iff_indexByte, HT.out]
        go_wp2_with fail
        go_round
        case rel => exact ⟨k + 1, by omega, by go_num, by rw [take_snoc s k hlt, allIn, List.all_append, List.all_cons, HT.out, Bool.true_and, List.all_nil, Bool.and_true]; exact HA.out⟩
        case measure => simp [intOf]; omega
    · obtain rfl : k = s.size := by omega
      go_wp2_with fail
      go_ret
      refine ⟨ret_bool ?_, rfl⟩
      have h := HA.out
      rw [take_all] at h
      rw [h]
end Go.Proofs.YtbmmlbphbllcoaaDoor

/-
  The letters A to Z as a to z, byte by byte; no program is named here.
-/
namespace Go.Proofs.YtbmmlbphbllcoaaDoor
open Go.RowKit

theorem low_yes (c : UInt8) (h : 65 ≤ (c.toNat : Int)) (h' : (c.toNat : Int) ≤ 90) : ((low c).toNat : Int) = (c.toNat : Int) + 32 := by
  have e : (65 ≤ c && c ≤ 90) = true := by simp [UInt8.le_iff_toNat_le]; omega
  unfold low
  rw [if_pos e, UInt8.toNat_add]
  have : (32 : UInt8).toNat = 32 := rfl
  omega
theorem low_no (c : UInt8) (h : (c.toNat : Int) < 65 ∨ 90 < (c.toNat : Int)) : low c = c := by
  have e : (65 ≤ c && c ≤ 90) = false := by rw [Bool.eq_false_iff]; simp [UInt8.le_iff_toNat_le]; omega
  unfold low
  rw [e]; rfl

theorem lower_snoc (l : List UInt8) (c : UInt8) : lower (l ++ [c]) = lower l ++ [low c] := by simp [lower]
end Go.Proofs.YtbmmlbphbllcoaaDoor

/-
  What Lower of the document's answers computes: the letters A to Z as a to z; the string fits in the memory that Go's limits allow.
-/
namespace Go.Proofs.YtbmmlbphbllcoaaDoor
open Go.RowKit

theorem idx_great (c : UInt8) : (if 65 ≤ c && c ≤ 90 then (c.toNat : Int) - 65 else -1) = Lib.indexByte [65, 66, 67, 68, 69, 70, 71, 72, 73, 74, 75, 76, 77, 78, 79, 80, 81, 82, 83, 84, 85, 86, 87, 88, 89, 90] c := by
  have := byAll (fun c => decide ((if 65 ≤ c && c ≤ 90 then (c.toNat : Int) - 65 else -1) = Lib.indexByte [65, 66, 67, 68, 69, 70, 71, 72, 73, 74, 75, 76, 77, 78, 79, 80, 81, 82, 83, 84, 85, 86, 87, 88, 89, 90] c)) (by decide +kernel) c
  exact of_decide_eq_true this
theorem idx_yes (c : UInt8) (h : 65 ≤ (c.toNat : Int)) (h' : (c.toNat : Int) ≤ 90) : Lib.indexByte [65, 66, 67, 68, 69, 70, 71, 72, 73, 74, 75, 76, 77, 78, 79, 80, 81, 82, 83, 84, 85, 86, 87, 88, 89, 90] c = ((c.toNat - 65 : Nat) : Int) := by
  rw [← idx_great, if_pos (by simp [UInt8.le_iff_toNat_le]; omega)]; omega
theorem idx_no (c : UInt8) (h : (c.toNat : Int) < 65 ∨ 90 < (c.toNat : Int)) : Lib.indexByte [65, 66, 67, 68, 69, 70, 71, 72, 73, 74, 75, 76, 77, 78, 79, 80, 81, 82, 83, 84, 85, 86, 87, 88, 89, 90] c = -1 := by
  rw [← idx_great, if_neg (by simp [UInt8.le_iff_toNat_le]; omega)]

theorem u8_back (c : UInt8) : ((c.toNat : Int)).toNat.toUInt8 = c := by simp

theorem great_yes (c : UInt8) (n : Nat) (hn : (c.toNat : Int) = n + 65) (hn' : n < 26) (w : World) :
    Calls Tryd.prog 48 #[.string ⟨#[65, 66, 67, 68, 69, 70, 71, 72, 73, 74, 75, 76, 77, 78, 79, 80, 81, 82, 83, 84, 85, 86, 87, 88, 89, 90]⟩, .int .u8 (c.toNat : Int)] w fun e w' => e = .returned (.int .i64 (n : Int)) ∧ w' = w := by
  refine (Tryd.strings_IndexByte _ _ _).mono ?_
  rintro e w' ⟨rfl, rfl⟩
  refine ⟨?_, rfl⟩
  rw [u8_back]
  have h := idx_yes c (by omega) (by omega)
  have e : c.toNat - 65 = n := by omega
  rw [e] at h
  exact congrArg (fun x => Ending.returned (.int .i64 x)) h

theorem great_no (c : UInt8) (h : (c.toNat : Int) < 65 ∨ 90 < (c.toNat : Int)) (w : World) :
    Calls Tryd.prog 48 #[.string ⟨#[65, 66, 67, 68, 69, 70, 71, 72, 73, 74, 75, 76, 77, 78, 79, 80, 81, 82, 83, 84, 85, 86, 87, 88, 89, 90]⟩, .int .u8 (c.toNat : Int)] w fun e w' => e = .returned (.int .i64 (-1)) ∧ w' = w := by
  refine (Tryd.strings_IndexByte _ _ _).mono ?_
  rintro e w' ⟨rfl, rfl⟩
  refine ⟨?_, rfl⟩
  rw [u8_back]
  exact congrArg (fun x => Ending.returned (.int .i64 x)) (idx_no c h)

theorem app_list1 (l : List UInt8) (c : UInt8) : (⟨l.toArray⟩ : ByteArray) ++ ⟨#[c]⟩ = ⟨(l ++ [c]).toArray⟩ := by
  rw [ByteArray.mk_append_mk]

theorem small_at (c : UInt8) (n : Nat) (hn : (c.toNat : Int) = n + 65) (hn' : n < 26) : (⟨#[97, 98, 99, 100, 101, 102, 103, 104, 105, 106, 107, 108, 109, 110, 111, 112, 113, 114, 115, 116, 117, 118, 119, 120, 121, 122]⟩ : ByteArray).extract n (n + 1) = ⟨#[low c]⟩ := by
  rw [extract_one _ n (by exact hn')]
  have h : ∀ m : Fin 26, (#[97, 98, 99, 100, 101, 102, 103, 104, 105, 106, 107, 108, 109, 110, 111, 112, 113, 114, 115, 116, 117, 118, 119, 120, 121, 122] : Array UInt8)[m.val]'(by exact m.isLt) = low (UInt8.ofNat (m.val + 65)) := by decide +kernel
  have e : UInt8.ofNat (n + 65) = c := by
    apply UInt8.toNat.inj
    rw [UInt8.toNat_ofNat']
    omega
  have h' := h ⟨n, hn'⟩
  simp only [e] at h'
  exact congrArg (fun x => (⟨#[x]⟩ : ByteArray)) h'

theorem lower_step (s : ByteArray) (k : Nat) (h : k < s.size) : (⟨(lower (s.data.toList.take k)).toArray⟩ : ByteArray) ++ ⟨#[low s[k]]⟩ = ⟨(lower (s.data.toList.take (k + 1))).toArray⟩ := by
  rw [app_list1, take_snoc s k h, lower_snoc]

theorem lower_len (s : ByteArray) (k : Nat) (h : k ≤ s.size) : (⟨(lower (s.data.toList.take k)).toArray⟩ : ByteArray).size = k := by
  rw [← size_list]; simp [lower]
  have := size_list s
  simp at this
  omega

set_option maxHeartbeats 1000000 in
set_option maxRecDepth 100000 in
theorem rlower_any (s : ByteArray) (w : World) (hs : s.size ≤ 140737488351232) :
    Calls Tryd.prog 47 #[.string s] w fun e w' => e = .returned (.string ⟨(lower s.data.toList).toArray⟩) ∧ w' = w := by
  go_enter Tryd.func47, Tryd.ntmps47
  go_wp2_with fail
  go_loop [3, 8] (fun o i => ∃ k : Nat, ∃ t : ByteArray, k ≤ s.size ∧ i = .int .i64 k ∧ o = .string t ∧ t = ⟨(lower (s.data.toList.take k)).toArray⟩) (fun _ i => s.size - (intOf i).toNat)
  case atStart => exact ⟨0, _, Nat.zero_le _, rfl, rfl, rfl⟩
  case round =>
    obtain ⟨k, t, hk, rfl, rfl, ht⟩ := hrel
    have htl : t.size = k := by rw [ht]; exact lower_len s k hk
    have HT : Hid (t = ⟨(lower (s.data.toList.take k)).toArray⟩) := ht
    have hts : t.size ≤ 140737488351232 := by omega
    clear ht htl
    by_cases hlt : k < s.size
    · rcases (show (s[k].toNat : Int) < 65 ∨ (65 ≤ (s[k].toNat : Int) ∧ (s[k].toNat : Int) ≤ 90) ∨ 91 ≤ (s[k].toNat : Int) from by omega) with h | ⟨h, h'⟩ | h
      · go_wp2_with fail
        refine (great_no _ (by omega) _).mono ?_
        rintro e w' ⟨rfl, rfl⟩
        go_wp2_with fail
        go_round
        case rel => exact ⟨k + 1, _, by omega, by go_num, rfl, by rw [HT.out, extract_one s k hlt, ← lower_step s k hlt, low_no s[k] (by omega)]⟩
        case measure => simp [intOf]; omega
      · obtain ⟨n, hn⟩ : ∃ n : Nat, (s[k].toNat : Int) = n + 65 := ⟨s[k].toNat - 65, by omega⟩
        have hn' : n < 26 := by omega
        have HN : Hid ((s[k].toNat : Int) = n + 65) := hn
        clear hn
        go_wp2_with fail
        refine (great_yes _ n HN.out hn' _).mono ?_
        rintro e w' ⟨rfl, rfl⟩
        go_wp2_with fail
        go_round
        case rel => exact ⟨k + 1, _, by omega, by go_num, rfl, by rw [HT.out, small_at s[k] n HN.out hn', ← lower_step s k hlt]⟩
        case measure => simp [intOf]; omega
      · go_wp2_with fail
        refine (great_no _ (by omega) _).mono ?_
        rintro e w' ⟨rfl, rfl⟩
        go_wp2_with fail
        go_round
        case rel => exact ⟨k + 1, _, by omega, by go_num, rfl, by rw [HT.out, extract_one s k hlt, ← lower_step s k hlt, low_no s[k] (by omega)]⟩
        case measure => simp [intOf]; omega
    · obtain rfl : k = s.size := by omega
      go_wp2_with fail
      go_ret
      exact ⟨ret_str (by rw [HT.out, take_all]), rfl⟩
end Go.Proofs.YtbmmlbphbllcoaaDoor

/-
  The calendar in plain numbers: leap years, months, how many days are ahead of a year and of a month; days and their numbers, one for one. No program is named here.
-/
namespace Go.Proofs.YtbmmlbphbllcoaaDoor
open Go.RowKit

def lp (y : Int) : Int := if y % 4 = 0 ∧ (y % 100 ≠ 0 ∨ y % 400 = 0) then 1 else 0
def lpB (y : Int) : Bool := lp y == 1
def dim (y m : Int) : Int := if m = 2 then 28 + lp y else if m = 4 ∨ m = 6 ∨ m = 9 ∨ m = 11 then 30 else 31
def dby (y : Int) : Int := (y - 1970) * 365 + ((y - 1) / 4 - (y - 1) / 100 + (y - 1) / 400) - 477
def cum (y m : Int) : Int :=
  if m ≤ 1 then 0 else if m = 2 then 31 else if m = 3 then 59 + lp y else if m = 4 then 90 + lp y else if m = 5 then 120 + lp y
  else if m = 6 then 151 + lp y else if m = 7 then 181 + lp y else if m = 8 then 212 + lp y else if m = 9 then 243 + lp y
  else if m = 10 then 273 + lp y else if m = 11 then 304 + lp y else if m = 12 then 334 + lp y else 365 + lp y
def num (y m d : Int) : Int := dby y + cum y m + d - 1
def vldB (y m d : Int) : Bool := decide (1970 ≤ y ∧ y ≤ 9999 ∧ 1 ≤ m ∧ m ≤ 12 ∧ 1 ≤ d ∧ d ≤ dim y m)

theorem vld_iff {y m d : Int} : vldB y m d = true ↔ 1970 ≤ y ∧ y ≤ 9999 ∧ 1 ≤ m ∧ m ≤ 12 ∧ 1 ≤ d ∧ d ≤ dim y m := by unfold vldB; simp
theorem vld_mk {y m d : Int} (h : 1970 ≤ y ∧ y ≤ 9999 ∧ 1 ≤ m ∧ m ≤ 12 ∧ 1 ≤ d ∧ d ≤ dim y m) : vldB y m d = true := vld_iff.2 h
theorem vld_no {y m d : Int} (h : ¬ (1970 ≤ y ∧ y ≤ 9999 ∧ 1 ≤ m ∧ m ≤ 12 ∧ 1 ≤ d ∧ d ≤ dim y m)) : vldB y m d = false := by unfold vldB; simpa using h

theorem lp_01 (y : Int) : 0 ≤ lp y ∧ lp y ≤ 1 := by unfold lp; split <;> omega
theorem lp_or (y : Int) : lp y = 0 ∨ lp y = 1 := by unfold lp; split <;> simp
theorem dim_lo (y m : Int) : 28 ≤ dim y m ∧ dim y m ≤ 31 := by
  have := lp_01 y
  unfold dim; split <;> (try split) <;> omega
theorem dby_succ (y : Int) : dby (y + 1) = dby y + 365 + lp y := by
  unfold dby lp; split <;> omega
theorem dby_mono (a b : Int) (h : a ≤ b) : dby a ≤ dby b := by unfold dby; omega
theorem dby_bd (a : Int) (h0 : 1970 ≤ a) (h : a ≤ 10000) : 0 ≤ dby a ∧ dby a ≤ 2932897 := by unfold dby; omega
theorem dby_0 : dby 1970 = 0 := by decide
theorem dby_max : dby 10000 = 2932897 := by decide
theorem dby_guess (n : Int) (h : 0 ≤ n) : dby (1970 + n / 366) ≤ n := by unfold dby; omega
theorem dby_400 (y : Int) : dby (y + 400) = dby y + 146097 := by unfold dby; omega
theorem lp_400 (y : Int) : lp (y + 400) = lp y := by unfold lp; split <;> split <;> omega
theorem dim_400 (y m : Int) : dim (y + 400) m = dim y m := by unfold dim; rw [lp_400]
theorem cum_400 (y m : Int) : cum (y + 400) m = cum y m := by unfold cum; rw [lp_400]

theorem m12 {m : Int} (h1 : 1 ≤ m) (h2 : m ≤ 12) : m = 1 ∨ m = 2 ∨ m = 3 ∨ m = 4 ∨ m = 5 ∨ m = 6 ∨ m = 7 ∨ m = 8 ∨ m = 9 ∨ m = 10 ∨ m = 11 ∨ m = 12 := by omega

theorem cum_succ (y m : Int) (h1 : 1 ≤ m) (h2 : m ≤ 12) : cum y (m + 1) = cum y m + dim y m := by
  rcases m12 h1 h2 with rfl | rfl | rfl | rfl | rfl | rfl | rfl | rfl | rfl | rfl | rfl | rfl <;> simp [cum, dim] <;> omega
theorem cum_one (y : Int) : cum y 1 = 0 := by simp [cum]
theorem cum_13 (y : Int) : cum y 13 = 365 + lp y := by simp [cum]
theorem cum_bd (y m : Int) : 0 ≤ cum y m ∧ cum y m ≤ 366 := by
  have := lp_01 y
  unfold cum
  repeat (first | omega | split)
theorem cum_mono (y a b : Int) (h1 : 1 ≤ a) (h2 : a < b) (h3 : b ≤ 13) : cum y a + dim y a ≤ cum y b := by
  have := lp_01 y
  rcases m12 h1 (show a ≤ 12 by omega) with rfl | rfl | rfl | rfl | rfl | rfl | rfl | rfl | rfl | rfl | rfl | rfl
  all_goals
    rcases (show b = 2 ∨ b = 3 ∨ b = 4 ∨ b = 5 ∨ b = 6 ∨ b = 7 ∨ b = 8 ∨ b = 9 ∨ b = 10 ∨ b = 11 ∨ b = 12 ∨ b = 13 by omega) with rfl | rfl | rfl | rfl | rfl | rfl | rfl | rfl | rfl | rfl | rfl | rfl
    all_goals first | omega | (simp [cum, dim] <;> omega)

theorem num_lo {y m d : Int} (h : vldB y m d = true) : dby y ≤ num y m d ∧ num y m d < dby (y + 1) := by
  obtain ⟨a, b, c, e, f, g⟩ := vld_iff.1 h
  have h1 := cum_bd y m
  have h2 := cum_succ y m c e
  have h3 : cum y (m + 1) ≤ cum y 13 := by
    by_cases hm : m = 12
    · subst hm; exact Int.le_refl _
    · have := cum_mono y (m + 1) 13 (by omega) (by omega) (by omega)
      have := dim_lo y (m + 1); omega
  have h4 := dby_succ y
  rw [cum_13] at h3
  unfold num; omega
theorem num_bd {y m d : Int} (h : vldB y m d = true) : 0 ≤ num y m d ∧ num y m d ≤ 2932896 := by
  obtain ⟨a, b, _⟩ := vld_iff.1 h
  have h1 := num_lo h
  have h2 := dby_bd y a (by omega)
  have h3 := dby_mono (y + 1) 10000 (by omega)
  rw [dby_max] at h3; omega

theorem num_lt {y m d z k c : Int} (h : vldB y m d = true) (h' : vldB z k c = true) (hl : y < z ∨ y = z ∧ (m < k ∨ m = k ∧ d < c)) : num y m d < num z k c := by
  rcases hl with hl | ⟨rfl, hl | ⟨rfl, hl⟩⟩
  · have := num_lo h
    have := num_lo h'
    have := dby_mono (y + 1) z (by omega)
    omega
  · obtain ⟨a, b, c, e, f, g⟩ := vld_iff.1 h
    obtain ⟨a', b', c', e', f', g'⟩ := vld_iff.1 h'
    have := cum_mono y m k c hl (by omega)
    unfold num; omega
  · unfold num; omega
theorem num_order {y m d z k c : Int} (h : vldB y m d = true) (h' : vldB z k c = true) : num y m d < num z k c ↔ y < z ∨ y = z ∧ (m < k ∨ m = k ∧ d < c) := by
  refine ⟨fun hl => ?_, num_lt h h'⟩
  by_cases g : y < z ∨ y = z ∧ (m < k ∨ m = k ∧ d < c)
  · exact g
  · rcases (show z < y ∨ z = y ∧ (k < m ∨ k = m ∧ c < d) ∨ (y = z ∧ m = k ∧ d = c) by omega) with g' | g' | ⟨rfl, rfl, rfl⟩
    · have := num_lt h' h (.inl g'); omega
    · have := num_lt h' h (.inr g'); omega
    · omega
theorem num_inj {y m d z k c : Int} (h : vldB y m d = true) (h' : vldB z k c = true) (e : num y m d = num z k c) : y = z ∧ m = k ∧ d = c := by
  have a := (num_order h h').2
  have b := (num_order h' h).2
  rcases (show (y < z ∨ y = z ∧ (m < k ∨ m = k ∧ d < c)) ∨ (z < y ∨ z = y ∧ (k < m ∨ k = m ∧ c < d)) ∨ (y = z ∧ m = k ∧ d = c) by omega) with g | g | g
  · have := a g; omega
  · have := b g; omega
  · exact g
theorem num_400 (y m d : Int) : num (y + 400) m d = num y m d + 146097 := by
  unfold num; rw [dby_400, cum_400]; omega
theorem vld_400 (y m d : Int) (h : vldB y m d = true) (h' : y ≤ 9599) : vldB (y + 400) m d = true := by
  have := vld_iff.1 h
  refine vld_mk ?_
  rw [dim_400]; omega
theorem vld_400' (y m d : Int) (h : vldB (y + 400) m d = true) (h' : 1970 ≤ y) : vldB y m d = true := by
  have := vld_iff.1 h
  rw [dim_400] at this
  exact vld_mk (by omega)

theorem num_of (n y k : Int) : num y k (n - dby y - cum y k + 1) = n := by unfold num; omega
theorem vld_of (n y k : Int) (a : 1970 ≤ y) (b : y ≤ 9999) (c : 1 ≤ k) (d : k ≤ 12) (e : 0 ≤ n - dby y - cum y k) (f : n - dby y - cum y k < dim y k) : vldB y k (n - dby y - cum y k + 1) = true :=
  vld_mk (by omega)

/-- the day behind a day -/
theorem num_next {y m d z k c : Int} (h : vldB y m d = true) (h' : vldB z k c = true) (e : num z k c = num y m d + 1) :
    (z = y ∧ k = m ∧ c = d + 1 ∧ c ≤ 31) ∨ (z = y ∧ k = m + 1 ∧ c = 1 ∧ 28 ≤ d ∧ d ≤ 31) ∨ (z = y + 1 ∧ m = 12 ∧ k = 1 ∧ c = 1 ∧ 28 ≤ d ∧ d ≤ 31) := by
  obtain ⟨a1, a2, a3, a4, a5, a6⟩ := vld_iff.1 h
  have hd := dim_lo y m
  have b := vld_iff.1 h'
  by_cases h1 : d < dim y m
  · have hv : vldB y m (d + 1) = true := vld_mk (by omega)
    have := num_inj h' hv (by rw [e]; unfold num; omega)
    left; omega
  · by_cases h2 : m = 12
    · subst h2
      have hy : y < 9999 := by
        by_cases hy : y < 9999
        · exact hy
        · have hb := num_bd h'
          obtain rfl : y = 9999 := by omega
          rw [e] at hb
          have h3 : dim 9999 12 = 31 := by decide
          obtain rfl : d = 31 := by omega
          have h4 : num 9999 12 31 = 2932896 := by decide
          rw [h4] at hb; omega
      have hdd := dim_lo (y + 1) 1
      have hv : vldB (y + 1) 1 1 = true := vld_mk (by omega)
      have h4 := dby_succ y
      have h5 : cum y 12 = 334 + lp y := by simp [cum]
      have h6 : dim y 12 = 31 := by simp [dim]
      have := num_inj h' hv (by rw [e]; unfold num; rw [cum_one]; omega)
      right; right; omega
    · have hdd := dim_lo y (m + 1)
      have hv : vldB y (m + 1) 1 = true := vld_mk (by omega)
      have hc := cum_succ y m a3 a4
      have := num_inj h' hv (by rw [e]; unfold num; omega)
      right; left; omega
end Go.Proofs.YtbmmlbphbllcoaaDoor

/-
  Dates as lists of bytes: the names of days and months, numbers in two and in four digits, the text of a second; no program is named here.
-/
namespace Go.Proofs.YtbmmlbphbllcoaaDoor
open Go.RowKit

def weekL : List (List UInt8) := [[84, 104, 117], [70, 114, 105], [83, 97, 116], [83, 117, 110], [77, 111, 110], [84, 117, 101], [87, 101, 100]]
def monthL : List (List UInt8) := [[74, 97, 110], [70, 101, 98], [77, 97, 114], [65, 112, 114], [77, 97, 121], [74, 117, 110], [74, 117, 108], [65, 117, 103], [83, 101, 112], [79, 99, 116], [78, 111, 118], [68, 101, 99]]
def weekS (k : Nat) : List UInt8 := weekL.getD k []
def monthS (k : Nat) : List UInt8 := monthL.getD k []
def dg (u : Nat) : UInt8 := UInt8.ofNat (48 + u)
def dig2 (u : Nat) : List UInt8 := [dg (u / 10), dg (u % 10)]
def dig4 (u : Nat) : List UInt8 := [dg (u / 1000), dg (u / 100 % 10), dg (u / 10 % 10), dg (u % 10)]

/-- the text of second n, on the day (y, m, d) -/
def dtext (n y m d : Int) : List UInt8 :=
  weekS (n / 86400 % 7).toNat ++ [44, 32] ++ dig2 d.toNat ++ [32] ++ monthS (m - 1).toNat ++ [32] ++ dig4 y.toNat ++ [32]
    ++ dig2 (n % 86400 / 3600).toNat ++ [58] ++ dig2 (n % 3600 / 60).toNat ++ [58] ++ dig2 (n % 60).toNat ++ [32, 71, 77, 84]

theorem week_len (k : Nat) (h : k < 7) : (weekS k).length = 3 := by
  rcases (show k = 0 ∨ k = 1 ∨ k = 2 ∨ k = 3 ∨ k = 4 ∨ k = 5 ∨ k = 6 by omega) with rfl | rfl | rfl | rfl | rfl | rfl | rfl <;> rfl
theorem month_len (k : Nat) (h : k < 12) : (monthS k).length = 3 := by
  rcases (show k = 0 ∨ k = 1 ∨ k = 2 ∨ k = 3 ∨ k = 4 ∨ k = 5 ∨ k = 6 ∨ k = 7 ∨ k = 8 ∨ k = 9 ∨ k = 10 ∨ k = 11 by omega) with rfl | rfl | rfl | rfl | rfl | rfl | rfl | rfl | rfl | rfl | rfl | rfl <;> rfl
theorem dig2_len (u : Nat) : (dig2 u).length = 2 := rfl
theorem dig4_len (u : Nat) : (dig4 u).length = 4 := rfl

theorem dec_1 (u : Nat) (h : u < 10) : [48] ++ Lib.decDigits u = dig2 u := by
  rw [Lib.decDigits_one h]
  unfold dig2
  rw [show u / 10 = 0 by omega, show u % 10 = u by omega]; rfl
theorem dec_2 (u : Nat) (h1 : ¬ u < 10) (h2 : u < 100) : Lib.decDigits u = dig2 u := Lib.decDigits_two h1 h2
theorem dec_4 (u : Nat) (h1 : 1000 ≤ u) (h2 : u ≤ 9999) : Lib.decDigits u = dig4 u := by
  rw [Lib.decDigits, dif_neg (by omega), Lib.decDigits, dif_neg (by omega), Lib.decDigits_two (by omega) (by omega)]
  unfold dig4
  rw [show u / 10 / 10 / 10 = u / 1000 by omega, show u / 10 / 10 % 10 = u / 100 % 10 by omega]
  rfl

theorem dtext_len (n y m d : Int) (h1 : 1 ≤ m) (h2 : m ≤ 12) : (dtext n y m d).length = 29 := by
  unfold dtext
  simp only [List.length_append, dig2_len, dig4_len, week_len (n / 86400 % 7).toNat (by omega), month_len (m - 1).toNat (by omega), List.length_cons, List.length_nil]
end Go.Proofs.YtbmmlbphbllcoaaDoor

/-
  What chr of the document's answers computes, a contract over the program's text.
-/
namespace Go.Proofs.YtbmmlbphbllcoaaDoor
open Go.RowKit

theorem mk_data (s : ByteArray) (l : List UInt8) (h : s.data.toList = l) : s = ⟨l.toArray⟩ := by
  apply ByteArray.ext
  rw [← h, Array.toArray_toList]
theorem app_list (a b : ByteArray) : (a ++ b).data.toList = a.data.toList ++ b.data.toList := by
  rw [ByteArray.data_append, Array.toList_append]

set_option maxHeartbeats 1000000 in
set_option maxRecDepth 100000 in
theorem rchr_any (u : Nat) (h : u < 256) (w : World) :
    Calls Tryd.prog 49 #[.int .i64 (u : Int)] w fun e w' => e = .returned (.string ⟨#[UInt8.ofNat u]⟩) ∧ Below w.heap.size w w' := by
  have h1 : (u : Int) < 256 := by omega
  have h0 : (0 : Int) ≤ (u : Int) := by omega
  have hcv := run_convert_bytes_back (P := Tryd.prog) (w.alloc (.cells #[.int .u8 (u : Int)] 5)) 35 9 5 ⟨w.heap.size, 0, none⟩ 1 [UInt8.ofNat u] Tryd.underlying35 Tryd.underlying5 Tryd.underlying9 (fun j hj => by
    have hj' : j < 1 := hj
    obtain rfl : j = 0 := by omega
    rw [show (⟨w.heap.size, 0, none⟩ : Addr).add 0 = ⟨w.heap.size, 0, none⟩ from rfl, World.cell?_alloc_at _ _ _ _ (by simp)]
    simp [Nat.mod_eq_of_lt h])
  rw [show ([UInt8.ofNat u] : List UInt8).length = 1 from rfl] at hcv
  go_enter Tryd.func49, Tryd.ntmps49
  go_wp2_with fail
  go_ret
  exact ⟨rfl, (Below.refl _ w).alloc (Nat.le_refl _) _⟩
end Go.Proofs.YtbmmlbphbllcoaaDoor

/-
  What unescaped of the document's answers computes: the bytes that a text tells, and which of them were escaped; the text has at most 200 bytes.
-/
namespace Go.Proofs.YtbmmlbphbllcoaaDoor
open Go.RowKit

def lenS : Value → Nat
  | .string s => s.size
  | _ => 0
def firsts (ts : List Tk) : ByteArray := ⟨(ts.map (·.1)).toArray⟩
def seconds (ts : List Tk) : List Value := ts.map fun t => .bool t.2
theorem firsts_snoc (ts : List Tk) (c : UInt8) (b : Bool) : firsts ts ++ ⟨#[c]⟩ = firsts (ts ++ [(c, b)]) := by
  apply ByteArray.ext; apply Array.ext'
  simp [firsts]
theorem seconds_snoc (ts : List Tk) (c : UInt8) (b : Bool) : seconds ts ++ [.bool b] = seconds (ts ++ [(c, b)]) := by simp [seconds]
theorem infoB : (Tryd.prog.info? 4).map (fun i => (i.zero, i.size, i.bytes)) = some (some (.bool false), 1, 1) := by kernel_rfl
theorem hex_set (c : UInt8) : [48, 49, 50, 51, 52, 53, 54, 55, 56, 57, 97, 98, 99, 100, 101, 102, 65, 66, 67, 68, 69, 70].contains c = (hexv c).isSome := by
  have := byAll (fun c => decide ([48, 49, 50, 51, 52, 53, 54, 55, 56, 57, 97, 98, 99, 100, 101, 102, 65, 66, 67, 68, 69, 70].contains c = (hexv c).isSome)) (by decide +kernel) c
  exact of_decide_eq_true this
theorem hex_idx (c : UInt8) : (hexv c).isSome = true → Lib.indexByte [48, 49, 50, 51, 52, 53, 54, 55, 56, 57, 97, 98, 99, 100, 101, 102] (low c) = (((hexv c).getD 0 : Nat) : Int) := by
  have := byAll (fun c => decide ((hexv c).isSome = true → Lib.indexByte [48, 49, 50, 51, 52, 53, 54, 55, 56, 57, 97, 98, 99, 100, 101, 102] (low c) = (((hexv c).getD 0 : Nat) : Int))) (by decide +kernel) c
  exact of_decide_eq_true this
theorem hex_all (a b : UInt8) : allIn [48, 49, 50, 51, 52, 53, 54, 55, 56, 57, 97, 98, 99, 100, 101, 102, 65, 66, 67, 68, 69, 70] [a, b] = ((hexv a).isSome && (hexv b).isSome) := by
  unfold allIn
  simp only [List.all_cons, List.all_nil, Bool.and_true, hex_set]
theorem idx_hex (a : UInt8) (x : Nat) (ha : hexv a = some x) (w : World) :
    Calls Tryd.prog 48 #[.string ⟨#[48, 49, 50, 51, 52, 53, 54, 55, 56, 57, 97, 98, 99, 100, 101, 102]⟩, .int .u8 ((low a).toNat : Int)] w fun e w' => e = .returned (.int .i64 (x : Int)) ∧ w' = w := by
  have h := hex_idx a (by rw [ha]; rfl)
  rw [ha] at h
  refine (Tryd.strings_IndexByte _ _ _).mono ?_
  rintro e w' ⟨rfl, rfl⟩
  refine ⟨?_, rfl⟩
  rw [show ((low a).toNat : Int).toNat.toUInt8 = low a by simp]
  exact congrArg (fun z => Ending.returned (.int .i64 z)) h
set_option maxHeartbeats 4000000 in
set_option maxRecDepth 100000 in
theorem runesc_any (s : ByteArray) (w : World) (hs : s.size ≤ 200) :
    Calls Tryd.prog 28 #[.string s] w fun e w' => Below w.heap.size w w' ∧ ((unT s.data.toList = none ∧ e = .returned (.tuple #[.string ⟨#[]⟩, .slice none 0 0, .bool false])) ∨
      ∃ ts v, unT s.data.toList = some ts ∧ e = .returned (.tuple #[.string (firsts ts), v, .bool true]) ∧ w'.ownsRow w.heap.size 4 1 v ts.length (seconds ts)) := by
  obtain ⟨i0, hi, hz0, hz1, hz2⟩ := info_parts infoB
  go_enter Tryd.func28, Tryd.ntmps28
  go_wp2_with fail
  go_loopw [0, 5, 6] (fun sv ov bv wr => ∃ (r : ByteArray) (acc : List Tk), sv = .string r ∧ ov = .string (firsts acc) ∧ unT s.data.toList = (unT r.data.toList).map (acc ++ ·) ∧ acc.length + r.size ≤ 200 ∧ wr.ownsRow w.heap.size 4 1 bv acc.length (seconds acc) ∧ Below w.heap.size w wr) (fun sv _ _ _ => lenS sv)
  case atStart => exact ⟨s, [], rfl, rfl, by cases unT s.data.toList <;> simp, by simpa using hs, World.ownsRow_nil _ _ _ _, Below.refl _ _⟩
  case round =>
    obtain ⟨r, acc, rfl, rfl, hun, hlen, hown, hw⟩ := hrel
    have hsz := hw.size
    obtain ⟨bad, bcap, rfl, _⟩ := own_form2 hown
    have HUN : Hid (unT s.data.toList = (unT r.data.toList).map (acc ++ ·)) := hun
    have HOWN : Hid (∀ W : World, Below wr.heap.size wr W → W.ownsRow w.heap.size 4 1 (.slice bad acc.length bcap) acc.length (seconds acc)) := fun W h => own_below3 hown h
    have hfs : (firsts acc).size = acc.length := by rw [← size_list]; simp [firsts]
    clear hun
    rcases unT_cases r.data.toList with h0 | ⟨c, t, hr, hc, he⟩ | ⟨a, b, x, y, t, hr, ha, hb, he⟩ | ⟨he, t, hr, hbad⟩
    · have hr0 : r = ⟨#[]⟩ := by apply ByteArray.ext; apply Array.ext'; exact h0
      subst hr0
      go_wp2_with fail
      go_ret3
      refine ⟨hw, .inr ⟨acc, ?_, .slice bad acc.length bcap, rfl, hown⟩⟩
      rw [HUN.out]
      simp [unT_nil]
    · have hrs : 0 < r.size := by rw [← size_list, hr]; simp
      have hem : r.toList.isEmpty = false := by
        rw [ByteArray.toList_eq, hr]; rfl
      have h0c : r[0] = c := by
        have : r.data.toList[0]'(by rw [hr]; simp) = c := by simp [hr]
        rw [← this]; rfl
      have hne : ((r[0].toNat : Int) != 37) = true := by
        rw [h0c, bne_iff_ne]
        intro h
        exact hc (UInt8.toNat_inj.1 (by have h37 : (37 : UInt8).toNat = 37 := rfl; omega))
      obtain ⟨q, hq, hqs, hsl⟩ := slice_from r 1 (by omega)
      obtain ⟨p, hp, hps, hsp⟩ := slice_to r 1 (by omega)
      have hp1 : p = ⟨#[c]⟩ := by apply ByteArray.ext; apply Array.ext'; rw [hp, hr]; rfl
      subst hp1
      have HQ : Hid (q.data.toList = t) := by show _ = _; rw [hq, hr]; rfl
      have HE : Hid (unT s.data.toList = (unT q.data.toList).map ((acc ++ [(c, false)]) ++ ·)) := by
        show _ = _
        rw [HUN.out, he, HQ.out]
        cases unT t <;> simp
      have hadd : ¬ 9223372036854775807 < (firsts acc).size + 1 := by omega
      have hadd2 : ¬ 9223372036854775807 < (firsts acc).size + (⟨#[c]⟩ : ByteArray).size := by rw [hps]; omega
      clear hfs
      have HFI : Hid (firsts acc ++ ⟨#[c]⟩ = firsts (acc ++ [(c, false)])) := firsts_snoc acc c false
      have hsl' : ∀ w, (Instr.slice 9 (.string r) (some (.int .i64 1)) none none).run Tryd.prog w = .ok (.string q) w := fun w => by simpa using hsl w
      have hsp' : ∀ w, (Instr.slice 9 (.string r) none (some (.int .i64 1)) none).run Tryd.prog w = .ok (.string ⟨#[c]⟩) w := fun w => by simpa using hsp w
      clear hr he hc hq h0c hown hsl hsp hp hps
      go_wp2_with fail
      go_region_held3 (fun _ => True) (trivial)
        ((refine step_append_lies _ (by rfl) _ _ _ (by rfl) w.heap.size 4 i0 (.bool false) 1 1 Tryd.underlying46 hi hz0 hz1 hz2 rfl (by omega) (.slice bad acc.length bcap) acc.length (seconds acc) (by rfl) (HOWN.out _ (((Below.refl _ _).alloc (Nat.le_refl _) _).drew)) ⟨wr.heap.size, 0, none⟩ 1 1 [.bool false] (by rfl) (by rfl) (World.news_of_block (cs := #[.bool false]) (t := 4) (fr := (0, 0)) (heap_alloc_new wr _)) (by simp [Value.oneCell']) (by omega) (by unfold maxLen; omega) (by omega) (by simp; omega) (wr.heap.size + 1) (by simp) ?_; intro gg cap w1 hown1 hgrow hat hlt))
      have hB : Below w.heap.size w w1 := ((hw.alloc hsz _).drew).grown hgrow (by simp; omega) (fun b hb => ((HOWN.out _ (Below.refl _ _)).lt b hb).1)
      have hown2 : w1.ownsRow w.heap.size 4 1 (.slice (some ⟨gg, 0, none⟩) (acc.length + 1) cap) (acc ++ [(c, false)]).length (seconds (acc ++ [(c, false)])) := by
        rw [← seconds_snoc, List.length_append]; exact hown1
      clear hown1 hgrow hat
      go_wp2_with fail
      go_roundw
      case rel => exact ⟨q, acc ++ [(c, false)], rfl, by rw [← HFI.out], HE.out, by simp; omega, hown2, hB⟩
      case measure => show q.size < r.size; omega
    · have hrs : 3 ≤ r.size := by rw [← size_list, hr]; simp
      have hem : r.toList.isEmpty = false := by
        rw [ByteArray.toList_eq, hr]; rfl
      have h0c : r[0] = 37 := by
        have : r.data.toList[0]'(by rw [hr]; simp) = 37 := by simp [hr]
        rw [← this]; rfl
      have hne : ((r[0].toNat : Int) != 37) = false := by rw [h0c]; rfl
      obtain ⟨q, hq, hqs, hsl⟩ := slice_from r 3 (by omega)
      obtain ⟨p, hp, hps, hsp⟩ := slice_part r 1 3 (by omega) (by omega)
      have hsl' : ∀ w, (Instr.slice 9 (.string r) (some (.int .i64 3)) none none).run Tryd.prog w = .ok (.string q) w := fun w => by simpa using hsl w
      have hsp' : ∀ w, (Instr.slice 9 (.string r) (some (.int .i64 1)) (some (.int .i64 3)) none).run Tryd.prog w = .ok (.string p) w := fun w => by simpa using hsp w
      have hpd : p.data.toList = [a, b] := by rw [hp, hr]; rfl
      have HQ : Hid (q.data.toList = t) := by show _ = _; rw [hq, hr]; rfl
      obtain ⟨N, hN⟩ : ∃ N, N = 16 * x + y := ⟨_, rfl⟩
      rw [← hN] at he
      have HE : Hid (unT s.data.toList = (unT q.data.toList).map ((acc ++ [(UInt8.ofNat N, true)]) ++ ·)) := by
        show _ = _
        rw [HUN.out, he, HQ.out]
        cases unT t <;> simp
      have HFI : Hid (firsts acc ++ ⟨#[UInt8.ofNat N]⟩ = firsts (acc ++ [(UInt8.ofNat N, true)])) := firsts_snoc acc _ true
      have hlt3 : ¬ (r.size : Int) < 3 := by omega
      have HAL : Hid (allIn [48, 49, 50, 51, 52, 53, 54, 55, 56, 57, 97, 98, 99, 100, 101, 102, 65, 66, 67, 68, 69, 70] p.data.toList = true) := by
        show _ = _
        rw [hpd]
        rw [hex_all, ha, hb]; rfl
      have HLO : Hid ((⟨(lower p.data.toList).toArray⟩ : ByteArray) = ⟨#[low a, low b]⟩) := by show _ = _; rw [hpd]; rfl
      have HA : Hid (hexv a = some x) := ha
      have HB : Hid (hexv b = some y) := hb
      have hx16 := hexv_lt a x ha
      have HWR : Hid (IntKind.i64.wrap (IntKind.i64.wrap (16 * (x : Int)) + (y : Int)) = (N : Int)) := by
        show _ = _
        have h16 := hexv_lt b y hb
        have e1 : IntKind.i64.wrap (16 * (x : Int)) = 16 * (x : Int) := by rw [IntKind.wrap_i64]; omega
        rw [e1]
        have e2 : IntKind.i64.wrap (16 * (x : Int) + (y : Int)) = 16 * (x : Int) + (y : Int) := by rw [IntKind.wrap_i64]; omega
        rw [e2]; omega
      have HWS : Hid (16 * (x : Int) + (y : Int) = (N : Int)) := by show _ = _; omega
      have hy16 := hexv_lt b y hb
      have hN256 : N < 256 := by omega
      clear hN
      clear hr he hq h0c hown hsl hsp hp
      go_wp2_with fail
      refine (allOf_any p _ _ (by rw [hps]; unfold maxLen; omega)).mono ?_
      rintro e w1 ⟨rfl, rfl⟩
      rw [HAL.out]
      go_wp2_with fail
      refine (rlower_any p _ (by omega)).mono ?_
      rintro e w1 ⟨rfl, rfl⟩
      rw [HLO.out]
      go_wp2_with fail
      go_quiet (first | (go_at_call 48; exact Calls.quiet_of_same (idx_hex a x HA.out _)) | (go_at_call 48; exact Calls.quiet_of_same (idx_hex b y HB.out _)))
      first | rw [HWR.out] | rw [HWS.out]
      have hB0 := drewN_below w1.heap.size w1 nq
      obtain ⟨wd, hwd⟩ : ∃ wd, wd = w1.drewN nq := ⟨_, rfl⟩
      rw [← hwd] at hB0 ⊢
      have HO2 : Hid (∀ W : World, Below wd.heap.size wd W → W.ownsRow w.heap.size 4 1 (.slice bad acc.length bcap) acc.length (seconds acc)) := fun W h => HOWN.out W (hB0.trans (h.mono hB0.size))
      have hwd2 := hw.trans (hB0.mono hsz)
      have hsz2 := hwd2.size
      clear hwd HOWN hB0
      have hadd : ¬ 9223372036854775807 < (firsts acc).size + 1 := by omega
      clear hfs
      go_wp2_with fail
      go_region_held3 (fun _ => True) (trivial)
        (first
          | (go_at_call 49; refine (rchr_any N hN256 _).mono ?_; rintro e w2 ⟨rfl, hb2⟩; first
              | (have hown2 := own_below3 hown3 hb2; have hB2 : Below w.heap.size w w2 := hB3.trans (hb2.mono hB3.size))
              | (have hb2' : Below wd.heap.size wd w2 := (Below.refl _ _).drew.trans (hb2.mono (by simp)); have hsw := hb2'.size)
              | (have hb2' : Below wd.heap.size wd w2 := ((Below.refl _ _).alloc (Nat.le_refl _) _).drew.trans (hb2.mono (by simp)); have hsw := hb2'.size; have hc2 : w2.heap[wd.heap.size]? = some (.cells #[.bool true] 4 (0, 0)) := (hb2.block _ (by simp)).trans (heap_alloc_new wd _)))
          | ((refine step_append_lies _ (by rfl) _ _ _ (by rfl) w.heap.size 4 i0 (.bool false) 1 1 Tryd.underlying46 hi hz0 hz1 hz2 rfl (by omega) (.slice bad acc.length bcap) acc.length (seconds acc) (by rfl) (HO2.out _ (hb2'.alloc hb2'.size _)) ⟨w2.heap.size, 0, none⟩ 1 1 [.bool true] (by rfl) (by rfl) (World.news_of_block (cs := #[.bool true]) (t := 4) (fr := (0, 0)) (heap_alloc_new w2 _)) (by simp [Value.oneCell']) (by omega) (by unfold maxLen; omega) (by omega) (by first | omega | (simp; omega)) (w2.heap.size + 1) (by first | rfl | simp) ?_; intro gg cap w3 hown3 hgrow hat hlt; have hB3 : Below w.heap.size w w3 := (hwd2.trans ((hb2'.alloc hb2'.size _).mono hsz2)).grown hgrow (by first | omega | (simp; omega)) (fun b hb => ((HO2.out _ (Below.refl _ _)).lt b hb).1)))
          | ((refine step_append_lies _ (by rfl) _ _ _ (by rfl) w.heap.size 4 i0 (.bool false) 1 1 Tryd.underlying46 hi hz0 hz1 hz2 rfl (by omega) (.slice bad acc.length bcap) acc.length (seconds acc) (by rfl) (HO2.out _ hb2') ⟨wd.heap.size, 0, none⟩ 1 1 [.bool true] (by rfl) (by rfl) (World.news_of_block (cs := #[.bool true]) (t := 4) (fr := (0, 0)) (hc2)) (by simp [Value.oneCell']) (by omega) (by unfold maxLen; omega) (by omega) (by first | omega | (simp; omega)) (w2.heap.size) (by first | rfl | simp) ?_; intro gg cap w3 hown3 hgrow hat hlt; have hB3 : Below w.heap.size w w3 := (hwd2.trans (hb2'.mono hsz2)).grown hgrow (by first | omega | (simp; omega)) (fun b hb => ((HO2.out _ (Below.refl _ _)).lt b hb).1))))
      all_goals
        have hown4 : w3.ownsRow w.heap.size 4 1 (.slice (some ⟨gg, 0, none⟩) (acc.length + 1) cap) (acc ++ [(UInt8.ofNat N, true)]).length (seconds (acc ++ [(UInt8.ofNat N, true)])) := by
          rw [← seconds_snoc, List.length_append]; exact hown3
        clear hown3 hgrow hat
        go_wp2_with fail
        go_roundw
        case rel => exact ⟨q, acc ++ [(UInt8.ofNat N, true)], rfl, by rw [← HFI.out], HE.out, by simp; omega, hown4, hB3⟩
        case measure => show q.size < r.size; omega
    · have hnone : unT s.data.toList = none := by rw [HUN.out, he]; rfl
      have hrs0 : 0 < r.size := by rw [← size_list, hr]; simp
      have hem : r.toList.isEmpty = false := by
        rw [ByteArray.toList_eq, hr]; rfl
      have h0c : r[0] = 37 := by
        have : r.data.toList[0]'(by rw [hr]; simp) = 37 := by simp [hr]
        rw [← this]; rfl
      have hne : ((r[0].toNat : Int) != 37) = false := by rw [h0c]; rfl
      have HNO : Hid (unT s.data.toList = none) := hnone
      by_cases hlt : r.size < 3
      · have hlt3 : (r.size : Int) < 3 := by omega
        clear he hr hbad h0c hown hnone hlt
        go_wp2_with fail
        go_ret3
        exact ⟨hw, .inl ⟨HNO.out, rfl⟩⟩
      · rcases hbad with hbad | ⟨a, b, t', rfl, hab⟩
        · rw [← size_list, hr, List.length_cons] at hlt; omega
        · obtain ⟨p, hp, hps, hsp⟩ := slice_part r 1 3 (by omega) (by omega)
          have hsp' : ∀ w, (Instr.slice 9 (.string r) (some (.int .i64 1)) (some (.int .i64 3)) none).run Tryd.prog w = .ok (.string p) w := fun w => by simpa using hsp w
          have hpd : p.data.toList = [a, b] := by rw [hp, hr]; rfl
          have HAL : Hid (allIn [48, 49, 50, 51, 52, 53, 54, 55, 56, 57, 97, 98, 99, 100, 101, 102, 65, 66, 67, 68, 69, 70] p.data.toList = false) := by
            show _ = _
            rw [hpd, hex_all]
            rcases hab with h | h <;> rw [h] <;> simp
          have hlt3 : ¬ (r.size : Int) < 3 := by omega
          clear he hr h0c hown hnone hlt hsp hp hab
          go_wp2_with fail
          refine (allOf_any p _ _ (by rw [hps]; unfold maxLen; omega)).mono ?_
          rintro e w1 ⟨rfl, rfl⟩
          rw [HAL.out]
          go_wp2_with fail
          go_ret3
          exact ⟨hw, .inl ⟨HNO.out, rfl⟩⟩
end Go.Proofs.YtbmmlbphbllcoaaDoor
