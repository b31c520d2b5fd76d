/-
  Plain functions on fields (a name and a value, each a list of bytes), and what is known of a list of fields in memory; no program is named here.
-/
import Derived.Test.YtoccjnbodoiibaaSpecT
import Derived.Handy
import Derived.Deep.Draws
namespace Go.Proofs.Ytoccjnbodoiibaa
open Go.RowKit

abbrev Fld := List UInt8 × List UInt8
def flds (ps : List Fld) : List Value := ps.flatMap fun x => [Value.string ⟨x.1.toArray⟩, Value.string ⟨x.2.toArray⟩]
theorem flds_snoc (ps : List Fld) (x : Fld) : flds ps ++ [Value.string ⟨x.1.toArray⟩, Value.string ⟨x.2.toArray⟩] = flds (ps ++ [x]) := by simp [flds]
theorem flds_app (ps qs : List Fld) : flds (ps ++ qs) = flds ps ++ flds qs := by simp [flds]
theorem flds_length (ps : List Fld) : (flds ps).length = ps.length * 2 := by
  induction ps with
  | nil => rfl
  | cons x ps ih =>
    have e : flds (x :: ps) = [Value.string ⟨x.1.toArray⟩, Value.string ⟨x.2.toArray⟩] ++ flds ps := by simp [flds]
    rw [e, List.length_append, ih, List.length_cons]; simp; omega
theorem flds_get (ps : List Fld) : ∀ (k : Nat) (h : k < ps.length), (flds ps)[k * 2]? = some (.string ⟨(ps[k]).1.toArray⟩) ∧ (flds ps)[k * 2 + 1]? = some (.string ⟨(ps[k]).2.toArray⟩) := by
  induction ps with
  | nil => intro k h; simp at h
  | cons x ps ih =>
    intro k h
    have e : flds (x :: ps) = Value.string ⟨x.1.toArray⟩ :: Value.string ⟨x.2.toArray⟩ :: flds ps := by simp [flds]
    rw [e]
    cases k with
    | zero => exact ⟨rfl, rfl⟩
    | succ k =>
      have := ih k (by simpa using h)
      rw [show (k + 1) * 2 = k * 2 + 1 + 1 from by omega, show k * 2 + 1 + 1 + 1 = (k * 2 + 1) + 1 + 1 from by omega, List.getElem?_cons_succ, List.getElem?_cons_succ, List.getElem?_cons_succ, List.getElem?_cons_succ]
      exact this

/-- A slice of fields that can be read. -/
def Fl (w : World) (v : Value) (ls : List Fld) : Prop :=
  ∃ ad cap, v = .slice ad ls.length cap ∧ ls.length ≤ cap ∧ cap ≤ maxLen ∧ (0 < ls.length → ∃ g off, ad = some ⟨g, off, none⟩ ∧ g < w.heap.size ∧
    ∀ (k : Nat) (h : k < ls.length), w.cell? ⟨g, off + k * 2, none⟩ = some (.string ⟨(ls[k]).1.toArray⟩) ∧ w.cell? ⟨g, off + k * 2 + 1, none⟩ = some (.string ⟨(ls[k]).2.toArray⟩))
/-- No name and no value is longer than so many bytes. -/
def Most (m : Nat) (ls : List Fld) : Prop := ∀ x ∈ ls, x.1.length ≤ m ∧ x.2.length ≤ m

/-- How many values and letters a list of fields holds. -/
def bulkF (ls : List Fld) : Nat := (ls.map fun y => y.1.length + y.2.length + 3).sum

theorem Fl.below {w w' : World} {v : Value} {ls : List Fld} (h : Fl w v ls) (hb : Below w.heap.size w w') : Fl w' v ls := by
  obtain ⟨ad, cap, hv, h1, h2, h3⟩ := h
  refine ⟨ad, cap, hv, h1, h2, fun h0 => ?_⟩
  obtain ⟨g, off, ha, hg, hc⟩ := h3 h0
  refine ⟨g, off, ha, Nat.lt_of_lt_of_le hg hb.size, fun k hk => ?_⟩
  obtain ⟨c1, c2⟩ := hc k hk
  exact ⟨(hb.cell (p := ⟨g, off + k * 2, none⟩) hg).trans c1, (hb.cell (p := ⟨g, off + k * 2 + 1, none⟩) hg).trans c2⟩
theorem Fl.nil (w : World) : Fl w (.slice none 0 0) [] := ⟨none, 0, rfl, Nat.le_refl _, by unfold maxLen; omega, fun h => absurd h (by simp)⟩

theorem own_below3 {w w1 : World} {B : Nat} {e : TypeId} {size : Nat} {v : Value} {n : Nat} {xs : List Value} (h : w.ownsRow B e size v n xs) (hb : Below w.heap.size w w1) : w1.ownsRow B e size v n xs := by
  refine ⟨h.1, ?_⟩
  rcases h.2 with h0 | ⟨g, cap, cur, hv, hB, hg, h3⟩
  · exact .inl h0
  · exact .inr ⟨g, cap, cur, hv, hB, (hb.block g (Array.getElem?_eq_some_iff.1 hg).1).trans hg, h3⟩
theorem own_form2 {w : World} {B : Nat} {e : TypeId} {size : Nat} {v : Value} {n : Nat} {xs : List Value} (h : w.ownsRow B e size v n xs) : ∃ ad cap, v = .slice ad n cap ∧ cap ≤ maxLen ∧ n ≤ cap ∧ (0 < n → ∃ g, ad = some ⟨g, 0, none⟩ ∧ B ≤ g ∧ g < w.heap.size ∧ ∀ j, j < n * size → w.cell? ⟨g, j, none⟩ = xs[j]?) := by
  rcases h.2 with ⟨rfl, rfl⟩ | ⟨g, cap, cur, hv, hb, hg, hnc, hcm, _, _⟩
  · exact ⟨none, 0, rfl, by unfold maxLen; omega, Nat.le_refl _, fun h => absurd h (by omega)⟩
  · refine ⟨some ⟨g, 0, none⟩, cap, hv, hcm, hnc, fun _ => ⟨g, rfl, hb, (Array.getElem?_eq_some_iff.1 hg).1, fun j hj => ?_⟩⟩
    subst hv
    exact h.cellAt j hj
theorem own_le {w : World} {B B' : Nat} {e : TypeId} {size : Nat} {v : Value} {n : Nat} {xs : List Value} (h : w.ownsRow B e size v n xs) (hb : B' ≤ B) : w.ownsRow B' e size v n xs := by
  refine ⟨h.1, ?_⟩
  rcases h.2 with h0 | ⟨g, cap, cur, hv, hB, h3⟩
  · exact .inl h0
  · exact .inr ⟨g, cap, cur, hv, Nat.le_trans hb hB, h3⟩
/-- A row of fields that the call made itself can be read. -/
theorem Fl.own {w : World} {B : Nat} {e : TypeId} {v : Value} {ls : List Fld} (h : w.ownsRow B e 2 v ls.length (flds ls)) : Fl w v ls := by
  obtain ⟨ad, cap, hv, hcm, hnc, hc⟩ := own_form2 h
  refine ⟨ad, cap, hv, hnc, hcm, fun h0 => ?_⟩
  obtain ⟨g, ha, _, hg, hce⟩ := hc h0
  refine ⟨g, 0, ha, hg, fun k hk => ?_⟩
  obtain ⟨p1, p2⟩ := flds_get ls k hk
  rw [Nat.zero_add, hce _ (by omega), hce _ (by omega)]
  exact ⟨p1, p2⟩

theorem drewN_below (B : Nat) (w : World) (n : Nat) : Below B w (w.drewN n) := by
  induction n with
  | zero => exact Below.refl _ _
  | succ n ih => exact ih.drew
theorem drewN_cell (w : World) (n : Nat) (a : Addr) : (w.drewN n).cell? a = w.cell? a := by
  induction n with
  | zero => rfl
  | succ n ih => exact ih
theorem drewN_frozen (w : World) (n : Nat) (a : Addr) : (w.drewN n).frozen? a = w.frozen? a := by
  induction n with
  | zero => rfl
  | succ n ih => exact ih
theorem drewN_size (w : World) (n : Nat) : (w.drewN n).heap.size = w.heap.size := by
  induction n with
  | zero => rfl
  | succ n ih => exact ih
theorem new_free (w : World) (cs : Array Value) (t : TypeId) (j : Nat) : (w.alloc (.cells cs t)).frozen? ⟨w.heap.size, j, none⟩ = false :=
  Lib.frozen_of_heap (heap_alloc_new w (.cells cs t)) j
theorem cell_in {w : World} {a : Addr} {v : Value} (h : w.cell? a = some v) : a.block < w.heap.size := by
  rcases Nat.lt_or_ge a.block w.heap.size with h1 | h1
  · exact h1
  · exfalso
    unfold World.cell? at h
    rw [Array.getElem?_eq_none h1] at h
    simp at h
theorem cell_keep {w w' : World} {a : Addr} {v : Value} (h : Below w.heap.size w w') (hc : w.cell? a = some v) : w'.cell? a = some v := (h.cell (cell_in hc)).trans hc

def chk1 (x : Fld) : Int := if token x.1 = false then 3 else if 30 < x.1.length ∨ 1000 < x.2.length then 2 else if allPlain x.2 = true ∧ trimL x.2 = x.2 then 0 else 3
def chkL : List Fld → Int
  | [] => 0
  | x :: r => if chk1 x = 0 then chkL r else chk1 x
def chk (ls : List Fld) : Int := if 30 < ls.length then 2 else chkL ls
theorem chk1_tok (x : Fld) (h : token x.1 = false) : chk1 x = 3 := by unfold chk1; rw [if_pos h]
theorem chk1_large (x : Fld) (h : token x.1 = true) (hl : 30 < x.1.length ∨ 1000 < x.2.length) : chk1 x = 2 := by unfold chk1; rw [if_neg (by rw [h]; simp), if_pos hl]
theorem chk1_bad (x : Fld) (h : token x.1 = true) (hl : ¬ (30 < x.1.length ∨ 1000 < x.2.length)) (hp : ¬ (allPlain x.2 = true ∧ trimL x.2 = x.2)) : chk1 x = 3 := by unfold chk1; rw [if_neg (by rw [h]; simp), if_neg hl, if_neg hp]
theorem chk1_ok (x : Fld) (h : token x.1 = true) (hl : ¬ (30 < x.1.length ∨ 1000 < x.2.length)) (hp : allPlain x.2 = true ∧ trimL x.2 = x.2) : chk1 x = 0 := by unfold chk1; rw [if_neg (by rw [h]; simp), if_neg hl, if_pos hp]
theorem chk1_is (x : Fld) (h : chk1 x = 0) : token x.1 = true ∧ x.1.length ≤ 30 ∧ x.2.length ≤ 1000 ∧ allPlain x.2 = true ∧ trimL x.2 = x.2 := by
  unfold chk1 at h
  split at h
  · cases h
  · rename_i ht
    split at h
    · cases h
    · rename_i hl
      split at h
      · rename_i hp
        exact ⟨by simpa using ht, by omega, by omega, hp.1, hp.2⟩
      · cases h
theorem chk1_some (x : Fld) : chk1 x = 0 ∨ chk1 x = 2 ∨ chk1 x = 3 := by
  unfold chk1
  split
  · exact .inr (.inr rfl)
  · split
    · exact .inr (.inl rfl)
    · split
      · exact .inl rfl
      · exact .inr (.inr rfl)
theorem chkL_app (a b : List Fld) (h : chkL a = 0) : chkL (a ++ b) = chkL b := by
  induction a with
  | nil => rfl
  | cons x a ih =>
    unfold chkL at h
    split at h
    · rename_i hx
      rw [List.cons_append]
      show (if chk1 x = 0 then chkL (a ++ b) else chk1 x) = _
      rw [if_pos hx]; exact ih h
    · rename_i hx; exact absurd h hx
theorem chkL_one (x : Fld) : chkL [x] = chk1 x := by
  show (if chk1 x = 0 then chkL [] else chk1 x) = chk1 x
  split
  · rename_i h; rw [h]; rfl
  · rfl
theorem chkL_take (ls : List Fld) (k : Nat) (h : k < ls.length) (h0 : chkL (ls.take k) = 0) (h1 : chk1 ls[k] = 0) : chkL (ls.take (k + 1)) = 0 := by
  rw [List.take_succ_eq_append_getElem h, chkL_app _ _ h0, chkL_one, h1]
theorem chkL_dead (ls : List Fld) (k : Nat) (h : k < ls.length) (h0 : chkL (ls.take k) = 0) (h1 : chk1 ls[k] ≠ 0) : chkL ls = chk1 ls[k] := by
  have e : ls = ls.take k ++ ls[k] :: ls.drop (k + 1) := by rw [← List.drop_eq_getElem_cons h, List.take_append_drop]
  have e2 : chkL (ls.take k ++ ls[k] :: ls.drop (k + 1)) = chk1 ls[k] := by
    rw [chkL_app _ _ h0]
    show (if chk1 ls[k] = 0 then chkL (ls.drop (k + 1)) else chk1 ls[k]) = _
    rw [if_neg h1]
  rw [← e] at e2
  exact e2
theorem chkL_all (ls : List Fld) (h : chkL ls = 0) : ∀ x ∈ ls, chk1 x = 0 := by
  induction ls with
  | nil => intro x hx; cases hx
  | cons a ls ih =>
    unfold chkL at h
    split at h
    · rename_i ha
      intro x hx
      rcases List.mem_cons.1 hx with rfl | hx
      · exact ha
      · exact ih h x hx
    · rename_i ha; exact absurd h ha
theorem chkL_of_all (ls : List Fld) (h : ∀ x ∈ ls, chk1 x = 0) : chkL ls = 0 := by
  induction ls with
  | nil => rfl
  | cons a ls ih =>
    show (if chk1 a = 0 then chkL ls else chk1 a) = 0
    rw [if_pos (h a (List.mem_cons_self ..))]
    exact ih fun x hx => h x (List.mem_cons_of_mem _ hx)
theorem chk_many (ls : List Fld) (h : 30 < ls.length) : chk ls = 2 := by unfold chk; rw [if_pos h]
theorem chk_few (ls : List Fld) (h : ¬ 30 < ls.length) : chk ls = chkL ls := by unfold chk; rw [if_neg h]
theorem chk_zero (ls : List Fld) (h : chk ls = 0) : ls.length ≤ 30 ∧ chkL ls = 0 := by
  unfold chk at h
  split at h
  · cases h
  · exact ⟨by omega, h⟩
end Go.Proofs.Ytoccjnbodoiibaa
