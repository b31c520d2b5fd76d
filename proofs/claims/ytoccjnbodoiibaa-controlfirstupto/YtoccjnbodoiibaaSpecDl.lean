/-
  A slice of directives that can be read, as a plain list; no program is named here.
-/
import Derived.Test.YtoccjnbodoiibaaSpecF
namespace Go.Proofs.Ytoccjnbodoiibaa
open Go.RowKit

def drs (ds : List (List UInt8 × Bool × List UInt8)) : List Value := ds.flatMap fun x => [Value.string ⟨x.1.toArray⟩, Value.bool x.2.1, Value.string ⟨x.2.2.toArray⟩]
theorem drs_snoc (ps : List (List UInt8 × Bool × List UInt8)) (x : List UInt8 × Bool × List UInt8) : drs ps ++ [Value.string ⟨x.1.toArray⟩, Value.bool x.2.1, Value.string ⟨x.2.2.toArray⟩] = drs (ps ++ [x]) := by simp [drs]
theorem drs_app (ps qs : List (List UInt8 × Bool × List UInt8)) : drs (ps ++ qs) = drs ps ++ drs qs := by simp [drs]
theorem drs_length (ps : List (List UInt8 × Bool × List UInt8)) : (drs ps).length = ps.length * 3 := by
  induction ps with
  | nil => rfl
  | cons x ps ih =>
    have e : drs (x :: ps) = [Value.string ⟨x.1.toArray⟩, Value.bool x.2.1, Value.string ⟨x.2.2.toArray⟩] ++ drs ps := by simp [drs]
    rw [e, List.length_append, ih, List.length_cons]; simp; omega
theorem drs_get (ps : List (List UInt8 × Bool × List UInt8)) : ∀ (k : Nat) (h : k < ps.length), (drs ps)[k * 3]? = some (.string ⟨(ps[k]).1.toArray⟩) ∧ (drs ps)[k * 3 + 1]? = some (.bool (ps[k]).2.1) ∧ (drs ps)[k * 3 + 2]? = some (.string ⟨(ps[k]).2.2.toArray⟩) := by
  induction ps with
  | nil => intro k h; simp at h
  | cons x ps ih =>
    intro k h
    have e : drs (x :: ps) = Value.string ⟨x.1.toArray⟩ :: Value.bool x.2.1 :: Value.string ⟨x.2.2.toArray⟩ :: drs ps := by simp [drs]
    rw [e]
    cases k with
    | zero => exact ⟨rfl, rfl, rfl⟩
    | succ k =>
      have := ih k (by simpa using h)
      rw [show (k + 1) * 3 = k * 3 + 1 + 1 + 1 from by omega, show k * 3 + 1 + 1 + 1 + 1 = (k * 3 + 1) + 1 + 1 + 1 from by omega, show k * 3 + 1 + 1 + 1 + 2 = (k * 3 + 2) + 1 + 1 + 1 from by omega]
      simp only [List.getElem?_cons_succ]
      exact this

/-- A slice of directives that can be read. -/
def Dl (w : World) (v : Value) (ls : List (List UInt8 × Bool × List UInt8)) : Prop :=
  ∃ ad cap, v = .slice ad ls.length cap ∧ ls.length ≤ cap ∧ cap ≤ maxLen ∧ (0 < ls.length → ∃ g off, ad = some ⟨g, off, none⟩ ∧ g < w.heap.size ∧
    ∀ (k : Nat) (h : k < ls.length), w.cell? ⟨g, off + k * 3, none⟩ = some (.string ⟨(ls[k]).1.toArray⟩) ∧ w.cell? ⟨g, off + k * 3 + 1, none⟩ = some (.bool (ls[k]).2.1) ∧ w.cell? ⟨g, off + k * 3 + 2, none⟩ = some (.string ⟨(ls[k]).2.2.toArray⟩))
theorem Dl.below {w w' : World} {v : Value} {ls : List (List UInt8 × Bool × List UInt8)} (h : Dl w v ls) (hb : Below w.heap.size w w') : Dl w' v ls := by
  obtain ⟨ad, cap, hv, h1, h2, h3⟩ := h
  refine ⟨ad, cap, hv, h1, h2, fun h0 => ?_⟩
  obtain ⟨g, off, ha, hg, hc⟩ := h3 h0
  refine ⟨g, off, ha, Nat.lt_of_lt_of_le hg hb.size, fun k hk => ?_⟩
  obtain ⟨c1, c2, c3⟩ := hc k hk
  exact ⟨(hb.cell (p := ⟨g, off + k * 3, none⟩) hg).trans c1, (hb.cell (p := ⟨g, off + k * 3 + 1, none⟩) hg).trans c2, (hb.cell (p := ⟨g, off + k * 3 + 2, none⟩) hg).trans c3⟩
theorem Dl.nil (w : World) : Dl w (.slice none 0 0) [] := ⟨none, 0, rfl, Nat.le_refl _, by unfold maxLen; omega, fun h => absurd h (by simp)⟩
/-- A row of directives that the call made itself can be read. -/
theorem Dl.own {w : World} {B : Nat} {e : TypeId} {v : Value} {ls : List (List UInt8 × Bool × List UInt8)} (h : w.ownsRow B e 3 v ls.length (drs ls)) : Dl w v ls := by
  obtain ⟨ad, cap, hv, hcm, hnc, hc⟩ := own_form2 h
  refine ⟨ad, cap, hv, hnc, hcm, fun h0 => ?_⟩
  obtain ⟨g, ha, _, hg, hce⟩ := hc h0
  refine ⟨g, 0, ha, hg, fun k hk => ?_⟩
  obtain ⟨p1, p2, p3⟩ := drs_get ls k hk
  rw [Nat.zero_add, hce _ (by omega), hce _ (by omega), hce _ (by omega)]
  exact ⟨p1, p2, p3⟩
/-- No text of them is longer than so many bytes. -/
def MostD (m : Nat) (ls : List (List UInt8 × Bool × List UInt8)) : Prop := ∀ x ∈ ls, x.1.length ≤ m ∧ x.2.2.length ≤ m
/-- How many values and letters they hold. -/
def bulkD (ls : List (List UInt8 × Bool × List UInt8)) : Nat := (ls.map fun y => y.1.length + y.2.2.length + 4).sum
theorem bulkD_len (ls : List (List UInt8 × Bool × List UInt8)) : ls.length * 4 ≤ bulkD ls := by
  induction ls with
  | nil => simp [bulkD]
  | cons a ls ih => simp only [bulkD, List.map_cons, List.sum_cons, List.length_cons] at ih ⊢; omega
theorem bulkD_mem (ls : List (List UInt8 × Bool × List UInt8)) (x : List UInt8 × Bool × List UInt8) (h : x ∈ ls) : x.1.length + x.2.2.length + 4 ≤ bulkD ls := by
  induction ls with
  | nil => cases h
  | cons a ls ih =>
    simp only [bulkD, List.map_cons, List.sum_cons] at ih ⊢
    rcases List.mem_cons.1 h with rfl | h
    · omega
    · have := ih h; omega
theorem bulkD_most (ls : List (List UInt8 × Bool × List UInt8)) (m : Nat) (h : bulkD ls ≤ m) : MostD m ls := fun x hx => by
  have := bulkD_mem ls x hx
  exact ⟨by omega, by omega⟩
theorem bulkD_app (a b : List (List UInt8 × Bool × List UInt8)) : bulkD (a ++ b) = bulkD a + bulkD b := by simp [bulkD]
end Go.Proofs.Ytoccjnbodoiibaa
