/-
  The names that a Vary lists, over plain lists: what is sorted and compacted, and what is laid in one by one, is the same list: rising, none twice; no program is named here.
-/
import Derived.Test.YteifheoomodplaaDoorMa
import Derived.Lib.SlicesCompact
import Derived.Deep.AppendLies
import Derived.Laws.OwnMore
import Derived.Deep.RegionHeld3
import Derived.Sort.Walk0
import Derived.Laws.Cover1
import Derived.Deep.Cut
import Derived.Deep.DeepCutAuto
import Derived.Test.YteifheoomodplaaDoorShelf
import Derived.Test.YteifheoomodplaaDoorRows
import Derived.Sort.OwnSorted
import Derived.Lib.OwnBridge
namespace Go.Proofs.YteifheoomodplaaDoor
open Go.RowKit

abbrev Txt := List UInt8
def Rising (l : List Txt) : Prop := l.Pairwise (· < ·)
theorem txt_lt_of_le_ne {x y : Txt} (h : x ≤ y) (hn : x ≠ y) : x < y := by
  by_cases hl : x < y
  · exact hl
  · exact absurd (List.le_antisymm h (List.not_lt.1 hl)) hn
theorem txt_irr (x : Txt) : ¬ x < x := List.lt_irrefl x
theorem txt_asym {x y : Txt} (h : x < y) : ¬ y < x := fun h2 => txt_irr x (List.lt_trans h h2)
theorem txt_le {x y : Txt} (h : x < y) : x ≤ y := List.le_of_lt h
theorem txt_le_lt {x y z : Txt} (h : x ≤ y) (h2 : y < z) : x < z := List.lt_of_le_of_lt h h2

/-- Two rising lists that have the same texts are one. -/
theorem rising_same : ∀ (a b : List Txt), Rising a → Rising b → (∀ x, x ∈ a ↔ x ∈ b) → a = b
  | [], [], _, _, _ => rfl
  | [], y :: b, _, _, h => by have := (h y).2 (by simp); simp at this
  | x :: a, [], _, _, h => by have := (h x).1 (by simp); simp at this
  | x :: a, y :: b, ha, hb, h => by
    have ha' := List.pairwise_cons.1 ha
    have hb' := List.pairwise_cons.1 hb
    have e : x = y := by
      rcases List.mem_cons.1 ((h x).1 (by simp)) with h1 | h1
      · exact h1
      · rcases List.mem_cons.1 ((h y).2 (by simp)) with h2 | h2
        · exact h2.symm
        · exact absurd (ha'.1 y h2) (txt_asym (hb'.1 x h1))
    subst e
    congr 1
    refine rising_same a b ha'.2 hb'.2 fun z => ⟨fun hz => ?_, fun hz => ?_⟩
    · rcases List.mem_cons.1 ((h z).1 (List.mem_cons_of_mem _ hz)) with h1 | h1
      · subst h1; exact absurd (ha'.1 _ hz) (txt_irr _)
      · exact h1
    · rcases List.mem_cons.1 ((h z).2 (List.mem_cons_of_mem _ hz)) with h1 | h1
      · subst h1; exact absurd (hb'.1 _ hz) (txt_irr _)
      · exact h1

/-- Of a sorted row the compacted one rises, and has the same texts. -/
theorem compact_inv (d : Array Txt) (hs : ∀ j, j + 1 < d.size → d[j]! ≤ d[j + 1]!) : ∀ m, m ≤ d.size →
    Rising (Lib.compactUpTo d m) ∧ (∀ x ∈ Lib.compactUpTo d m, x ≤ d[m - 1]!) ∧ (∀ x, x ∈ Lib.compactUpTo d m ↔ ∃ j, j < m ∧ d[j]! = x) := by
  intro m
  induction m with
  | zero => intro _; exact ⟨List.Pairwise.nil, by intro x hx; simp [Lib.compactUpTo] at hx, by intro x; simp [Lib.compactUpTo]⟩
  | succ m ih =>
    intro hm
    obtain ⟨h1, h2, h3⟩ := ih (by omega)
    rw [Lib.compactUpTo_succ]
    have hmem : ∀ x, (∃ j, j < m + 1 ∧ d[j]! = x) ↔ (∃ j, j < m ∧ d[j]! = x) ∨ d[m]! = x := by
      intro x
      constructor
      · rintro ⟨j, hj, e⟩
        by_cases hjm : j = m
        · subst hjm; exact .inr e
        · exact .inl ⟨j, by omega, e⟩
      · rintro (⟨j, hj, e⟩ | e)
        · exact ⟨j, by omega, e⟩
        · exact ⟨m, by omega, e⟩
    have hup : m ≠ 0 → d[m - 1]! ≤ d[m]! := by
      intro h0
      have := hs (m - 1) (by omega)
      rwa [show m - 1 + 1 = m from by omega] at this
    rw [show m + 1 - 1 = m from rfl]
    by_cases hk : Lib.keeps d m = true
    · rw [if_pos hk]
      have hlt : ∀ x ∈ Lib.compactUpTo d m, x < d[m]! := by
        intro x hx
        unfold Lib.keeps at hk
        rcases of_decide_eq_true hk with h0 | hne
        · subst h0; simp [Lib.compactUpTo] at hx
        · have h0 : m ≠ 0 := by intro e; subst e; simp [Lib.compactUpTo] at hx
          exact txt_le_lt (h2 x hx) (txt_lt_of_le_ne (hup h0) (fun e => hne e.symm))
      refine ⟨?_, ?_, ?_⟩
      · unfold Rising
        rw [List.pairwise_append]
        exact ⟨h1, List.pairwise_singleton _ _, fun x hx y hy => by rw [List.mem_singleton] at hy; subst hy; exact hlt x hx⟩
      · intro x hx
        rcases List.mem_append.1 hx with hx | hx
        · exact txt_le (hlt x hx)
        · rw [List.mem_singleton] at hx; subst hx; exact List.le_refl _
      · intro x
        rw [hmem, List.mem_append, h3, List.mem_singleton, eq_comm (a := x)]
    · rw [if_neg hk, List.append_nil]
      have hne : m ≠ 0 ∧ d[m]! = d[m - 1]! := by
        unfold Lib.keeps at hk
        simp only [decide_eq_true_eq, not_or, Classical.not_not] at hk
        exact hk
      refine ⟨h1, ?_, ?_⟩
      · intro x hx; rw [hne.2]; exact h2 x hx
      · intro x
        rw [hmem, h3]
        constructor
        · exact .inl
        · rintro (h | h)
          · exact h
          · exact ⟨m - 1, by omega, by rw [← hne.2]; exact h⟩

theorem compact_len (zs : List Txt) : (Lib.compact zs).length ≤ zs.length := by
  unfold Lib.compact Lib.compactUpTo
  rw [List.length_map]
  exact Nat.le_trans (List.length_filter_le _ _) (by simp)

def lowsV (P : List Txt) : List Txt := (P.filter fun p => !(p == [42])).map lower
def nmsV (P : List Txt) : List Txt := Lib.compact ((lowsV P).mergeSort fun x y => decide (x ≤ y))
def starV (P : List Txt) : Bool := P.any fun p => p == [42]

theorem sorted_row (l : List Txt) : ∀ j, j + 1 < (l.mergeSort fun x y => decide (x ≤ y)).toArray.size → (l.mergeSort fun x y => decide (x ≤ y)).toArray[j]! ≤ (l.mergeSort fun x y => decide (x ≤ y)).toArray[j + 1]! := by
  intro j hj
  have hp := List.pairwise_mergeSort (le := fun (x y : Txt) => decide (x ≤ y)) (fun a b c h1 h2 => by simp only [decide_eq_true_eq] at *; exact List.le_trans h1 h2) (fun a b => by simp only [Bool.or_eq_true, decide_eq_true_eq]; exact List.le_total a b) l
  have hj' : j + 1 < (l.mergeSort fun x y => decide (x ≤ y)).length := by simpa using hj
  rw [getElem!_pos _ j (by simp; simpa using Nat.lt_of_succ_lt hj'), getElem!_pos _ (j + 1) hj]
  have := List.pairwise_iff_getElem.1 hp j (j + 1) (by omega) hj' (by omega)
  simpa using this
theorem compact_sorted (l : List Txt) : Rising (Lib.compact (l.mergeSort fun x y => decide (x ≤ y))) ∧ ∀ x, x ∈ Lib.compact (l.mergeSort fun x y => decide (x ≤ y)) ↔ x ∈ l := by
  obtain ⟨h1, _, h3⟩ := compact_inv (l.mergeSort fun x y => decide (x ≤ y)).toArray (sorted_row l) (l.mergeSort fun x y => decide (x ≤ y)).length (by simp)
  refine ⟨h1, fun x => ?_⟩
  refine (h3 x).trans ?_
  rw [← List.mem_mergeSort (le := fun (x y : Txt) => decide (x ≤ y)) (l := l), List.mem_iff_getElem]
  constructor
  · rintro ⟨j, hj, e⟩
    refine ⟨j, hj, ?_⟩
    rw [getElem!_pos _ j (by simpa using hj)] at e
    simpa using e
  · rintro ⟨j, hj, e⟩
    refine ⟨j, hj, ?_⟩
    rw [getElem!_pos _ j (by simpa using hj)]
    simpa using e
theorem nms_rising (P : List Txt) : Rising (nmsV P) := (compact_sorted _).1
theorem nms_mem (P : List Txt) (x : Txt) : x ∈ nmsV P ↔ x ∈ lowsV P := (compact_sorted _).2 x
theorem nms_len (P : List Txt) : (nmsV P).length ≤ P.length := by
  unfold nmsV
  refine Nat.le_trans (compact_len _) ?_
  rw [List.length_mergeSort]
  unfold lowsV
  rw [List.length_map]
  exact List.length_filter_le _ _

/-- One text laid into a rising list. -/
def insV (s : Txt) : List Txt → List Txt
  | [] => [s]
  | x :: r => if decide (x ≤ s) = true then x :: insV s r else s :: x :: r
def sortV (ls : List Txt) : List Txt := ls.foldl (fun o s => insV s o) []
theorem ins_mem (s : Txt) (o : List Txt) (x : Txt) : x ∈ insV s o ↔ x = s ∨ x ∈ o := by
  induction o with
  | nil => simp [insV]
  | cons y r ih =>
    rw [insV]
    split
    · rw [List.mem_cons, ih, List.mem_cons]
      constructor
      · rintro (h | h | h)
        · exact .inr (.inl h)
        · exact .inl h
        · exact .inr (.inr h)
      · rintro (h | h | h)
        · exact .inr (.inl h)
        · exact .inl h
        · exact .inr (.inr h)
    · rw [List.mem_cons]
theorem ins_rising (s : Txt) (o : List Txt) (h : Rising o) (hn : s ∉ o) : Rising (insV s o) := by
  induction o with
  | nil => exact List.pairwise_singleton _ _
  | cons y r ih =>
    have hc := List.pairwise_cons.1 h
    rw [insV]
    split
    · rename_i hle
      have hlt : y < s := txt_lt_of_le_ne (of_decide_eq_true hle) (fun e => hn (by rw [e]; simp))
      refine List.pairwise_cons.2 ⟨fun z hz => ?_, ih hc.2 (fun hm => hn (List.mem_cons_of_mem _ hm))⟩
      rcases (ins_mem s r z).1 hz with h1 | h1
      · rw [h1]; exact hlt
      · exact hc.1 z h1
    · rename_i hle
      have hlt : s < y := List.not_le.1 (fun e => hle (decide_eq_true e))
      refine List.pairwise_cons.2 ⟨fun z hz => ?_, h⟩
      rcases List.mem_cons.1 hz with h1 | h1
      · rw [h1]; exact hlt
      · exact List.lt_trans hlt (hc.1 z h1)
theorem ins_len (s : Txt) (o : List Txt) : (insV s o).length = o.length + 1 := by
  induction o with
  | nil => rfl
  | cons y r ih => rw [insV]; split <;> simp [ih]
theorem ins_at (s : Txt) (o : List Txt) : ∀ (k : Nat), k ≤ o.length → (∀ j, (h : j < o.length) → j < k → o[j] ≤ s) → (∀ h : k < o.length, ¬ o[k] ≤ s) → insV s o = o.take k ++ ([s] ++ o.drop k) := by
  induction o with
  | nil => intro k hk _ _; simp at hk; subst hk; rfl
  | cons y r ih =>
    intro k hk h1 h2
    cases k with
    | zero =>
      have h0 : ¬ y ≤ s := h2 (by simp)
      rw [insV, if_neg (by rw [decide_eq_true_eq]; exact h0)]
      rfl
    | succ k =>
      have h0 : y ≤ s := h1 0 (by simp) (by omega)
      rw [insV, if_pos (decide_eq_true h0), ih k (by simpa using hk) (fun j hj hjk => by have := h1 (j + 1) (by simpa using hj) (by omega); simpa using this) (fun h => by have := h2 (by simpa using h); simpa using this)]
      rfl
theorem sort_inv (ls : List Txt) : ∀ o, Rising o → (ls.Pairwise (· ≠ ·)) → (∀ s ∈ ls, s ∉ o) → Rising (ls.foldl (fun o s => insV s o) o) ∧ ∀ x, x ∈ ls.foldl (fun o s => insV s o) o ↔ x ∈ ls ∨ x ∈ o := by
  induction ls with
  | nil => intro o h _ _; exact ⟨h, by simp⟩
  | cons s ls ih =>
    intro o h hd hn
    have hc := List.pairwise_cons.1 hd
    obtain ⟨h1, h2⟩ := ih (insV s o) (ins_rising s o h (hn s (by simp))) hc.2 (fun t ht hm => by
      rcases (ins_mem s o t).1 hm with e | e
      · exact hc.1 t ht e.symm
      · exact hn t (by simp [ht]) e)
    refine ⟨h1, fun x => ?_⟩
    rw [List.foldl_cons, h2, ins_mem, List.mem_cons]
    constructor
    · rintro (h | h | h)
      · exact .inl (.inr h)
      · exact .inl (.inl h)
      · exact .inr h
    · rintro ((h | h) | h)
      · exact .inr (.inl h)
      · exact .inl h
      · exact .inr (.inr h)

/-- Names one by one, none twice. -/
def vstep (o : List Txt) (p : Txt) : List Txt := if (p == [42]) = true then o else if o.contains (lower p) = true then o else o ++ [lower p]
def vded (P : List Txt) : List Txt := P.foldl vstep []
theorem vded_snoc (P : List Txt) (p : Txt) : vded (P ++ [p]) = vstep (vded P) p := by simp [vded]
theorem lows_snoc (P : List Txt) (p : Txt) : lowsV (P ++ [p]) = lowsV P ++ (if (p == [42]) = true then [] else [lower p]) := by
  unfold lowsV
  rw [List.filter_append, List.map_append]
  cases h : (p == [42]) <;> simp [h]
theorem star_snoc (P : List Txt) (p : Txt) : starV (P ++ [p]) = (starV P || (p == [42])) := by simp [starV]
theorem vded_len (P : List Txt) : (vded P).length ≤ P.length := by
  have gen : ∀ (P : List Txt) (o : List Txt), (P.foldl vstep o).length ≤ o.length + P.length := by
    intro P
    induction P with
    | nil => intro o; simp
    | cons p P ih =>
      intro o
      have h := ih (vstep o p)
      have h2 : (vstep o p).length ≤ o.length + 1 := by unfold vstep; split; omega; split; omega; simp
      rw [List.foldl_cons, List.length_cons]
      omega
  have := gen P []
  simpa [vded] using this
theorem vded_inv (P : List Txt) : ∀ o, (o.Pairwise (· ≠ ·)) → (P.foldl vstep o).Pairwise (· ≠ ·) ∧ ∀ x, x ∈ P.foldl vstep o ↔ x ∈ o ∨ x ∈ lowsV P := by
  induction P with
  | nil => intro o h; exact ⟨h, by simp [lowsV]⟩
  | cons p P ih =>
    intro o h
    have hl : lowsV (p :: P) = (if (p == [42]) = true then [] else [lower p]) ++ lowsV P := by
      unfold lowsV
      rw [List.filter_cons]
      cases h : (p == [42]) <;> simp
    have hv : (vstep o p).Pairwise (· ≠ ·) ∧ ∀ x, x ∈ vstep o p ↔ x ∈ o ∨ x ∈ (if (p == [42]) = true then [] else [lower p]) := by
      unfold vstep
      cases hp : (p == [42])
      · simp only [Bool.false_eq_true, if_false]
        cases hc : o.contains (lower p)
        · simp only [Bool.false_eq_true, if_false]
          refine ⟨?_, fun x => by simp⟩
          rw [List.pairwise_append]
          refine ⟨h, List.pairwise_singleton _ _, fun x hx y hy => ?_⟩
          rw [List.mem_singleton] at hy
          subst hy
          intro e
          subst e
          rw [List.contains_iff_mem.2 hx] at hc
          cases hc
        · simp only [if_true]
          refine ⟨h, fun x => ⟨.inl, ?_⟩⟩
          rintro (h1 | h1)
          · exact h1
          · rw [List.mem_singleton] at h1; subst h1; exact List.contains_iff_mem.1 hc
      · simp only [if_true]
        exact ⟨h, fun x => by simp⟩
    obtain ⟨h1, h2⟩ := ih (vstep o p) hv.1
    refine ⟨h1, fun x => ?_⟩
    rw [List.foldl_cons, h2, hv.2, hl, List.mem_append, or_assoc]
/-- Both ways give the same names. -/
theorem sort_vded (P : List Txt) : sortV (vded P) = nmsV P := by
  obtain ⟨h1, h2⟩ := vded_inv P [] List.Pairwise.nil
  obtain ⟨h3, h4⟩ := sort_inv (vded P) [] List.Pairwise.nil h1 (fun _ _ h => by simp at h)
  refine rising_same _ _ h3 (nms_rising P) fun x => ?_
  rw [nms_mem]
  refine (h4 x).trans ?_
  have := h2 x
  simp only [List.not_mem_nil, or_false, false_or] at this ⊢
  exact this

/-- What Names answers of the value of Vary. -/
def vN (l : Txt) : List Txt × Bool × Int :=
  if (splitS l).2 ≠ 0 then ([], false, (splitS l).2) else if (splitS l).1.all token = true then (nmsV (splitS l).1, starV (splitS l).1, 0) else ([], false, 3)
def sameF (a b : List Fld) (n : Txt) : Bool := ((!(vals a n).isEmpty) == (!(vals b n).isEmpty)) && (jn (vals a n) == jn (vals b n))
def nVary : Txt := [86, 97, 114, 121]
def vV (l : List Fld) : List Txt × Bool × Int := vN (jn (vals l nVary))
def vM (l a b : List Fld) : Bool × Int := if (vV l).2.2 ≠ 0 then (false, (vV l).2.2) else (!(vV l).2.1 && (vV l).1.all (sameF a b), 0)
theorem vN_len (l : Txt) : (vN l).1.length ≤ 20 := by
  have hs : (splitS l).1.length ≤ 20 := by
    unfold splitS
    split
    · simp
    · split
      · simp
      · split
        · simp
        · simp only; omega
  unfold vN
  split
  · simp
  · split
    · exact Nat.le_trans (nms_len _) hs
    · simp
end Go.Proofs.YteifheoomodplaaDoor

/-
  Two rows of the call's own side by side: one grows, the other stays; no program is named here.
-/
namespace Go.Proofs.YteifheoomodplaaDoor
open Go.RowKit

/-- Two rows whose blocks are not the same. -/
def Sep (u v : Value) : Prop := ∀ g, u.ownBlock = some g → v.ownBlock ≠ some g
theorem Sep.turn {u v : Value} (h : Sep u v) : Sep v u := fun g hv hu => h g hu hv
theorem Sep.nil (v : Value) : Sep (.slice none 0 0) v := fun g h => by cases h
theorem Sep.new {u v : Value} {g n c : Nat} {H : Nat} (h : Sep u v) (hat : u.ownBlock = some g ∨ g = H) (hv : ∀ k, v.ownBlock = some k → k < H) : Sep (.slice (some ⟨g, 0, none⟩) n c) v := by
  intro k hk e
  have hk' : g = k := Option.some.inj hk
  subst hk'
  rcases hat with h1 | h1
  · exact h g h1 e
  · have := hv g e; omega
theorem sep_types {w : World} {B B' size size' n n' : Nat} {e e' : TypeId} {u v : Value} {xs ys : List Value} (h : w.ownsRow B e size u n xs) (h' : w.ownsRow B' e' size' v n' ys) (hne : e ≠ e') : Sep u v := by
  intro g hu hv
  rcases h.2 with ⟨rfl, _⟩ | ⟨g1, cap, cur, rfl, _, hg1, _⟩
  · cases hu
  · rcases h'.2 with ⟨rfl, _⟩ | ⟨g2, cap2, cur2, rfl, _, hg2, _⟩
    · cases hv
    · obtain rfl : g1 = g := by simpa [Value.ownBlock] using hu
      obtain rfl : g2 = g1 := by simpa [Value.ownBlock] using hv
      rw [hg1] at hg2
      injection hg2 with hg2
      injection hg2 with _ h2
      exact hne h2
theorem own_low {w : World} {B B' size n : Nat} {e : TypeId} {v : Value} {xs : List Value} (h : w.ownsRow B e size v n xs) (hb : B' ≤ B) : w.ownsRow B' e size v n xs :=
  ⟨h.1, h.2.imp id fun ⟨g, cap, cur, h1, h2, h3⟩ => ⟨g, cap, cur, h1, Nat.le_trans hb h2, h3⟩⟩
theorem own_kept {w w' : World} {B size n : Nat} {e : TypeId} {u v : Value} {xs : List Value} (h : w.ownsRow B e size v n xs) (hg : w.grownBy w' u.ownBlock) (hs : Sep u v) : w'.ownsRow B e size v n xs := by
  refine h.kept hg ?_
  cases hv : v.ownBlock with
  | none => exact .inl rfl
  | some g =>
    right
    intro hu
    exact hs g hu.symm hv
theorem cell_kept_by {w w' : World} {u : Value} {g i : Nat} {x : Value} (hg : w.grownBy w' u.ownBlock) (h : w.cell? ⟨g, i, none⟩ = some x) (hu : ∀ k, u.ownBlock = some k → k < g) : w'.cell? ⟨g, i, none⟩ = some x := by
  refine (hg.cell_far ⟨g, i, none⟩ (cell_in h) ?_).trans h
  intro e
  have := hu g e.symm
  omega
theorem one_news {w : World} {g : Nat} {x : Value} (h : w.cell? ⟨g, 0, none⟩ = some x) : ∀ j u, [x][j]? = some u → w.cell? ((⟨g, 0, none⟩ : Addr).add j) = some u := by
  intro j u hj
  match j, hj with
  | 0, hj => simp at hj; subst hj; simpa [Addr.add] using h
theorem two_news {w : World} {g : Nat} {x y : Value} (h : w.cell? ⟨g, 0, none⟩ = some x) (h' : w.cell? ⟨g, 1, none⟩ = some y) : ∀ j u, [x, y][j]? = some u → w.cell? ((⟨g, 0, none⟩ : Addr).add j) = some u := by
  intro j u hj
  match j, hj with
  | 0, hj => simp at hj; subst hj; simpa [Addr.add] using h
  | 1, hj => simp at hj; subst hj; simpa [Addr.add] using h'
end Go.Proofs.YteifheoomodplaaDoor

/-
  append of a part that may be empty, as a step of a region that draws; a row of one cell; no program is named here.
-/
namespace Go.Proofs.YteifheoomodplaaDoor
open Go.RowKit

theorem step_append_at {P : Program} {ops : Array Oper} {o : Oper} {a : Act} {w : World} {K : Act → World → Prop} {Q : Exit → Act → World → Prop} {E : Prop} (hgd : o.guard = none) (s x : Operand) (t : TypeId)
    (ho : o.op = .call { callee := .builtin .append, args := #[s, x], argTypes := #[t, t] })
    (base : Nat) (e : TypeId) (i : TypeInfo) (z : Value) (size bytes : Nat) (ht : P.underlying t = some (.slice e)) (hi : P.info? e = some i) (hz : i.zero = some z)
    (hsize : i.size = size) (hby : i.bytes = bytes) (hzs : z.cells.size = size) (hsz : 0 < size)
    (v : Value) (n : Nat) (xs : List Value) (hs : a.eval s = v) (hown : w.ownsRow base e size v n xs)
    (ad : Addr) (m c : Nat) (news : List Value) (hx : a.eval x = .slice (some ad) m c) (hl : news.length = m * size) (hnews : ∀ j u, news[j]? = some u → w.cell? (ad.add j) = some u) (h1 : ∀ u ∈ news, u.oneCell' = true)
    (hm : 0 < n + m) (h63 : n + m ≤ maxLen) (hbytes : (n + m) * bytes ≤ 140737488355328) (hbase : base ≤ w.heap.size) (H : Nat) (hH : w.heap.size = H)
    (h : ∀ g cap w', w'.ownsRow base e size (.slice (some ⟨g, 0, none⟩) (n + m) cap) (n + m) (xs ++ news) → w.grownBy w' v.ownBlock → (v.ownBlock = some g ∨ g = H) → g < w'.heap.size → K (a.put o.dst (.slice (some ⟨g, 0, none⟩) (n + m) cap)) w') :
    if Region.wanted o (yielded ops a.tmps) = true then Oper.wp P o a w K Q else E := by
  have hw : Region.wanted o (yielded ops a.tmps) = true := by simp [Region.wanted, hgd]
  rw [if_pos hw]
  obtain ⟨v', w', hr, h2, h3, _, h5⟩ := run_append_own_at (P := P) w base t o.type e i z size bytes ht hi hz hsize hby hzs hsz v n xs hown ad m c news hl hnews h1 h63 hbytes hbase
  obtain ⟨g, cap, rfl, _, hlt⟩ := h2.form hm
  unfold Oper.wp execOp
  simp only [ho, resolve, invoke, builtin, Sem.run_bind, Sem.run_pure, Result.andThen_ok, List.map_toArray, List.map_cons, List.map_nil, hs, hx, hr]
  refine h g cap w' h2 h3 ?_ hlt
  rcases h5 with h5 | h5
  · exact .inl (by rw [← h5]; rfl)
  · right
    have : g = w.heap.size := by simpa [Value.ownBlock] using h5
    rw [this, hH]
theorem step_append_none {P : Program} {ops : Array Oper} {o : Oper} {a : Act} {w : World} {K : Act → World → Prop} {Q : Exit → Act → World → Prop} {E : Prop} (hgd : o.guard = none) (s x : Operand) (t : TypeId)
    (ho : o.op = .call { callee := .builtin .append, args := #[s, x], argTypes := #[t, t] })
    (base : Nat) (e : TypeId) (i : TypeInfo) (size : Nat) (ht : P.underlying t = some (.slice e)) (hi : P.info? e = some i)
    (v : Value) (n : Nat) (xs : List Value) (hs : a.eval s = v) (hown : w.ownsRow base e size v n xs) (hx : a.eval x = .slice none 0 0)
    (h : K (a.put o.dst v) w) :
    if Region.wanted o (yielded ops a.tmps) = true then Oper.wp P o a w K Q else E := by
  have hw : Region.wanted o (yielded ops a.tmps) = true := by simp [Region.wanted, hgd]
  rw [if_pos hw]
  have hr := run_append_owned_none (P := P) w base t o.type e i size ht hi v n xs hown
  unfold Oper.wp execOp
  simp only [ho, resolve, invoke, builtin, Sem.run_bind, Sem.run_pure, Result.andThen_ok, List.map_toArray, List.map_cons, List.map_nil, hs, hx, hr]
  exact h
/-- The row of one cell that a block is. -/
theorem own_block1 {w : World} {B g : Nat} {x : Value} {t : TypeId} (h : w.heap[g]? = some (.cells #[x] t (0, 0))) (hB : B ≤ g) : w.ownsRow B t 1 (.slice (some ⟨g, 0, none⟩) 1 1) 1 [x] :=
  ⟨rfl, .inr ⟨g, 1, #[x], rfl, hB, h, Nat.le_refl _, by unfold maxLen; omega, rfl, rfl⟩⟩
theorem own_news {w : World} {B g n cap : Nat} {e : TypeId} {xs : List Value} (h : w.ownsRow B e 1 (.slice (some ⟨g, 0, none⟩) n cap) n xs) : ∀ j u, xs[j]? = some u → w.cell? ((⟨g, 0, none⟩ : Addr).add j) = some u := by
  intro j u hj
  have hl : j < n := by
    have h1 := (List.getElem?_eq_some_iff.1 hj).1
    have h2 := h.1
    omega
  obtain ⟨ad, cap', hv, _, _, hc⟩ := own_slice h
  obtain ⟨g', ha, _, _, hce⟩ := hc (by omega)
  cases hv
  cases ha
  have hadd : (⟨g, 0, none⟩ : Addr).add j = ⟨g, j, none⟩ := by
    by_cases h0 : j = 0
    · subst h0; simp [Addr.add]
    · simp [Addr.add, h0]
  rw [hadd, hce j hl]; exact hj
end Go.Proofs.YteifheoomodplaaDoor

/-
  A slice of texts that can be read, as a plain list; no program is named here.
-/
namespace Go.Proofs.YteifheoomodplaaDoor
open Go.RowKit

def strsV (ss : List (List UInt8)) : List Value := ss.map fun s => .string ⟨s.toArray⟩
def Sl (w : World) (v : Value) (ss : List (List UInt8)) : Prop :=
  ∃ g off cap, v = .slice (some ⟨g, off, none⟩) ss.length cap ∧ ss.length ≤ cap ∧ cap ≤ maxLen ∧ g < w.heap.size ∧ ∀ (k : Nat) (h : k < ss.length), w.cell? ⟨g, off + k, none⟩ = some (.string ⟨ss[k].toArray⟩)
theorem Sl.below {w w' : World} {v : Value} {ss : List (List UInt8)} (h : Sl w v ss) (hb : Below w.heap.size w w') : Sl w' v ss := by
  obtain ⟨g, off, cap, hv, h1, h2, hg, hc⟩ := h
  exact ⟨g, off, cap, hv, h1, h2, Nat.lt_of_lt_of_le hg hb.size, fun k hk => (hb.cell (p := ⟨g, off + k, none⟩) hg).trans (hc k hk)⟩
theorem strsV_get (ss : List (List UInt8)) (k : Nat) (h : k < ss.length) : (strsV ss)[k]? = some (.string ⟨ss[k].toArray⟩) := by
  unfold strsV; rw [List.getElem?_map, List.getElem?_eq_getElem h]; rfl
theorem strsV_one (ss : List (List UInt8)) : ∀ u ∈ strsV ss, u.oneCell' = true := by
  intro u hu
  obtain ⟨x, _, rfl⟩ := List.mem_map.1 hu
  rfl
theorem strsV_len (ss : List (List UInt8)) : (strsV ss).length = ss.length * 1 := by simp [strsV]
theorem Sl.own {w : World} {B : Nat} {e : TypeId} {v : Value} {ss : List (List UInt8)} (h : w.ownsRow B e 1 v ss.length (strsV ss)) (h0 : 0 < ss.length) : Sl w v ss := by
  obtain ⟨ad, cap, hv, h2, h1, h3⟩ := own_form2 h
  obtain ⟨g, ha, _, hg, hc⟩ := h3 h0
  subst ha
  refine ⟨g, 0, cap, hv, h1, h2, hg, fun k hk => ?_⟩
  rw [Nat.zero_add, hc k (by omega), strsV_get ss k hk]
theorem Sl.cells {w : World} {a : Addr} {n c : Nat} {ss : List (List UInt8)} (h : Sl w (.slice (some a) n c) ss) : ∀ j u, (strsV ss)[j]? = some u → w.cell? (a.add j) = some u := by
  obtain ⟨g, off, cap, hv, h1, h2, hg, hc⟩ := h
  obtain ⟨ha, _, _⟩ := Value.slice.inj hv
  obtain rfl := Option.some.inj ha
  intro j u hj
  have hjl : j < ss.length := by have := (List.getElem?_eq_some_iff.1 hj).1; simpa [strsV] using this
  rw [strsV_get ss j hjl] at hj
  have hform : (⟨g, off, none⟩ : Addr).add j = ⟨g, off + j, none⟩ := by
    by_cases h0 : j = 0
    · subst h0; simp [Addr.add]
    · simp [Addr.add, h0]
  rw [hform, hc j hjl]; exact hj
end Go.Proofs.YteifheoomodplaaDoor

/-
  Parts of a slice of texts, and what Copy of the document's answers computes of one.
-/
namespace Go.Proofs.YteifheoomodplaaDoor
open Go.RowKit

theorem elemS9 : Tryd.prog.elem 23 = 9 := by kernel_rfl
theorem addr_mk (g off k : Nat) : (⟨g, off, none⟩ : Addr).add k = ⟨g, off + k, none⟩ := by
  by_cases h0 : k = 0
  · subst h0; simp [Addr.add]
  · simp [Addr.add, h0]
theorem Sl.drop {w : World} {v : Value} {ss : List (List UInt8)} (h : Sl w v ss) (i : Nat) (hi : i ≤ ss.length) : ∃ v', (∀ W, (Instr.slice 23 v (some (.int .i64 (i : Int))) none none).run Tryd.prog W = .ok v' W) ∧ Sl w v' (ss.drop i) := by
  obtain ⟨g, off, cap, rfl, h1, h2, hg, hc⟩ := h
  by_cases hcap : cap = i
  · subst hcap
    have hn : ss.drop cap = [] := List.drop_eq_nil_of_le h1
    refine ⟨.slice (some ⟨g, off, none⟩) 0 0, fun W => ?_, ?_⟩
    · rw [run_slice_l W 23 (some ⟨g, off, none⟩) ss.length cap (by rw [elemS9]; exact Tryd.underlying23) .i64 (cap : Int) (by omega) (by omega), elemS9, Tryd.sizeOf9]
      have : ss.length = cap := by omega
      simp [Result.andThen, sliced, this]
    · rw [hn]
      exact ⟨g, off, 0, rfl, Nat.le_refl _, by unfold maxLen; omega, hg, fun k hk => by simp at hk⟩
  · refine ⟨.slice (some ⟨g, off + i, none⟩) (ss.length - i) (cap - i), fun W => ?_, ?_⟩
    · rw [run_slice_l W 23 (some ⟨g, off, none⟩) ss.length cap (by rw [elemS9]; exact Tryd.underlying23) .i64 (i : Int) (by omega) (by omega), elemS9, Tryd.sizeOf9]
      have : cap - i ≠ 0 := by omega
      have : ¬ cap ≤ i := by omega
      simp [Result.andThen, sliced, addr_mk, *]
    · refine ⟨g, off + i, cap - i, by rw [List.length_drop], by rw [List.length_drop]; omega, by omega, hg, fun k hk => ?_⟩
      rw [List.length_drop] at hk
      rw [Nat.add_assoc, hc (i + k) (by omega), List.getElem_drop]
theorem Sl.take {w : World} {v : Value} {ss : List (List UInt8)} (h : Sl w v ss) (i : Nat) (hi : i ≤ ss.length) : ∃ v', (∀ W, (Instr.slice 23 v none (some (.int .i64 (i : Int))) none).run Tryd.prog W = .ok v' W) ∧ Sl w v' (ss.take i) := by
  obtain ⟨g, off, cap, rfl, h1, h2, hg, hc⟩ := h
  have hl : (ss.take i).length = i := by rw [List.length_take]; omega
  refine ⟨.slice (some ⟨g, off, none⟩) i cap, fun W => ?_, ?_⟩
  · rw [run_slice_h W 23 (some ⟨g, off, none⟩) ss.length cap (by rw [elemS9]; exact Tryd.underlying23) .i64 (i : Int) (by omega) (by omega), elemS9, Tryd.sizeOf9]
    simp [Result.andThen, sliced, addr_mk]
  · refine ⟨g, off, cap, by rw [hl], by omega, h2, hg, fun k hk => ?_⟩
    rw [hl] at hk
    rw [hc k (by omega), List.getElem_take]
set_option maxHeartbeats 2000000 in
set_option maxRecDepth 100000 in
theorem copyS_any (v : Value) (ss : List (List UInt8)) (w : World) (hf : Sl w v ss) (hl : ss.length ≤ 1048576) :
    Calls Tryd.prog 50 #[v] w fun e w' => ∃ v', e = .returned v' ∧ w'.ownsRow w.heap.size 9 1 v' ss.length (strsV ss) ∧ Below w.heap.size w w' := by
  obtain ⟨i0, hi, hz0, hz1, hz2⟩ := info_parts info9
  have HF : Hid (Sl w v ss) := hf
  obtain ⟨g, off, cap, hv, hcap, hcm, hg, hcx⟩ := hf
  subst hv
  clear hcx
  unfold maxLen at hcm
  go_enter Tryd.func50, Tryd.ntmps50
  go_wp2_with (at_builtin; refine wpList_append_own _ rfl _ _ 23 rfl w.heap.size 9 i0 (.string ⟨#[]⟩) 1 16 Tryd.underlying23 hi hz0 hz1 hz2 rfl (by decide) (.slice none 0 0) 0 [] rfl (World.ownsRow_nil _ _ _ _) ⟨g, off, none⟩ ss.length cap (strsV ss) rfl (strsV_len ss) ?c1 ?c2 ?c3 ?c4 ?c5 ?_)
  case c1 => exact HF.out.cells
  case c2 => exact strsV_one ss
  case c3 => unfold maxLen; omega
  case c4 => omega
  case c5 => omega
  · intro v' w' hown' hgrow _
    have hB : Below w.heap.size w w' := (Below.refl _ w).grown hgrow (Nat.le_refl _) (fun b hb => ((World.ownsRow_nil w w.heap.size 9 1).lt b hb).1)
    have hown2 : w'.ownsRow w.heap.size 9 1 v' ss.length (strsV ss) := by
      exact hown'
    clear hown' hgrow
    go_wp2_with fail
    go_ret
    exact ⟨_, rfl, hown2, hB⟩
end Go.Proofs.YteifheoomodplaaDoor

/-
  What Has and Copy of the document's answers compute of texts, and sorted: each text laid into those that are there; at most 1,000 texts.
-/
namespace Go.Proofs.YteifheoomodplaaDoor
open Go.RowKit

set_option maxHeartbeats 1000000 in
set_option maxRecDepth 100000 in
theorem rhasS_at (v : Value) (L : List Txt) (n B : Nat) (x : ByteArray) (hn : n = L.length) (w : World) (h : w.ownsRow B 9 1 v n (strs L)) :
    Calls Tryd.prog 14 #[v, .string x] w fun e w' => e = .returned (.bool (L.contains x.data.toList)) ∧ w' = w := by
  subst hn
  obtain ⟨ad, cap, hv, hcm, hcap, hc⟩ := own_form2 h
  subst hv
  have HC : Hid (0 < L.length → ∃ g, ad = some ⟨g, 0, none⟩ ∧ B ≤ g ∧ g < w.heap.size ∧ ∀ j, j < L.length * 1 → w.cell? ⟨g, j, none⟩ = (strs L)[j]?) := hc
  clear hc h
  unfold maxLen at hcm
  go_enter Tryd.func14, Tryd.ntmps14
  go_wp2_with fail
  go_loopw [9] (fun i wr => ∃ k : Nat, k ≤ L.length ∧ i = .int .i64 k ∧ Hid ((L.take k).contains x.data.toList = false) ∧ wr = w) (fun i _ => L.length - (intOf i).toNat)
  case atStart => exact ⟨0, Nat.zero_le _, rfl, rfl, rfl⟩
  case round =>
    obtain ⟨k, hk, rfl, HNO, rfl⟩ := hrel
    by_cases hlt : k < L.length
    · obtain ⟨g, rfl, _, hgs, hce⟩ := HC.out (by omega)
      have c1 := hce k (by omega)
      rw [strs_get L k hlt] at c1
      obtain ⟨u, hu⟩ : ∃ u : ByteArray, u = ⟨(L[k]).toArray⟩ := ⟨_, rfl⟩
      have HU : Hid (u.data.toList = L[k]) := by show _ = _; rw [hu]
      rw [← hu] at c1
      have hki : (k : Int) < (L.length : Int) := by omega
      have hk0 : (0 : Int) ≤ (k : Int) := by omega
      clear hce hu
      cases hq : (x.toList == u.toList)
      · have HNX : Hid ((L.take (k + 1)).contains x.data.toList = false) := by
          have h := HNO.out
          show _ = _
          rw [List.take_succ_eq_append_getElem hlt]
          rw [Bool.eq_false_iff] at h ⊢
          intro h2
          rw [List.contains_iff_mem, List.mem_append] at h2
          rcases h2 with h2 | h2
          · exact h (List.contains_iff_mem.2 h2)
          · simp at h2
            rw [← HU.out] at h2
            rw [ByteArray.toList_eq, ByteArray.toList_eq, h2] at hq
            simp at hq
        go_wp2_with fail
        go_roundw
        case rel => exact ⟨k + 1, by omega, by go_num, HNX, trivial⟩
        case measure => simp [intOf]; omega
      · have HR : Hid (L.contains x.data.toList = true) := by
          show _ = _
          rw [List.contains_iff_mem]
          rw [ByteArray.toList_eq, ByteArray.toList_eq, beq_iff_eq] at hq
          rw [hq, HU.out]
          exact List.getElem_mem hlt
        go_wp2_with fail
        go_ret
        exact ⟨ret_bool HR.out.symm, rfl⟩
    · have HR : Hid (L.contains x.data.toList = false) := by
        have h := HNO.out
        rwa [List.take_of_length_le (by omega)] at h
      go_wp2_with fail
      go_ret
      exact ⟨ret_bool HR.out.symm, rfl⟩
set_option maxHeartbeats 1000000 in
set_option maxRecDepth 100000 in
theorem copyS_none (w : World) :
    Calls Tryd.prog 50 #[.slice none 0 0] w fun e w' => e = .returned (.slice none 0 0) ∧ w' = w := by
  obtain ⟨i0, hi, hz0, hz1, hz2⟩ := info_parts info9
  go_enter Tryd.func50, Tryd.ntmps50
  go_wp2_with (at_builtin; refine wpList_append_own_none rfl _ _ 23 rfl w.heap.size 9 i0 1 Tryd.underlying23 hi (.slice none 0 0) 0 [] rfl (World.ownsRow_nil _ _ _ _) rfl ?_)
  go_wp2_with fail
  go_ret
  exact ⟨rfl, rfl⟩
end Go.Proofs.YteifheoomodplaaDoor

/-
  What sorted of the document's answers computes: each text laid into those that are there; at most 1,000 texts.
-/
namespace Go.Proofs.YteifheoomodplaaDoor
open Go.RowKit

theorem le_op (x y : ByteArray) (s t : Txt) (hx : x.data.toList = s) (hy : y.data.toList = t) : (Op.bytesLess x.toList y.toList || x.toList == y.toList) = decide (s ≤ t) := by
  rw [bytesLess_eq, ByteArray.toList_eq, ByteArray.toList_eq, hx, hy]
  by_cases h : s ≤ t
  · rw [decide_eq_true h]
    by_cases he : s = t
    · simp [he]
    · simp [txt_lt_of_le_ne h he]
  · rw [decide_eq_false h]
    have h1 : ¬ s < t := fun e => h (txt_le e)
    have h2 : s ≠ t := fun e => h (e ▸ List.le_refl _)
    simp [h1, h2]
theorem sort_snoc (L : List Txt) (s : Txt) : sortV (L ++ [s]) = insV s (sortV L) := by simp [sortV]
theorem sort_len (L : List Txt) : (sortV L).length = L.length := by
  have gen : ∀ (L o : List Txt), (L.foldl (fun o s => insV s o) o).length = o.length + L.length := by
    intro L
    induction L with
    | nil => intro o; rfl
    | cons s L ih => intro o; rw [List.foldl_cons, ih, ins_len, List.length_cons]; omega
  have := gen L []
  simpa [sortV] using this
/-- A slice that lies in a block of its own can be read. -/
theorem Sl.block {w : World} {B g n cap : Nat} {S : List Txt} (h : w.ownsRow B 9 1 (.slice (some ⟨g, 0, none⟩) n cap) n (strs S)) (hn : n = S.length) : Sl w (.slice (some ⟨g, 0, none⟩) n cap) S := by
  subst hn
  rcases h.2 with ⟨h0, _⟩ | ⟨g', cap', cur, h0, hB, hg, hnc, hcm, _⟩
  · cases h0
  · cases h0
    refine ⟨g, 0, cap, rfl, hnc, hcm, (Array.getElem?_eq_some_iff.1 hg).1, fun k hk => ?_⟩
    rw [Nat.zero_add, h.cellAt k (by omega), strs_get S k hk]
set_option maxHeartbeats 4000000 in
set_option maxRecDepth 100000 in
theorem rsorted_at (v : Value) (L : List Txt) (n B : Nat) (hn : n = L.length) (hl : n ≤ 1000) (w : World) (h : w.ownsRow B 9 1 v n (strs L)) :
    Calls Tryd.prog 25 #[v] w fun e w' => ∃ v', e = .returned v' ∧ w'.ownsRow w.heap.size 9 1 v' (sortV L).length (strs (sortV L)) ∧ Below w.heap.size w w' := by
  subst hn
  obtain ⟨i0, hi, hz0, hz1, hz2⟩ := info_parts info9
  obtain ⟨ad, cap, hv, hcm, hcap, hc⟩ := own_form2 h
  subst hv
  have HC : Hid (0 < L.length → ∃ g, ad = some ⟨g, 0, none⟩ ∧ B ≤ g ∧ g < w.heap.size ∧ ∀ j, j < L.length * 1 → w.cell? ⟨g, j, none⟩ = (strs L)[j]?) := hc
  clear hc h
  unfold maxLen at hcm
  go_enter Tryd.func25, Tryd.ntmps25
  go_wp2_with fail
  go_loopw [3, 9] (fun o i wr => ∃ k : Nat, k ≤ L.length ∧ i = .int .i64 k ∧ wr.ownsRow w.heap.size 9 1 o (sortV (L.take k)).length (strs (sortV (L.take k))) ∧ Below w.heap.size w wr) (fun _ i _ => L.length - (intOf i).toNat)
  case atStart => exact ⟨0, Nat.zero_le _, rfl, World.ownsRow_nil _ _ _ _, Below.refl _ _⟩
  case round =>
    obtain ⟨k, hk, rfl, hown, hw⟩ := hrel
    have hsz := hw.size
    by_cases hlt : k < L.length
    · obtain ⟨g, rfl, _, hgs, hce⟩ := HC.out (by omega)
      have c1 := hce k (by omega)
      rw [strs_get L k hlt] at c1
      obtain ⟨s, hs⟩ : ∃ s : ByteArray, s = ⟨(L[k]).toArray⟩ := ⟨_, rfl⟩
      obtain ⟨S, hS⟩ : ∃ S, sortV (L.take k) = S := ⟨_, rfl⟩
      have HN : Hid (sortV (L.take (k + 1)) = insV s.data.toList S) := by show _ = _; rw [List.take_succ_eq_append_getElem hlt, sort_snoc, hS, hs]
      have hSl : S.length ≤ 1000 := by rw [← hS, sort_len]; have := List.length_take_le k L; omega
      rw [hS] at hown
      have d1 : wr.cell? ⟨g, k, none⟩ = some (.string s) := by rw [hw.cell (p := ⟨g, k, none⟩) hgs, hs]; exact c1
      obtain ⟨ao, co, rfl, hom, hoc, hcells⟩ := own_slice hown
      have HCO : Hid (0 < S.length → ∃ g, ao = some ⟨g, 0, none⟩ ∧ w.heap.size ≤ g ∧ g < wr.heap.size ∧ ∀ j, j < S.length → wr.cell? ⟨g, j, none⟩ = (strs S)[j]?) := hcells
      have HO : Hid (wr.ownsRow w.heap.size 9 1 (.slice ao S.length co) S.length (strs S)) := hown
      have hki : (k : Int) < (L.length : Int) := by omega
      have hk0 : (0 : Int) ≤ (k : Int) := by omega
      have hgr : g < wr.heap.size := by omega
      unfold maxLen at hom
      clear hce c1 hs hS hown hcells
      go_wp2_with fail
      go_loop [6] (fun kk => ∃ j : Nat, j ≤ S.length ∧ kk = .int .i64 j ∧ Hid (∀ i, (h : i < S.length) → i < j → S[i] ≤ s.data.toList)) (fun kk => S.length - (intOf kk).toNat)
      case atStart => exact ⟨0, Nat.zero_le _, rfl, fun i _ h => absurd h (by omega)⟩
      case round =>
        obtain ⟨j, hj, rfl, HLE⟩ := hrel
        obtain ⟨c, hcd⟩ : ∃ c, (if h : j < S.length then decide (S[j] ≤ s.data.toList) else false) = c := ⟨_, rfl⟩
        have HCD : Hid ((if h : j < S.length then decide (S[j] ≤ s.data.toList) else false) = c) := hcd
        have hj0 : (0 : Int) ≤ (j : Int) := by omega
        clear hcd
        go_upto_region 6 with fail
        go_cut [24] (fun x wx => x = .bool c ∧ wx = wr)
        case first =>
          by_cases hjl : j < S.length
          · obtain ⟨go, rfl, _, hgo, hco⟩ := HCO.out (by omega)
            have e1 := hco j hjl
            rw [strs_get S j hjl] at e1
            obtain ⟨u, hu⟩ : ∃ u : ByteArray, u = ⟨(S[j]).toArray⟩ := ⟨_, rfl⟩
            have hle := le_op u s S[j] s.data.toList (by rw [hu]) rfl
            rw [← hu] at e1
            have hcd := HCD.out
            rw [dif_pos hjl, ← hle] at hcd
            have hji : (j : Int) < (S.length : Int) := by omega
            clear hu hle hco
            go_wp2_with fail
            go_meet
            exact ⟨rfl, rfl⟩
          · have hji : ¬ (j : Int) < (S.length : Int) := by omega
            have hcd := HCD.out
            rw [dif_neg hjl] at hcd
            subst hcd
            go_wp2_with fail
            go_meet
            exact ⟨rfl, rfl⟩
        case rest =>
          obtain ⟨rfl, hwc⟩ := hcut
          replace hwc := hwc.symm
          subst hwc
          cases c
          · skip
            rcases HO.out.2 with ⟨hnil, hn0⟩ | ⟨go, cpo, cur, hvo, _⟩
            · obtain rfl : S = [] := List.length_eq_zero_iff.1 hn0
              cases hnil
              obtain rfl : j = 0 := by simpa using hj
              have hs1 : ∀ W, (Instr.slice 23 (.slice none 0 0) none (some (.int .i64 0)) none).run Tryd.prog W = .ok (.slice none 0 0) W := fun W => by
                rw [run_slice_h W 23 none 0 0 (by rw [elemS9]; exact Tryd.underlying23) .i64 0 (by omega) (by omega), elemS9, Tryd.sizeOf9]
                simp [Result.andThen, sliced]
              have hs2 : ∀ W, (Instr.slice 23 (.slice none 0 0) (some (.int .i64 0)) none none).run Tryd.prog W = .ok (.slice none 0 0) W := fun W => by
                rw [run_slice_l W 23 none 0 0 (by rw [elemS9]; exact Tryd.underlying23) .i64 0 (by omega) (by omega), elemS9, Tryd.sizeOf9]
                simp [Result.andThen, sliced]
              go_wp2_with fail
              go_region_held3 (fun _ => True) (trivial) (first
                | (go_at_call 50; refine (copyS_none _).mono ?_; rintro e w2 ⟨rfl, h2⟩; subst h2)
                | (refine step_append_none (by rfl) _ _ _ (by rfl) w.heap.size 9 i0 1 Tryd.underlying23 hi (.slice (some ⟨wr.heap.size, 0, none⟩) 1 1) 1 [.string s] (by rfl) (own_block1 (heap_alloc_new _ _) hsz) (by rfl) ?_)
                | (refine step_append_at (by rfl) _ _ _ (by rfl) w.heap.size 9 i0 (.string ⟨#[]⟩) 1 16 Tryd.underlying23 hi hz0 hz1 hz2 rfl (by decide) (.slice none 0 0) 0 [] (by rfl) (World.ownsRow_nil _ _ _ _) ⟨wr.heap.size, 0, none⟩ 1 1 [.string s] (by rfl) (by rfl) (one_news (by simp)) (by simp [Value.oneCell']) (by omega) (by unfold maxLen; omega) (by omega) (by simp; omega) _ rfl ?_
                   intro g4 c4 w4 hown4 hgr4 hat4 hlt4))
              all_goals
                have hB4 : Below w.heap.size w w4 := ((hw.alloc hsz _).drew).grown hgr4 (by simp; omega) (fun k hk => by cases hk)
                have hown5 : w4.ownsRow w.heap.size 9 1 (.slice (some ⟨g4, 0, none⟩) 1 c4) (sortV (L.take (k + 1))).length (strs (sortV (L.take (k + 1)))) := by rw [HN.out]; exact hown4
                clear hown4 hgr4 hat4
                go_wp2_with fail
                go_roundw
                case rel => exact ⟨k + 1, by omega, by go_num, hown5, hB4⟩
                case measure => simp [intOf]; omega
            · cases hvo
              have hS := Sl.block HO.out rfl
              obtain ⟨v1, hs1, hT⟩ := hS.take j hj
              obtain ⟨v2, hs2, hD⟩ := hS.drop j hj
              obtain ⟨T, hTe⟩ : ∃ T, S.take j = T := ⟨_, rfl⟩
              obtain ⟨D, hDe⟩ : ∃ D, S.drop j = D := ⟨_, rfl⟩
              have hins := ins_at s.data.toList S j hj (fun i h hi => HLE.out i h hi) (fun h hle => by have := HCD.out; rw [dif_pos h, decide_eq_true hle] at this; cases this)
              rw [hTe, hDe] at hins
              rw [hTe] at hT
              rw [hDe] at hD
              have HIN : Hid (sortV (L.take (k + 1)) = T ++ ([s.data.toList] ++ D)) := by show _ = _; rw [HN.out, hins]
              have hTl : T.length ≤ 1000 := by rw [← hTe]; have := List.length_take_le j S; omega
              have hDl : D.length ≤ 1000 := by rw [← hDe, List.length_drop]; omega
              obtain ⟨g2, o2, cp2, rfl, hcp2, hcm2, hg2, hce2⟩ := id hD
              have HD : Hid (∀ W, Below wr.heap.size wr W → Sl W (.slice (some ⟨g2, o2, none⟩) D.length cp2) D) := fun W h => hD.below h
              have HT : Hid (∀ W, Below wr.heap.size wr W → Sl W v1 T) := fun W h => hT.below h
              have HW : Hid (∀ W, Below wr.heap.size wr W → Below w.heap.size w W ∧ w.heap.size ≤ W.heap.size) := fun W h => ⟨hw.trans (h.mono hsz), Nat.le_trans hsz h.size⟩
              have HSZ : Hid (w.heap.size ≤ wr.heap.size) := hsz
              clear hTe hDe hins hT hD hS hcp2 hcm2 hg2 hce2 HLE HCD HN HCO HO hw hsz
              go_wp2_with fail
              go_region_held3 (fun _ => True) (trivial) (first
                | (go_at_call 50; refine (copyS_any v1 T _ (HT.out _ (Below.refl _ _).drew) (by omega)).mono ?_; rintro e w2 ⟨x2, rfl, hown2, hb2⟩
                   have hk2 : Below wr.heap.size wr w2 := (Below.refl _ _).drew.trans hb2
                   have hs2 := hk2.size
                   replace hown2 := own_low hown2 (HSZ.out))
                | (go_at_call 50; refine (copyS_any v1 T _ (HT.out _ ((Below.refl _ _).alloc (Nat.le_refl _) _).drew) (by omega)).mono ?_; rintro e w2 ⟨x2, rfl, hown2, hb2⟩
                   have hk2 : Below wr.heap.size wr w2 := ((Below.refl _ _).alloc (Nat.le_refl _) _).drew.trans (hb2.mono (by simp))
                   have hs2 := hk2.size
                   have hbk2 : w2.heap[wr.heap.size]? = some (.cells #[.string s] 9 (0, 0)) := (hb2.block _ (by simp)).trans (heap_alloc_new wr _)
                   have hlow2 : ∀ q, x2.ownBlock = some q → wr.heap.size < q := fun q hq => by have := (hown2.lt q hq).1; simp at this; omega
                   replace hown2 := own_low hown2 (show w.heap.size ≤ _ by have := HSZ.out; simp; omega))
                | (refine step_append_at (by rfl) _ _ _ (by rfl) w.heap.size 9 i0 (.string ⟨#[]⟩) 1 16 Tryd.underlying23 hi hz0 hz1 hz2 rfl (by decide) (.slice (some ⟨w2.heap.size, 0, none⟩) 1 1) 1 [.string s] (by rfl) (own_block1 (heap_alloc_new w2 _) (Nat.le_trans HSZ.out hs2)) ⟨g2, o2, none⟩ D.length cp2 (strsV D) (by rfl) (by rw [strsV_len]) (HD.out _ (hk2.alloc hs2 _)).cells (strsV_one _) (by omega) (by unfold maxLen; omega) (by omega) (by simp; have := HSZ.out; omega) _ rfl ?_
                   intro g3 c3 w3 hown3 hgr3 hat3 hlt3
                   have hown2' := own_kept (own_below3 hown2 ((Below.refl _ w2).alloc (Nat.le_refl _) (.cells #[.string s] 9))) hgr3 (fun q hq hq2 => by have := (hown2.lt q hq2).2; have hq : w2.heap.size = q := Option.some.inj hq; omega)
                   have hk3 : Below wr.heap.size wr w3 := (hk2.alloc hs2 _).grown hgr3 (by simp; omega) (fun q hq => by have hq : w2.heap.size = q := Option.some.inj hq; omega)
                   have hsep3 : Sep x2 (.slice (some ⟨g3, 0, none⟩) (1 + D.length) c3) := fun q hq hq3 => by
                     have hq3 : g3 = q := Option.some.inj hq3
                     have h1 := (hown2.lt q hq).2
                     rcases hat3 with h | h
                     · have h : w2.heap.size = g3 := Option.some.inj h
                       omega
                     · simp at h; omega
                   clear hown2)
                | (refine step_append_at (by rfl) _ _ _ (by rfl) w.heap.size 9 i0 (.string ⟨#[]⟩) 1 16 Tryd.underlying23 hi hz0 hz1 hz2 rfl (by decide) (.slice (some ⟨wr.heap.size, 0, none⟩) 1 1) 1 [.string s] (by rfl) (own_block1 hbk2 HSZ.out) ⟨g2, o2, none⟩ D.length cp2 (strsV D) (by rfl) (by rw [strsV_len]) (HD.out _ hk2).cells (strsV_one _) (by omega) (by unfold maxLen; omega) (by omega) (by have := HSZ.out; omega) _ rfl ?_
                   intro g3 c3 w3 hown3 hgr3 hat3 hlt3
                   have hown2' := own_kept hown2 hgr3 (fun q hq hq2 => by have := hlow2 q hq2; have hq : wr.heap.size = q := Option.some.inj hq; omega)
                   have hk3 : Below wr.heap.size wr w3 := hk2.grown hgr3 (by omega) (fun q hq => by have hq : wr.heap.size = q := Option.some.inj hq; omega)
                   have hsep3 : Sep x2 (.slice (some ⟨g3, 0, none⟩) (1 + D.length) c3) := fun q hq hq3 => by
                     have hq3 : g3 = q := Option.some.inj hq3
                     have h1 := (hown2.lt q hq).2
                     have h2 := hlow2 q hq
                     rcases hat3 with h | h
                     · have h : wr.heap.size = g3 := Option.some.inj h
                       omega
                     · omega
                   clear hown2)
                | (refine step_append_at (by rfl) _ _ _ (by rfl) w.heap.size 9 i0 (.string ⟨#[]⟩) 1 16 Tryd.underlying23 hi hz0 hz1 hz2 rfl (by decide) x2 T.length (strsV T) (by rfl) hown2' ⟨g3, 0, none⟩ (1 + D.length) c3 ([.string s] ++ strsV D) (by rfl) (by simp [strsV]; omega) (own_news hown3) (by intro u hu; rcases List.mem_append.1 hu with h | h; (simp at h; subst h; rfl); exact strsV_one _ u h) (by omega) (by unfold maxLen; omega) (by omega) (by have := HSZ.out; have := hk3.size; omega) _ rfl ?_
                   intro g4 c4 w4 hown4 hgr4 hat4 hlt4
                   have hB4 : Below w.heap.size w w4 := (HW.out _ hk3).1.grown hgr4 (HW.out _ hk3).2 (fun q hq => (hown2'.lt q hq).1)))
              all_goals
                have hown5 : w4.ownsRow w.heap.size 9 1 (.slice (some ⟨g4, 0, none⟩) (T.length + (1 + D.length)) c4) (sortV (L.take (k + 1))).length (strs (sortV (L.take (k + 1)))) := by
                  have e1 : strs (T ++ ([s.data.toList] ++ D)) = strsV T ++ ([.string s] ++ strsV D) := by simp [strs, strsV]
                  have e2 : (T ++ ([s.data.toList] ++ D)).length = T.length + (1 + D.length) := by simp; omega
                  rw [HIN.out, e1, e2]; exact hown4
                clear hown4 hgr4 hat4 hown2' hown3
                go_wp2_with fail
                go_roundw
                case rel => exact ⟨k + 1, by omega, by go_num, hown5, hB4⟩
                case measure => simp [intOf]; omega
          · have hjl : j < S.length := by
              by_cases hjl : j < S.length
              · exact hjl
              · have := HCD.out; rw [dif_neg hjl] at this; cases this
            have HLN : Hid (∀ i, (h : i < S.length) → i < j + 1 → S[i] ≤ s.data.toList) := by
              intro i h hij
              by_cases he : i = j
              · subst he
                have := HCD.out
                rw [dif_pos h] at this
                exact of_decide_eq_true this
              · exact HLE.out i h (by omega)
            go_wp2_with fail
            go_round
            case rel => exact ⟨j + 1, by omega, by go_num, HLN⟩
            case measure => simp [intOf]; omega
    · obtain rfl : k = L.length := by omega
      rw [List.take_length] at hown
      go_wp2_with fail
      go_ret
      exact ⟨_, rfl, hown, hw⟩
end Go.Proofs.YteifheoomodplaaDoor

/-
  What slices.Sort and slices.Compact do to a slice of texts that the call itself laid; at most 1,000,000 texts.
-/
namespace Go.Proofs.YteifheoomodplaaDoor
open Go.RowKit Go.Sort

theorem strs_enc (l : List Txt) : strs l = l.map encStr := rfl
theorem ssort_any (v : Value) (L : List Txt) (n B : Nat) (hn : n = L.length) (hl : n ≤ 1000000) (w : World) (h : w.ownsRow B 9 1 v n (strs L)) :
    Calls Tryd.prog 19 #[v] w fun e w' => e = .returned (.tuple #[]) ∧ w'.ownsRow B 9 1 v n (strs (L.mergeSort fun x y => decide (x ≤ y))) ∧ Below B w w' ∧ w.heap.size ≤ w'.heap.size := by
  subst hn
  rw [strs_enc] at h ⊢
  by_cases hv : v = .slice none 0 0
  · subst hv
    have h0 : L.length = 0 := by
      rcases h.2 with ⟨_, h0⟩ | ⟨g, cap, cur, hv, _⟩
      · exact h0
      · cases hv
    obtain rfl : L = [] := List.length_eq_zero_iff.1 h0
    refine (Tryd.slices_Sort_string_none none 0 w).mono ?_
    rintro e w' ⟨rfl, rfl⟩
    exact ⟨rfl, by simpa using h, Below.refl _ _, Nat.le_refl _⟩
  · obtain ⟨g, cap, rfl, hB, hg, hnc, hcm, _, hH⟩ := Lib.holds_of_ownsRow h hv
    rcases h.2 with ⟨h0, _⟩ | ⟨g', cap', cur, h0, hbase, hb, h1, h2, h3, h4⟩
    · cases h0
    · cases h0
      refine (Tryd.slices_Sort_string g 0 cap L w hH hg (by omega)).mono ?_
      rintro e w' ⟨rfl, nn, os, rfl⟩
      have hl2 : (L.mergeSort fun x y => decide (x ≤ y)).length = L.length := List.length_mergeSort L
      refine ⟨rfl, ownsRow_sorted (n := nn) (os := os) hl2 hbase hb h1 h2 h3, ?_, by simp⟩
      have hgr := grownBy_sorted (w := w) (g := g) (n := nn) (os := os) (L.mergeSort fun x y => decide (x ≤ y)).toArray
      exact ⟨hgr.os, hgr.tape, hgr.output, hgr.size, fun k hk => hgr.block k (by omega) (fun e => by cases e; omega)⟩
theorem scompact_any (v : Value) (L : List Txt) (n B : Nat) (hn : n = L.length) (hl : n ≤ 1000000) (w : World) (h : w.ownsRow B 9 1 v n (strs L)) :
    Calls Tryd.prog 20 #[v] w fun e w' => ∃ v', e = .returned v' ∧ w'.ownsRow B 9 1 v' (Lib.compact L).length (strs (Lib.compact L)) ∧ Below B w w' ∧ w.heap.size ≤ w'.heap.size := by
  subst hn
  rw [strs_enc] at h ⊢
  by_cases hv : v = .slice none 0 0
  · subst hv
    have h0 : L.length = 0 := by
      rcases h.2 with ⟨_, h0⟩ | ⟨g, cap, cur, hv, _⟩
      · exact h0
      · cases hv
    obtain rfl : L = [] := List.length_eq_zero_iff.1 h0
    refine (Tryd.slices_Compact_string_empty none 0 w).mono ?_
    rintro e w' ⟨rfl, rfl⟩
    exact ⟨_, rfl, h, Below.refl _ _, Nat.le_refl _⟩
  · obtain ⟨g, cap, rfl, hB, hg, hnc, hcm, _, hH⟩ := Lib.holds_of_ownsRow h hv
    refine (Tryd.slices_Compact_string g 0 cap L w hH (by omega) hnc).mono ?_
    rintro e w' ⟨rfl, q, rfl⟩
    have hle := compact_len L
    have hc := Lib.ownsRow_putRow (q := q) (k := (Lib.compact L).length) (ys := Lib.compact L ++ List.replicate (L.length - (Lib.compact L).length) []) h (by simp; omega) hle
    rw [List.take_left] at hc
    exact ⟨_, rfl, hc, Lib.below_putRow (Below.refl _ _) hB, by simp⟩
end Go.Proofs.YteifheoomodplaaDoor

/-
  The letters A to Z as a to z, byte by byte; no program is named here.
-/
namespace Go.Proofs.YteifheoomodplaaDoor
open Go.RowKit

theorem low_yes (c : UInt8) (h : 65 ≤ (c.toNat : Int)) (h' : (c.toNat : Int) ≤ 90) : ((low c).toNat : Int) = (c.toNat : Int) + 32 := by
  have e : (65 ≤ c && c ≤ 90) = true := by simp [UInt8.le_iff_toNat_le]; omega
  unfold low
  rw [if_pos e, UInt8.toNat_add]
  have : (32 : UInt8).toNat = 32 := rfl
  omega
theorem low_no (c : UInt8) (h : (c.toNat : Int) < 65 ∨ 90 < (c.toNat : Int)) : low c = c := by
  have e : (65 ≤ c && c ≤ 90) = false := by rw [Bool.eq_false_iff]; simp [UInt8.le_iff_toNat_le]; omega
  unfold low
  rw [e]; rfl

theorem lower_snoc (l : List UInt8) (c : UInt8) : lower (l ++ [c]) = lower l ++ [low c] := by simp [lower]
end Go.Proofs.YteifheoomodplaaDoor

/-
  What Lower of package token computes: the letters A to Z as a to z; the string fits in the memory that Go's limits allow.
-/
namespace Go.Proofs.YteifheoomodplaaDoor
open Go.RowKit

theorem cells_snoc (l : List UInt8) (c : UInt8) (n : Int) (h : n = ((low c).toNat : Int)) : Lib.byteCells (lower l) ++ [Value.int .u8 n] = Lib.byteCells (lower (l ++ [c])) := by
  rw [lower_snoc, Lib.byteCells_append, h]; rfl

set_option maxHeartbeats 1000000 in
set_option maxRecDepth 100000 in
theorem lower_any (s : ByteArray) (w : World) (hs : s.size ≤ 140737488351232) :
    Calls Tryd.prog 15 #[.string s] w fun e w' => e = .returned (.string ⟨(lower s.data.toList).toArray⟩) ∧ Below w.heap.size w w' := by
  go_enter Tryd.func15, Tryd.ntmps15
  go_wp2_with fail
  refine (Tryd.Builder_Grow_fresh w.heap.size w.heap.size s.size _ (Nat.le_refl _) ?hbk ?hBw (by omega)).mono ?_
  case hbk => exact heap_alloc_new _ _
  case hBw => simp
  rintro e w1 ⟨rfl, hb1, hw1⟩
  have hw1' : Below w.heap.size w w1 := ((Below.refl _ w).alloc (Nat.le_refl _) _).trans hw1
  clear hw1
  go_wp2_with fail
  go_loopw [11] (fun i wr => ∃ k : Nat, k ≤ s.size ∧ i = .int .i64 k ∧ Lib.BuilderAt 57 5 w.heap.size w.heap.size (.pointer (some ⟨w.heap.size, 0, none⟩)) (Lib.byteCells (lower (s.data.toList.take k))) wr ∧ Below w.heap.size w wr) (fun i _ => s.size - (intOf i).toNat)
  case atStart => exact ⟨0, Nat.zero_le _, rfl, hb1, hw1'⟩
  case round =>
    obtain ⟨k, hk, rfl, hb, hw⟩ := hrel
    clear hb1 hw1'
    by_cases hlt : k < s.size
    · have hlen : (Lib.byteCells (lower (s.data.toList.take k))).length + 1 ≤ 140737488355328 := by
        rw [Lib.byteCells_length]; simp [lower]; omega
      have hc1 : (s[k].toNat : Int) < 256 := by have := s[k].toNat_lt; omega
      have hsz := hw.size
      rcases (show (s[k].toNat : Int) < 65 ∨ (65 ≤ (s[k].toNat : Int) ∧ (s[k].toNat : Int) ≤ 90) ∨ 91 ≤ (s[k].toNat : Int) from by omega) with h | ⟨h, h'⟩ | h
      · go_wp2_with fail
        refine (Tryd.Builder_WriteByte w.heap.size w.heap.size _ _ _ (.inr hb) hlen hsz).mono ?_
        rintro e w2 ⟨rfl, hb2, hw2⟩
        go_wp2_with fail
        go_roundw
        case rel => exact ⟨k + 1, by omega, by go_num, by rw [take_snoc s k hlt, ← cells_snoc _ _ _ (by rw [low_no _ (by omega)])]; exact hb2, hw.trans hw2⟩
        case measure => simp [intOf]; omega
      · go_wp2_with fail
        refine (Tryd.Builder_WriteByte w.heap.size w.heap.size _ _ _ (.inr hb) hlen hsz).mono ?_
        rintro e w2 ⟨rfl, hb2, hw2⟩
        go_wp2_with fail
        go_roundw
        case rel => exact ⟨k + 1, by omega, by go_num, by rw [take_snoc s k hlt, ← cells_snoc _ _ _ ((low_yes _ h h').symm)]; exact hb2, hw.trans hw2⟩
        case measure => simp [intOf]; omega
      · go_wp2_with fail
        refine (Tryd.Builder_WriteByte w.heap.size w.heap.size _ _ _ (.inr hb) hlen hsz).mono ?_
        rintro e w2 ⟨rfl, hb2, hw2⟩
        go_wp2_with fail
        go_roundw
        case rel => exact ⟨k + 1, by omega, by go_num, by rw [take_snoc s k hlt, ← cells_snoc _ _ _ (by rw [low_no _ (by omega)])]; exact hb2, hw.trans hw2⟩
        case measure => simp [intOf]; omega
    · obtain rfl : k = s.size := by omega
      have hsz := hw.size
      go_wp2_with fail
      refine (Tryd.Builder_String_any w.heap.size w.heap.size _ _ (.inr hb) hsz).mono ?_
      rintro e w2 ⟨rfl, hw2⟩
      go_wp2_with fail
      go_ret
      exact ⟨by rw [take_all]; rfl, hw.trans hw2⟩
end Go.Proofs.YteifheoomodplaaDoor

/-
  What named of package field hands back: a function of a field; what it answers in whatever later world. A name is no longer than Go allows.
-/
namespace Go.Proofs.YteifheoomodplaaDoor
open Go.RowKit

/-- A function value that answers p of each field, in whatever later world, and turns nothing. -/
def Pred (w : World) (f : Value) (p : Fld → Bool) : Prop :=
  ∃ (g : Nat) (lb : Array Value), f = .func (.func g) #[] lb ∧ (∀ args w, (callFunc g args).run Tryd.prog w = .ok (.enter g args) w) ∧
    ∀ (W : World) (n u : ByteArray), Below w.heap.size w W → n.size ≤ 140737488351232 → Calls Tryd.prog g (#[.agg #[.string n, .string u]] ++ lb) W fun e w' => e = .returned (.bool (p (n.data.toList, u.data.toList))) ∧ Below W.heap.size W w'
theorem Pred.later {w w' : World} {f : Value} {p : Fld → Bool} (h : Pred w f p) (hb : Below w.heap.size w w') : Pred w' f p := by
  obtain ⟨g, lb, hf, eg, hc⟩ := h
  exact ⟨g, lb, hf, eg, fun W n u hW hn => hc W n u (hb.trans (hW.mono hb.size)) hn⟩

theorem lower_at (s t : ByteArray) (h : t.data.toList = lower s.data.toList) (w : World) (hs : s.size ≤ 140737488351232) :
    Calls Tryd.prog 15 #[.string s] w fun e w' => e = .returned (.string t) ∧ Below w.heap.size w w' := by
  refine (lower_any s w hs).mono ?_
  rintro e w' ⟨rfl, hb⟩
  refine ⟨ret_str ?_, hb⟩
  apply ByteArray.ext; apply Array.ext'; exact h.symm

set_option maxHeartbeats 1000000 in
set_option maxRecDepth 100000 in
theorem named1_any (n u low : ByteArray) (B : Nat) (w : World) (hc : w.cell? ⟨B, 0, none⟩ = some (.string low)) (hn : n.size ≤ 140737488351232) :
    Calls Tryd.prog 52 #[.agg #[.string n, .string u], .pointer (some ⟨B, 0, none⟩)] w fun e w' => e = .returned (.bool (lower n.data.toList == low.data.toList)) ∧ Below w.heap.size w w' := by
  obtain ⟨t, ht⟩ : ∃ t : ByteArray, t.data.toList = lower n.data.toList := ⟨⟨(lower n.data.toList).toArray⟩, rfl⟩
  have HT : Hid (t.data.toList = lower n.data.toList) := ht
  have HQ : Hid ((lower n.data.toList == low.data.toList) = (t.toList == low.toList)) := by show _ = _; rw [ByteArray.toList_eq, ByteArray.toList_eq, ht]
  have hBs : B < w.heap.size := cell_in hc
  have hcl := hc
  clear ht
  go_enter Tryd.func52, Tryd.ntmps52
  go_wp2_with fail
  go_region_held3 (fun w' => w'.cell? ⟨w.heap.size, 0, none⟩ = some (.string n) ∧ w'.cell? ⟨B, 0, none⟩ = some (.string low)) (go_keep) (first | (go_at_call 15; refine (lower_at n t HT.out _ hn).mono ?_; rintro e w3 ⟨rfl, hb⟩; have hk1 : w3.cell? ⟨w.heap.size, 0, none⟩ = some (.string n) := (hb.cell (p := ⟨w.heap.size, 0, none⟩) (by simp)).trans (by simp); have hk2 : w3.cell? ⟨B, 0, none⟩ = some (.string low) := (hb.cell (p := ⟨B, 0, none⟩) (by simp; omega)).trans ((World.cell?_alloc_lt _ _ _ hBs).trans hcl)))
  all_goals
    go_wp2_with fail
    go_ret
    exact ⟨ret_bool HQ.out.symm, ((Below.refl _ w).alloc (Nat.le_refl _) _).drew.trans (hb.mono (by simp))⟩

set_option maxHeartbeats 1000000 in
set_option maxRecDepth 100000 in
theorem named_any (s : ByteArray) (w : World) (hs : s.size ≤ 140737488351232) :
    Calls Tryd.prog 31 #[.string s] w fun e w' => ∃ f, e = .returned f ∧ Pred w' f (fun x => lower x.1 == lower s.data.toList) ∧ Below w.heap.size w w' := by
  have hmf : ∀ (fn : Fn) (first cap : Array Value) (w : World), (Instr.makeFunc fn first cap).run Tryd.prog w = .ok (.func fn first cap) w := fun _ _ _ _ => rfl
  obtain ⟨t, ht⟩ : ∃ t : ByteArray, t.data.toList = lower s.data.toList := ⟨⟨(lower s.data.toList).toArray⟩, rfl⟩
  have HT : Hid (t.data.toList = lower s.data.toList) := ht
  clear ht
  go_enter Tryd.func31, Tryd.ntmps31
  go_wp2_with fail
  refine (lower_at s t HT.out _ hs).mono ?_
  rintro e w1 ⟨rfl, hb⟩
  have hsz := hb.size
  go_wp2_with fail
  go_ret
  refine ⟨_, rfl, ⟨52, _, rfl, enters_of Tryd.func52 (by kernel_rfl) rfl, fun W n u hW hn => ?_⟩, hb.alloc hsz _⟩
  rw [← HT.out]
  refine named1_any n u t w1.heap.size W ?_ hn
  exact (hW.cell (p := ⟨w1.heap.size, 0, none⟩) (by simp)).trans (by simp)
end Go.Proofs.YteifheoomodplaaDoor

/-
  What strings.Clone computes; a string is no longer than Go allows.
-/
namespace Go.Proofs.YteifheoomodplaaDoor
open Go.RowKit

set_option maxRecDepth 100000 in
theorem clone_big (s : ByteArray) (w : World) (hs : s.size ≤ 281474976710656) :
    Calls Tryd.prog 44 #[.string s] w fun e w' => e = .returned (.string s) ∧ Below w.heap.size w w' := by
  go_enter Tryd.func44, Tryd.ntmps44
  go_wp2_with fail
  refine (Tryd.stringslite_Clone s _ (by omega)).mono ?_
  rintro e w1 ⟨rfl, hb⟩
  go_wp2_with fail
  go_ret
  exact ⟨rfl, hb⟩
end Go.Proofs.YteifheoomodplaaDoor

/-
  What clone of package field computes; a string is no longer than Go allows.
-/
namespace Go.Proofs.YteifheoomodplaaDoor
open Go.RowKit

theorem pair_all {w : World} {g : Nat} {t : TypeId} {n u : Value} (h : w.heap[g]? = some (.cells #[n, u] t (0, 0))) :
    w.cell? ⟨g, 0, none⟩ = some n ∧ w.cell? ⟨g, 1, none⟩ = some u ∧ w.frozen? ⟨g, 0, none⟩ = false ∧ w.frozen? ⟨g, 1, none⟩ = false ∧ g < w.heap.size := by
  refine ⟨?_, ?_, Lib.frozen_of_heap h 0, Lib.frozen_of_heap h 1, (Array.getElem?_eq_some_iff.1 h).1⟩ <;> rw [Lib.cell_of_heap h] <;> rfl

theorem sc_keep {w W w3 : World} {n u : ByteArray} (h : W.cell? ⟨w.heap.size, 0, none⟩ = some (.string n) ∧ W.cell? ⟨w.heap.size, 1, none⟩ = some (.string u) ∧ W.cell? ⟨w.heap.size + 1, 0, none⟩ = some (.string ⟨#[]⟩) ∧ W.cell? ⟨w.heap.size + 1, 1, none⟩ = some (.string ⟨#[]⟩) ∧ W.frozen? ⟨w.heap.size + 1, 0, none⟩ = false ∧ W.frozen? ⟨w.heap.size + 1, 1, none⟩ = false ∧ w.heap.size + 1 < W.heap.size ∧ Below w.heap.size w W) (hb : Below W.heap.size W w3) :
    w3.cell? ⟨w.heap.size, 0, none⟩ = some (.string n) ∧ w3.cell? ⟨w.heap.size, 1, none⟩ = some (.string u) ∧ w3.cell? ⟨w.heap.size + 1, 0, none⟩ = some (.string ⟨#[]⟩) ∧ w3.cell? ⟨w.heap.size + 1, 1, none⟩ = some (.string ⟨#[]⟩) ∧ w3.frozen? ⟨w.heap.size + 1, 0, none⟩ = false ∧ w3.frozen? ⟨w.heap.size + 1, 1, none⟩ = false ∧ w.heap.size + 1 < w3.heap.size ∧ Below w.heap.size w w3 := by
  obtain ⟨h1, h2, h3, h4, h5, h6, h7, h8⟩ := h
  have hs := hb.size
  exact ⟨(hb.cell (p := ⟨w.heap.size, 0, none⟩) (by show w.heap.size < _; omega)).trans h1, (hb.cell (p := ⟨w.heap.size, 1, none⟩) (by show w.heap.size < _; omega)).trans h2, (hb.cell (p := ⟨w.heap.size + 1, 0, none⟩) h7).trans h3, (hb.cell (p := ⟨w.heap.size + 1, 1, none⟩) h7).trans h4, (hb.frozen (p := ⟨w.heap.size + 1, 0, none⟩) h7).trans h5, (hb.frozen (p := ⟨w.heap.size + 1, 1, none⟩) h7).trans h6, by omega, h8.trans (hb.mono (by omega))⟩
theorem sc_start (w : World) (n u : ByteArray) (t : TypeId) : ((w.alloc (.cells #[.string n, .string u] t)).alloc (.cells #[.string ⟨#[]⟩, .string ⟨#[]⟩] t)).drew.cell? ⟨w.heap.size, 0, none⟩ = some (.string n) ∧ ((w.alloc (.cells #[.string n, .string u] t)).alloc (.cells #[.string ⟨#[]⟩, .string ⟨#[]⟩] t)).drew.cell? ⟨w.heap.size, 1, none⟩ = some (.string u) ∧ ((w.alloc (.cells #[.string n, .string u] t)).alloc (.cells #[.string ⟨#[]⟩, .string ⟨#[]⟩] t)).drew.cell? ⟨w.heap.size + 1, 0, none⟩ = some (.string ⟨#[]⟩) ∧ ((w.alloc (.cells #[.string n, .string u] t)).alloc (.cells #[.string ⟨#[]⟩, .string ⟨#[]⟩] t)).drew.cell? ⟨w.heap.size + 1, 1, none⟩ = some (.string ⟨#[]⟩) ∧ ((w.alloc (.cells #[.string n, .string u] t)).alloc (.cells #[.string ⟨#[]⟩, .string ⟨#[]⟩] t)).drew.frozen? ⟨w.heap.size + 1, 0, none⟩ = false ∧ ((w.alloc (.cells #[.string n, .string u] t)).alloc (.cells #[.string ⟨#[]⟩, .string ⟨#[]⟩] t)).drew.frozen? ⟨w.heap.size + 1, 1, none⟩ = false ∧ w.heap.size + 1 < ((w.alloc (.cells #[.string n, .string u] t)).alloc (.cells #[.string ⟨#[]⟩, .string ⟨#[]⟩] t)).drew.heap.size ∧ Below w.heap.size w ((w.alloc (.cells #[.string n, .string u] t)).alloc (.cells #[.string ⟨#[]⟩, .string ⟨#[]⟩] t)).drew := by
  have e : (w.alloc (.cells #[.string n, .string u] t)).heap.size = w.heap.size + 1 := by simp
  have f0 := new_free (w.alloc (.cells #[.string n, .string u] t)) #[.string ⟨#[]⟩, .string ⟨#[]⟩] t 0
  have f1 := new_free (w.alloc (.cells #[.string n, .string u] t)) #[.string ⟨#[]⟩, .string ⟨#[]⟩] t 1
  rw [e] at f0 f1
  exact ⟨by simp, by simp, by simp, by simp, f0, f1, by simp, (((Below.refl _ w).alloc (Nat.le_refl _) _).alloc (by simp) _).drew⟩

set_option maxHeartbeats 2000000 in
set_option maxRecDepth 100000 in
theorem fclone_any (n u : ByteArray) (w : World) (hn : n.size ≤ 281474976710656) (hu : u.size ≤ 281474976710656) :
    Calls Tryd.prog 34 #[.agg #[.string n, .string u]] w fun e w' => e = .returned (.agg #[.string n, .string u]) ∧ Below w.heap.size w w' := by
  go_enter Tryd.func34, Tryd.ntmps34
  go_wp2_with fail
  go_region_held3 (fun w' => w'.cell? ⟨w.heap.size, 0, none⟩ = some (.string n) ∧ w'.cell? ⟨w.heap.size, 1, none⟩ = some (.string u)) (go_keep) (first | (go_at_call 44; refine (clone_big _ _ (by omega)).mono ?_; rintro e w3 ⟨rfl, hb⟩; first | (have hx := sc_keep (by assumption) hb) | (have hx := sc_keep (sc_start w n u _) hb)))
  all_goals
    obtain ⟨_, _, h1, h2, h3, h4, h5, h6⟩ := hx
    go_wp2_with fail
    refine bodyPost_ret (v := .agg #[.string n, .string u]) (by simp [results, Tryd.results34, go_sem, h1, h2]) rfl ⟨rfl, ?_⟩
    exact (h6.setCell (p := ⟨w.heap.size + 1, 0, none⟩) (by simp) _).setCell (p := ⟨w.heap.size + 1, 1, none⟩) (by simp) _
end Go.Proofs.YteifheoomodplaaDoor

/-
  The row of the type of fields, and blocks of one field; over the program's table of types.
-/
namespace Go.Proofs.YteifheoomodplaaDoor
open Go.RowKit

theorem infoF : (Tryd.prog.info? 39).map (fun i => (i.zero, i.size, i.bytes)) = some (some (.agg #[.string ⟨#[]⟩, .string ⟨#[]⟩]), 2, 32) := by kernel_rfl
theorem pair_below {w w' : World} {g : Nat} {t : TypeId} {n u : Value} (h : w.heap[g]? = some (.cells #[n, u] t (0, 0))) (hb : Below w.heap.size w w') : w'.heap[g]? = some (.cells #[n, u] t (0, 0)) :=
  (hb.block g (Array.getElem?_eq_some_iff.1 h).1).trans h
theorem pair_new (w : World) (t : TypeId) (n u : Value) : (w.alloc (.cells #[n, u] t)).heap[w.heap.size]? = some (.cells #[n, u] t (0, 0)) := heap_alloc_new _ _
theorem flds_one (ls : List Fld) : ∀ u ∈ flds ls, u.oneCell' = true := by
  intro u hu
  unfold flds at hu
  obtain ⟨x, _, hx⟩ := List.mem_flatMap.1 hu
  simp at hx
  rcases hx with rfl | rfl <;> rfl
end Go.Proofs.YteifheoomodplaaDoor

/-
  What pick of package field and slices.IndexFunc compute over a function value that answers p of each field; lists and texts are no longer than Go allows.
-/
namespace Go.Proofs.YteifheoomodplaaDoor
open Go.RowKit

/-- What fits in the memory that Go's limits allow. -/
def Wide (ls : List Fld) : Prop := (∀ x ∈ ls, x.1.length ≤ 140737488351232 ∧ x.2.length ≤ 140737488351232) ∧ ls.length * 32 ≤ 140737488353000
/-- What a list that came in is at most: some room is left for fields that a law itself adds. -/
def Slim (ls : List Fld) : Prop := (∀ x ∈ ls, x.1.length ≤ 140737488351232 ∧ x.2.length ≤ 140737488351232) ∧ ls.length * 32 ≤ 140737488351232
theorem Slim.wide {ls : List Fld} (h : Slim ls) : Wide ls := ⟨h.1, Nat.le_trans h.2 (by decide)⟩
theorem Slim.filter {ls : List Fld} (h : Slim ls) (p : Fld → Bool) : Slim (ls.filter p) := by
  refine ⟨fun x hx => h.1 x (List.mem_filter.1 hx).1, ?_⟩
  have := List.length_filter_le p ls
  have := h.2
  omega
theorem Wide.filter {ls : List Fld} (h : Wide ls) (p : Fld → Bool) : Wide (ls.filter p) := by
  refine ⟨fun x hx => h.1 x (List.mem_filter.1 hx).1, ?_⟩
  have := List.length_filter_le p ls
  have := h.2
  omega
theorem Wide.take {ls : List Fld} (h : Wide ls) (k : Nat) : Wide (ls.take k) := by
  refine ⟨fun x hx => h.1 x (List.mem_of_mem_take hx), ?_⟩
  have := List.length_take_le' k ls
  have := h.2
  omega
theorem Wide.drop {ls : List Fld} (h : Wide ls) (k : Nat) : Wide (ls.drop k) := by
  refine ⟨fun x hx => h.1 x (List.mem_of_mem_drop hx), ?_⟩
  have := h.2
  rw [List.length_drop]
  omega
theorem filter_take (ls : List Fld) (p : Fld → Bool) (k : Nat) (h : k < ls.length) : (ls.take (k + 1)).filter p = (ls.take k).filter p ++ (if p ls[k] then [ls[k]] else []) := by
  rw [List.take_succ_eq_append_getElem h, List.filter_append]
  congr 1
  rw [List.filter_cons]; rfl

set_option maxHeartbeats 2000000 in
set_option maxRecDepth 100000 in
theorem pick_any (v f : Value) (ls : List Fld) (p : Fld → Bool) (w : World) (hf : Fl w v ls) (hl : Wide ls) (hp : Pred w f p) :
    Calls Tryd.prog 33 #[v, f] w fun e w' => ∃ v', e = .returned v' ∧ w'.ownsRow w.heap.size 39 2 v' (ls.filter p).length (flds (ls.filter p)) ∧ Below w.heap.size w w' := by
  obtain ⟨i0, hi, hz0, hz1, hz2⟩ := info_parts infoF
  obtain ⟨ad, cap, hv, hcap, hcm, hc⟩ := hf
  obtain ⟨g0, lb, hfv, eg, hpc⟩ := hp
  subst hv hfv
  have HC : Hid (0 < ls.length → ∃ g off, ad = some ⟨g, off, none⟩ ∧ g < w.heap.size ∧
    ∀ (k : Nat) (h : k < ls.length), w.cell? ⟨g, off + k * 2, none⟩ = some (.string ⟨(ls[k]).1.toArray⟩) ∧ w.cell? ⟨g, off + k * 2 + 1, none⟩ = some (.string ⟨(ls[k]).2.toArray⟩)) := hc
  have HPC : Hid (∀ (W : World) (n u : ByteArray), Below w.heap.size w W → n.size ≤ 140737488351232 → Calls Tryd.prog g0 (#[.agg #[.string n, .string u]] ++ lb) W fun e w' => e = .returned (.bool (p (n.data.toList, u.data.toList))) ∧ Below W.heap.size W w') := hpc
  have HL : Hid (Wide ls) := hl
  have hll := hl.2
  clear hc hpc hl
  unfold maxLen at hcm
  go_enter Tryd.func33, Tryd.ntmps33
  go_wp2_with fail
  go_loopw [5, 10] (fun o i wr => ∃ k : Nat, k ≤ ls.length ∧ i = .int .i64 k ∧ wr.ownsRow w.heap.size 39 2 o ((ls.take k).filter p).length (flds ((ls.take k).filter p)) ∧ Below w.heap.size w wr) (fun _ i _ => ls.length - (intOf i).toNat)
  case atStart => exact ⟨0, Nat.zero_le _, rfl, World.ownsRow_nil _ _ _ _, Below.refl _ _⟩
  case round =>
    obtain ⟨k, hk, rfl, hown, hw⟩ := hrel
    have hsz := hw.size
    by_cases hlt : k < ls.length
    · obtain ⟨g, off, rfl, hgs, hce⟩ := HC.out (by omega)
      obtain ⟨c1, c2⟩ := hce k hlt
      have hmo := HL.out.1 ls[k] (List.getElem_mem hlt)
      obtain ⟨n, hn⟩ : ∃ n : ByteArray, n = ⟨(ls[k]).1.toArray⟩ := ⟨_, rfl⟩
      obtain ⟨u, hu⟩ : ∃ u : ByteArray, u = ⟨(ls[k]).2.toArray⟩ := ⟨_, rfl⟩
      have hns : n.size ≤ 140737488351232 := by rw [← size_list, hn]; exact hmo.1
      have hus : u.size ≤ 140737488351232 := by rw [← size_list, hu]; exact hmo.2
      have HE : Hid ((n.data.toList, u.data.toList) = ls[k]) := by show _ = _; rw [hn, hu]
      have d1 : wr.cell? ⟨g, off + k * 2, none⟩ = some (.string n) := by rw [hw.cell (p := ⟨g, off + k * 2, none⟩) hgs, hn]; exact c1
      have d2 : wr.cell? ⟨g, off + k * 2 + 1, none⟩ = some (.string u) := by rw [hw.cell (p := ⟨g, off + k * 2 + 1, none⟩) hgs, hu]; exact c2
      have hgr : g < wr.heap.size := by omega
      clear hce c1 c2 hmo hn hu
      have hki : (k : Int) < (ls.length : Int) := by omega
      have hk0 : (0 : Int) ≤ (k : Int) := by omega
      have HN0 : Hid ((wr.alloc (.cells #[.string n, .string u] 39)).heap[wr.heap.size]? = some (.cells #[.string n, .string u] 39 (0, 0))) := pair_new _ _ _ _
      have hw0 := hw.alloc hsz (.cells #[.string n, .string u] 39)
      have hown0 := hown.alloc (.cells #[.string n, .string u] 39)
      have HF := filter_take ls p k hlt
      have hfl : ((ls.take k).filter p).length ≤ k := by
        have h1 := List.length_filter_le p (ls.take k)
        have h2 := List.length_take_le k ls
        omega
      cases hq : p (n.data.toList, u.data.toList)
      · have HQ : Hid (p (n.data.toList, u.data.toList) = false) := hq
        rw [← HE.out, hq] at HF
        have HF2 : Hid ((ls.take (k + 1)).filter p = (ls.take k).filter p) := by show _ = _; rw [HF]; simp
        clear HF hq hown
        go_wp2_with (go_at_fn g0; refine (HPC.out _ n u hw0 hns).mono ?_; rintro e w2 ⟨rfl, hb2⟩; rw [HQ.out])
        go_roundw
        case rel => exact ⟨k + 1, by omega, by go_num, by rw [HF2.out]; exact own_below3 hown0 hb2, hw0.trans (hb2.mono hw0.size)⟩
        case measure => simp [intOf]; omega
      · have HQ : Hid (p (n.data.toList, u.data.toList) = true) := hq
        rw [← HE.out, hq] at HF
        have HF2 : Hid ((ls.take (k + 1)).filter p = (ls.take k).filter p ++ [(n.data.toList, u.data.toList)]) := by show _ = _; rw [HF]; simp
        clear HF hq hown
        go_wp2_with (go_at_fn g0; refine (HPC.out _ n u hw0 hns).mono ?_; rintro e w2 ⟨rfl, hb2⟩; rw [HQ.out]; have hown2 := own_below3 hown0 hb2; have hw2 := hw0.trans (hb2.mono hw0.size); obtain ⟨n1, n2, n3, n4, n5⟩ := pair_all (pair_below HN0.out hb2))
        refine (fclone_any n u _ (by omega) (by omega)).mono ?_
        rintro e w3 ⟨rfl, hb3⟩
        have hown3 := own_below3 hown2 hb3
        have hw3 := hw2.trans (hb3.mono hw2.size)
        have hsz3 := hw3.size
        clear hown2 hb3 hb2 hown0 n1 n2 n3 n4
        go_wp2_with (at_builtin; refine wpList_append_own _ rfl _ _ 22 rfl w.heap.size 39 i0 (.agg #[.string ⟨#[]⟩, .string ⟨#[]⟩]) 2 32 Tryd.underlying22 hi hz0 hz1 hz2 rfl (by decide) _ _ _ rfl (hown3.alloc _) ⟨w3.heap.size, 0, none⟩ 1 1 [.string n, .string u] rfl rfl ?c1 ?c2 ?c3 ?c4 ?c5 ?_)
        case c1 =>
          intro j z h
          match j, h with
          | 0, h => simp at h; subst h; simp [Addr.add]
          | 1, h => simp at h; subst h; simp [Addr.add]
        case c2 => intro z hx; simp at hx; rcases hx with rfl | rfl <;> rfl
        case c3 => unfold maxLen; omega
        case c4 => omega
        case c5 => simp; omega
        · intro v' w4 hown' hgrow _
          have hB : Below w.heap.size w w4 := (hw3.alloc (by omega) _).grown hgrow (by simp; omega) (fun b hb => ((hown3.alloc (.cells #[.string n, .string u] 39)).lt b hb).1)
          have hown4 : w4.ownsRow w.heap.size 39 2 v' ((ls.take (k + 1)).filter p).length (flds ((ls.take (k + 1)).filter p)) := by
            rw [HF2.out, ← flds_snoc, List.length_append]; exact hown'
          clear hown' hgrow hown3 hw3
          go_wp2_with fail
          go_roundw
          case rel => exact ⟨k + 1, by omega, by go_num, hown4, hB⟩
          case measure => simp [intOf]; omega
    · obtain rfl : k = ls.length := by omega
      rw [List.take_length] at hown
      go_wp2_with fail
      go_ret
      exact ⟨_, rfl, hown, hw⟩
end Go.Proofs.YteifheoomodplaaDoor

/-
  What strings.Join computes, of a row of texts of the call's own.
-/
namespace Go.Proofs.YteifheoomodplaaDoor
open Go.RowKit

def bas (ps : List (List UInt8)) : List ByteArray := ps.map fun p => ⟨p.toArray⟩
theorem bas_len (ps : List (List UInt8)) : (bas ps).length = ps.length := by simp [bas]
theorem bas_map (ps : List (List UInt8)) : (bas ps).map (·.data.toList) = ps := by
  induction ps with
  | nil => rfl
  | cons p ps ih => simp [bas] at ih ⊢; exact ih
theorem bas_get (ps : List (List UInt8)) (j : Nat) (x : ByteArray) (h : (bas ps)[j]? = some x) : (strs ps)[j]? = some (.string x) := by
  unfold bas at h
  unfold strs
  rw [List.getElem?_map] at h ⊢
  cases hp : ps[j]? with
  | none => rw [hp] at h; cases h
  | some p => rw [hp] at h; simp at h ⊢; exact h

theorem join_at (v : Value) (ps : List (List UInt8)) (B : Nat) (sep t : ByteArray) (ht : t.data.toList = Lib.join ps sep.data.toList) (w : World) (hown : w.ownsRow B 9 1 v ps.length (strs ps)) (hl : ps.length ≤ 140737488355328) (hj : t.size ≤ 140737488355328) :
    Calls Tryd.prog 38 #[v, .string sep] w fun e w' => e = .returned (.string t) ∧ Below w.heap.size w w' := by
  obtain ⟨ad, cap, hv, hcm, hnc, hc⟩ := own_slice hown
  subst hv
  by_cases h0 : ps.length = 0
  · have hp := List.eq_nil_of_length_eq_zero h0
    subst hp
    refine (Tryd.strings_Join_none ad cap sep w).mono ?_
    rintro e w' ⟨rfl, rfl⟩
    refine ⟨ret_str ?_, Below.refl _ _⟩
    apply ByteArray.ext; apply Array.ext'
    rw [ht]; rfl
  · obtain ⟨g, rfl, hgB, hgs, hce⟩ := hc (by omega)
    have c := Tryd.strings_Join g 0 cap (bas ps) sep w (fun j x hx => by
      have hjl : j < ps.length := by
        rw [← bas_len]
        rcases Nat.lt_or_ge j (bas ps).length with h | h
        · exact h
        · rw [List.getElem?_eq_none h] at hx; cases hx
      rw [Nat.zero_add, hce j hjl]
      exact bas_get ps j x hx) hgs (by rw [bas_len]; omega) (by rw [bas_len]; exact hnc) (by rw [bas_map, ← ht, size_list]; omega)
    rw [bas_len, bas_map] at c
    refine c.mono ?_
    rintro e w' ⟨rfl, hb⟩
    refine ⟨ret_str ?_, hb⟩
    apply ByteArray.ext; apply Array.ext'
    rw [ht]
end Go.Proofs.YteifheoomodplaaDoor

/-
  What Get of package field computes; lists and texts are no longer than Go allows, and the values, with what stands between them, fit in 2^47 bytes.
-/
namespace Go.Proofs.YteifheoomodplaaDoor
open Go.RowKit

theorem ret_sb {a b : ByteArray} {c d : Bool} (h : a = b) (h' : c = d) : Ending.returned (.tuple #[.string a, .bool c]) = .returned (.tuple #[.string b, .bool d]) := by rw [h, h']

set_option maxHeartbeats 2000000 in
set_option maxRecDepth 100000 in
theorem get_at (v : Value) (ls : List Fld) (s t : ByteArray) (b : Bool) (ht : t.data.toList = jn (vals ls s.data.toList)) (hb : b = !(vals ls s.data.toList).isEmpty) (w : World) (hf : Fl w v ls) (hl : Wide ls) (hs : s.size ≤ 140737488351232) (hj : t.size ≤ 140737488355328) :
    Calls Tryd.prog 16 #[v, .string s] w fun e w' => e = .returned (.tuple #[.string t, .bool b]) ∧ Below w.heap.size w w' := by
  obtain ⟨i0, hi, hz0, hz1, hz2⟩ := info_parts info9
  have HF : Hid (Fl w v ls) := hf
  have HL : Hid (Wide ls) := hl
  have HT : Hid (t.data.toList = jn (vals ls s.data.toList)) := ht
  have HB : Hid (b = !(vals ls s.data.toList).isEmpty) := hb
  clear hf hl ht hb
  go_enter Tryd.func16, Tryd.ntmps16
  go_wp2_with fail
  refine (named_any s _ hs).mono ?_
  rintro e w1 ⟨f, rfl, hp1, hb1⟩
  have HP1 : Hid (Pred w1 f (fun x => lower x.1 == lower s.data.toList)) := hp1
  clear hp1
  go_wp2_with fail
  refine (pick_any _ _ ls _ _ (HF.out.below hb1) HL.out HP1.out).mono ?_
  rintro e w2 ⟨v2, rfl, hown2, hb2⟩
  obtain ⟨P, hP⟩ : ∃ P, P = ls.filter (nm s.data.toList) := ⟨_, rfl⟩
  have HP : Hid (vals ls s.data.toList = P.map (·.2)) := by show _ = _; rw [hP]; rfl
  have hPl : P.length * 32 ≤ 140737488353000 := by rw [hP]; exact (HL.out.filter (nm s.data.toList)).2
  have hF2 : Fl w2 v2 P := by rw [hP]; exact Fl.own hown2
  have hw2 := hb1.trans (hb2.mono hb1.size)
  obtain ⟨ad, cap, hv, hcap, hcm, hc⟩ := hF2
  subst hv
  have HC : Hid (0 < P.length → ∃ g off, ad = some ⟨g, off, none⟩ ∧ g < w2.heap.size ∧
    ∀ (k : Nat) (h : k < P.length), w2.cell? ⟨g, off + k * 2, none⟩ = some (.string ⟨(P[k]).1.toArray⟩) ∧ w2.cell? ⟨g, off + k * 2 + 1, none⟩ = some (.string ⟨(P[k]).2.toArray⟩)) := hc
  clear hc hown2 hb2 hb1 HP1 hP
  unfold maxLen at hcm
  have hsz2 := hw2.size
  go_wp2_with fail
  go_loopw [6, 14] (fun o i wr => ∃ k : Nat, k ≤ P.length ∧ i = .int .i64 k ∧ wr.ownsRow w2.heap.size 9 1 o ((P.take k).map (·.2)).length (strs ((P.take k).map (·.2))) ∧ Below w2.heap.size w2 wr) (fun _ i _ => P.length - (intOf i).toNat)
  case atStart => exact ⟨0, Nat.zero_le _, rfl, by simpa [strs] using World.ownsRow_nil w2 w2.heap.size 9 1, Below.refl _ _⟩
  case round =>
    obtain ⟨k, hk, rfl, hown, hw⟩ := hrel
    have hsz := hw.size
    have hml : ((P.take k).map (·.2)).length = k := by rw [List.length_map, List.length_take]; omega
    by_cases hlt : k < P.length
    · obtain ⟨g, off, rfl, hgs, hce⟩ := HC.out (by omega)
      obtain ⟨c1, c2⟩ := hce k hlt
      obtain ⟨n, hn⟩ : ∃ n : ByteArray, n = ⟨(P[k]).1.toArray⟩ := ⟨_, rfl⟩
      obtain ⟨u, hu⟩ : ∃ u : ByteArray, u = ⟨(P[k]).2.toArray⟩ := ⟨_, rfl⟩
      have HE : Hid ((P.take (k + 1)).map (·.2) = (P.take k).map (·.2) ++ [u.data.toList]) := by
        show _ = _
        rw [List.take_succ_eq_append_getElem hlt, List.map_append, hu]; rfl
      have d1 : wr.cell? ⟨g, off + k * 2, none⟩ = some (.string n) := by rw [hw.cell (p := ⟨g, off + k * 2, none⟩) hgs, hn]; exact c1
      have d2 : wr.cell? ⟨g, off + k * 2 + 1, none⟩ = some (.string u) := by rw [hw.cell (p := ⟨g, off + k * 2 + 1, none⟩) hgs, hu]; exact c2
      have hgr : g < wr.heap.size := by omega
      clear hce c1 c2 hn hu
      have hki : (k : Int) < (P.length : Int) := by omega
      have hk0 : (0 : Int) ≤ (k : Int) := by omega
      have hown0 := hown.alloc (.cells #[.string n, .string u] 39)
      have hw0 := hw.alloc hsz (.cells #[.string n, .string u] 39)
      have HML : Hid (((P.take k).map (·.2)).length = k) := hml
      clear hown hml
      go_wp2_with (at_builtin; refine wpList_append_own _ rfl _ _ 23 rfl w2.heap.size 9 i0 (.string ⟨#[]⟩) 1 16 Tryd.underlying23 hi hz0 hz1 hz2 rfl (by decide) _ _ _ rfl (hown0.alloc _) ⟨wr.heap.size + 1, 0, none⟩ 1 1 [.string u] rfl rfl ?c1 ?c2 ?c3 ?c4 ?c5 ?_)
      case c2 => rfl
      case c3 => unfold maxLen; omega
      case c4 => omega
      case c5 => omega
      · intro v' w4 hown' hgrow _
        have hB : Below w2.heap.size w2 w4 := (hw0.alloc (by simp; omega) _).grown hgrow (by simp; omega) (fun b hb => ((hown0.alloc (.cells #[.string u] 9)).lt b hb).1)
        have hown4 : w4.ownsRow w2.heap.size 9 1 v' ((P.take (k + 1)).map (·.2)).length (strs ((P.take (k + 1)).map (·.2))) := by
          rw [HE.out, ← strs_snoc, List.length_append, HML.out, List.map_take]; exact hown'
        clear hown' hgrow hown0 hw0
        go_wp2_with fail
        go_roundw
        case rel => exact ⟨k + 1, by omega, by go_num, hown4, hB⟩
        case measure => simp [intOf]; omega
    · obtain rfl : k = P.length := by omega
      rw [List.take_length] at hown
      have HJ : Hid (t.data.toList = Lib.join (P.map (·.2)) (⟨#[44, 32]⟩ : ByteArray).data.toList) := by show _ = _; rw [← HP.out]; exact HT.out
      obtain ⟨ad', cap', hv', hcm', hnc', hcx⟩ := own_slice hown
      have hml2 : (P.map (·.2)).length = P.length := List.length_map _
      have HBB : Hid (decide (0 < P.length) = b) := by
        show _ = _
        rw [HB.out, HP.out]
        cases P <;> simp
      have HO : Hid (wr.ownsRow w2.heap.size 9 1 (.slice ad' (P.map (·.2)).length cap') (P.map (·.2)).length (strs (P.map (·.2)))) := by show World.ownsRow _ _ _ _ _ _ _; rw [← hv']; exact hown
      subst hv'
      clear hcx hown
      rw [hml2] at HO hnc' ⊢
      go_wp2_with fail
      refine (join_at _ (P.map (·.2)) w2.heap.size _ t HJ.out _ (by rw [hml2]; exact HO.out) (by rw [hml2]; omega) hj).mono ?_
      rintro e w5 ⟨rfl, hb5⟩
      have hw5 := hw2.trans ((hw.trans (hb5.mono hsz)).mono hsz2)
      go_wp2_with fail
      go_ret2
      exact ⟨ret_sb rfl HBB.out, hw5⟩
end Go.Proofs.YteifheoomodplaaDoor

/-
  What IsToken and inToken compute, each a contract over the program's text; no condition but that a string is no longer than Go allows.
-/
namespace Go.Proofs.YteifheoomodplaaDoor
open Go.RowKit

def signs : List UInt8 := [33, 35, 36, 37, 38, 39, 42, 43, 45, 46, 94, 95, 96, 124, 126]

theorem isTok_a (c : UInt8) (h : 97 ≤ (c.toNat : Int) ∧ (c.toNat : Int) ≤ 122) : isTok c = true := by
  unfold isTok; simp [UInt8.le_iff_toNat_le]; omega
theorem isTok_b (c : UInt8) (h : 65 ≤ (c.toNat : Int) ∧ (c.toNat : Int) ≤ 90) : isTok c = true := by
  unfold isTok; simp [UInt8.le_iff_toNat_le]; omega
theorem isTok_c (c : UInt8) (h : 48 ≤ (c.toNat : Int) ∧ (c.toNat : Int) ≤ 57) : isTok c = true := by
  unfold isTok; simp [UInt8.le_iff_toNat_le]; omega
theorem isTok_d (c : UInt8) (ha : ¬ (97 ≤ (c.toNat : Int) ∧ (c.toNat : Int) ≤ 122)) (hb : ¬ (65 ≤ (c.toNat : Int) ∧ (c.toNat : Int) ≤ 90)) (hc : ¬ (48 ≤ (c.toNat : Int) ∧ (c.toNat : Int) ≤ 57)) :
    isTok c = decide (0 ≤ Lib.indexByte [33, 35, 36, 37, 38, 39, 42, 43, 45, 46, 94, 95, 96, 124, 126] c) := by
  rw [← Lib.contains_iff_indexByte]
  have a : (97 ≤ c && c ≤ 122) = false := by rw [Bool.eq_false_iff]; simp [UInt8.le_iff_toNat_le]; omega
  have b : (65 ≤ c && c ≤ 90) = false := by rw [Bool.eq_false_iff]; simp [UInt8.le_iff_toNat_le]; omega
  have d : (48 ≤ c && c ≤ 57) = false := by rw [Bool.eq_false_iff]; simp [UInt8.le_iff_toNat_le]; omega
  unfold isTok
  rw [a, b, d]; rfl

set_option maxHeartbeats 400000 in
set_option maxRecDepth 100000 in
theorem inToken_any (c : UInt8) (w : World) :
    Calls Tryd.prog 29 #[.int .u8 (c.toNat : Int)] w fun e w' => e = .returned (.bool (isTok c)) ∧ w' = w := by
  have hlt : (c.toNat : Int) < 256 := by have := c.toNat_lt; omega
  have hge : 0 ≤ (c.toNat : Int) := by omega
  rcases (show (c.toNat : Int) < 48 ∨ (48 ≤ (c.toNat : Int) ∧ (c.toNat : Int) ≤ 57) ∨ (58 ≤ (c.toNat : Int) ∧ (c.toNat : Int) ≤ 64) ∨ (65 ≤ (c.toNat : Int) ∧ (c.toNat : Int) ≤ 90) ∨ (91 ≤ (c.toNat : Int) ∧ (c.toNat : Int) ≤ 96) ∨ (97 ≤ (c.toNat : Int) ∧ (c.toNat : Int) ≤ 122) ∨ 123 ≤ (c.toNat : Int) from by omega) with h | ⟨h, h'⟩ | ⟨h, h'⟩ | ⟨h, h'⟩ | ⟨h, h'⟩ | ⟨h, h'⟩ | h
  all_goals first
    | rw [isTok_a c (by omega)]
    | rw [isTok_b c (by omega)]
    | rw [isTok_c c (by omega)]
    | rw [isTok_d c (by omega) (by omega) (by omega)]
  all_goals
    go_enter Tryd.func29, Tryd.ntmps29
    go_wp2_with (go_at_call 49; refine (Tryd.strings_IndexByte _ _ _).mono ?_; rintro e w' ⟨rfl, rfl⟩)
    go_ret
    exact ⟨rfl, rfl⟩

set_option maxHeartbeats 400000 in
set_option maxRecDepth 100000 in
theorem isToken_any (s : ByteArray) (w : World) (hs : s.size ≤ maxLen) :
    Calls Tryd.prog 12 #[.string s] w fun e w' => e = .returned (.bool (token s.data.toList)) ∧ w' = w := by
  unfold maxLen at hs
  go_enter Tryd.func12, Tryd.ntmps12
  go_wp2_with fail
  go_loop [6] (fun i => ∃ k : Nat, k ≤ s.size ∧ i = .int .i64 k ∧ (s.data.toList.take k).all isTok = true) (fun i => s.size - (intOf i).toNat)
  case atStart => exact ⟨0, Nat.zero_le _, rfl, rfl⟩
  case round =>
    obtain ⟨k, hk, rfl, hall⟩ := hrel
    have HA : Hid ((s.data.toList.take k).all isTok = true) := hall
    clear hall
    by_cases hlt : k < s.size
    · cases ht : isTok s[k]
      · have HT : Hid (isTok s[k] = false) := ht
        clear ht
        go_wp2_with fail
        refine (inToken_any _ _).mono ?_
        rintro e w' ⟨rfl, rfl⟩
        rw [HT.out]
        go_wp2_with fail
        go_ret
        refine ⟨ret_bool ?_, rfl⟩
        rw [token, all_false s isTok k hlt HT.out, Bool.and_false]
      · have HT : Hid (isTok s[k] = true) := ht
        clear ht
        go_wp2_with fail
        refine (inToken_any _ _).mono ?_
        rintro e w' ⟨rfl, rfl⟩
        rw [HT.out]
        go_wp2_with fail
        go_round
        case rel => exact ⟨k + 1, by omega, by go_num, by rw [take_snoc s k hlt, List.all_append, HA.out]; simp [HT.out]⟩
        case measure => simp [intOf]; omega
    · obtain rfl : k = s.size := by omega
      go_wp2_with fail
      go_ret
      refine ⟨ret_bool ?_, rfl⟩
      have h := HA.out
      rw [take_all] at h
      rw [token, h, ByteArray.toList_eq, Bool.and_true]
end Go.Proofs.YteifheoomodplaaDoor
