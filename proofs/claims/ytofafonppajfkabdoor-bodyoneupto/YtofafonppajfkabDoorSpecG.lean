/-
  Plain functions on fields: those of a name, their values as one list, one set in the place of the first, all but those of a name; no program is named here.
-/
import Derived.Test.YtofafonppajfkabDoorSpecF
import Derived.Lib.Join
namespace Go.Proofs.YtofafonppajfkabDoor
open Go.RowKit

/-- Is a field of that name? -/
def nm (s : List UInt8) (x : Fld) : Bool := lower x.1 == lower s
def vals (ls : List Fld) (s : List UInt8) : List (List UInt8) := (ls.filter (nm s)).map (·.2)
def jn (P : List (List UInt8)) : List UInt8 := Lib.join P [44, 32]
def rest1 (s : List UInt8) (ls : List Fld) : List Fld := ls.filter fun x => !nm s x
def setS (s v : List UInt8) : List Fld → List Fld
  | [] => [(s, v)]
  | x :: r => if nm s x then (s, v) :: rest1 s r else x :: setS s v r

theorem tail_app (sep : List UInt8) (a b : List (List UInt8)) : Lib.joinTail sep (a ++ b) = Lib.joinTail sep a ++ Lib.joinTail sep b := by simp [Lib.joinTail]
theorem jn_app (a : List UInt8) (r b : List (List UInt8)) : jn (a :: r ++ b) = jn (a :: r) ++ Lib.joinTail [44, 32] b := by
  unfold jn
  rw [List.cons_append, Lib.join_cons, Lib.join_cons, tail_app, List.append_assoc]
theorem tail_one (sep x : List UInt8) : Lib.joinTail sep [x] = sep ++ x := by simp [Lib.joinTail]
theorem jn_snoc (P : List (List UInt8)) (x : List UInt8) : jn (P ++ [x]) = if P = [] then x else jn P ++ [44, 32] ++ x := by
  cases P with
  | nil => simp [jn, Lib.join_one]
  | cons a r =>
    rw [jn_app, tail_one]
    simp
theorem jn_both (P Q : List (List UInt8)) (hp : P ≠ []) (hq : Q ≠ []) : jn (P ++ Q) = jn P ++ [44, 32] ++ jn Q := by
  cases P with
  | nil => exact absurd rfl hp
  | cons a r =>
    cases Q with
    | nil => exact absurd rfl hq
    | cons b q =>
      rw [jn_app]
      unfold jn
      rw [Lib.join_cons b q]
      simp [Lib.joinTail]
theorem vals_app (a b : List Fld) (s : List UInt8) : vals (a ++ b) s = vals a s ++ vals b s := by simp [vals]
theorem vals_take (ls : List Fld) (s : List UInt8) (k : Nat) (h : k < ls.length) : vals (ls.take (k + 1)) s = vals (ls.take k) s ++ (if nm s ls[k] then [ls[k].2] else []) := by
  rw [List.take_succ_eq_append_getElem h, vals_app]
  congr 1
  unfold vals
  rw [List.filter_cons]
  split <;> rfl
theorem bulkF_app (a b : List Fld) : bulkF (a ++ b) = bulkF a + bulkF b := by simp [bulkF]
theorem bulkF_cons (x : Fld) (r : List Fld) : bulkF (x :: r) = x.1.length + x.2.length + 3 + bulkF r := by simp [bulkF]
theorem lens_vals (ls : List Fld) (s : List UInt8) : Lib.lens (vals ls s) + 2 * (vals ls s).length ≤ bulkF ls := by
  induction ls with
  | nil => simp [vals, Lib.lens]
  | cons x r ih =>
    have e : vals (x :: r) s = (if nm s x then [x.2] else []) ++ vals r s := by
      unfold vals
      rw [List.filter_cons]
      split <;> rfl
    rw [e, bulkF_cons]
    split
    · simp only [List.cons_append, List.nil_append, List.length_cons, Lib.lens, List.map_cons, List.sum_cons] at ih ⊢
      omega
    · simp only [List.nil_append]
      omega
theorem jn_len (P : List (List UInt8)) : (jn P).length ≤ Lib.lens P + 2 * P.length := by
  cases P with
  | nil => simp [jn, Lib.join_nil, Lib.lens]
  | cons a r =>
    unfold jn
    rw [Lib.join_length]
    simp only [List.length_cons, List.length_nil]
    omega
theorem jn_bulk (ls : List Fld) (s : List UInt8) : (jn (vals ls s)).length ≤ bulkF ls := Nat.le_trans (jn_len _) (lens_vals ls s)
theorem bulk_most (ls : List Fld) : ∀ x ∈ ls, x.1.length ≤ bulkF ls ∧ x.2.length ≤ bulkF ls := by
  induction ls with
  | nil => intro x hx; cases hx
  | cons a r ih =>
    intro x hx
    rw [bulkF_cons]
    rcases List.mem_cons.1 hx with rfl | hx
    · omega
    · have := ih x hx; omega
theorem bulk_len (ls : List Fld) : 3 * ls.length ≤ bulkF ls := by
  induction ls with
  | nil => simp [bulkF]
  | cons a r ih => rw [bulkF_cons, List.length_cons]; omega

theorem rest1_app (s : List UInt8) (a b : List Fld) : rest1 s (a ++ b) = rest1 s a ++ rest1 s b := by simp [rest1]
theorem rest1_none (s : List UInt8) (a : List Fld) (h : ∀ x ∈ a, nm s x = false) : rest1 s a = a := by
  unfold rest1
  rw [List.filter_eq_self]
  intro x hx
  rw [h x hx]; rfl
theorem setS_skip (s v : List UInt8) (a b : List Fld) (h : ∀ x ∈ a, nm s x = false) : setS s v (a ++ b) = a ++ setS s v b := by
  induction a with
  | nil => rfl
  | cons x a ih =>
    rw [List.cons_append, setS, if_neg (by rw [h x (List.mem_cons_self ..)]; simp), ih fun y hy => h y (List.mem_cons_of_mem _ hy)]
    rfl
theorem setS_hit (s v : List UInt8) (x : Fld) (r : List Fld) (h : nm s x = true) : setS s v (x :: r) = (s, v) :: rest1 s r := by rw [setS, if_pos h]
/-- What Set of package field puts together: what is ahead of the place, the new one, and what is behind. -/
theorem setS_parts (s v : List UInt8) (ls : List Fld) (k : Nat) (hk : k ≤ ls.length) (h : ∀ x ∈ ls.take k, nm s x = false) (hh : k < ls.length → ∃ x r, ls.drop k = x :: r ∧ nm s x = true) :
    setS s v ls = rest1 s (ls.take k) ++ [(s, v)] ++ rest1 s (ls.drop k) := by
  have e : setS s v ls = setS s v (ls.take k ++ ls.drop k) := by rw [List.take_append_drop]
  rw [e, setS_skip s v _ _ h, rest1_none s _ h]
  by_cases hlt : k < ls.length
  · obtain ⟨x, r, hd, hx⟩ := hh hlt
    have er : rest1 s (x :: r) = rest1 s r := by unfold rest1; rw [List.filter_cons, hx]; rfl
    rw [hd, setS_hit s v x r hx, er]
    simp
  · have : ls.drop k = [] := List.drop_eq_nil_of_le (by omega)
    rw [this]
    simp [setS, rest1]
theorem setS_len (s v : List UInt8) (ls : List Fld) : (setS s v ls).length ≤ ls.length + 1 := by
  induction ls with
  | nil => simp [setS]
  | cons x r ih =>
    unfold setS
    split
    · have := List.length_filter_le (fun x => !nm s x) r
      simp only [List.length_cons, rest1]; omega
    · simp only [List.length_cons]; omega
theorem setS_mem (s v : List UInt8) (ls : List Fld) : ∀ x ∈ setS s v ls, x = (s, v) ∨ x ∈ ls := by
  induction ls with
  | nil => intro x hx; simp [setS] at hx; exact .inl hx
  | cons y r ih =>
    intro x hx
    unfold setS at hx
    split at hx
    · rcases List.mem_cons.1 hx with hx | hx
      · exact .inl hx
      · exact .inr (List.mem_cons_of_mem _ (List.mem_filter.1 hx).1)
    · rcases List.mem_cons.1 hx with hx | hx
      · exact .inr (by rw [hx]; exact List.mem_cons_self ..)
      · rcases ih x hx with h | h
        · exact .inl h
        · exact .inr (List.mem_cons_of_mem _ h)
end Go.Proofs.YtofafonppajfkabDoor
