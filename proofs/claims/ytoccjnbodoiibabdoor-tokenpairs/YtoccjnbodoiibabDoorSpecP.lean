/-
  Plain functions on lists of bytes: how a parameter is read; no program is named here.
-/
import Derived.Test.YtoccjnbodoiibabDoorWUnq
import Derived.Test.YtoccjnbodoiibabDoorSpecT
import Derived.Lib.IndexMore
import Derived.Lib.IndexBytes
namespace Go.Proofs.YtoccjnbodoiibabDoor
open Go.RowKit

abbrev Par := List UInt8 × List UInt8
def rv (l : List UInt8) : Option (List UInt8) := if token l = true then some l else if (unq l).2 = 0 then some (unq l).1 else none
def rp (l : List UInt8) : Option Par :=
  if (Lib.cut l [61]).2.2 = true ∧ token (Lib.cut l [61]).1 = true then (rv (Lib.cut l [61]).2.1).map (fun v => (lower (Lib.cut l [61]).1, v)) else none
def rpstep (acc : Option (List Par)) (p : List UInt8) : Option (List Par) :=
  match acc with
  | none => none
  | some ps => if p.isEmpty = true then some ps else match rp p with | some x => some (ps ++ [x]) | none => none
def rps (P : List (List UInt8)) : Option (List Par) := P.foldl rpstep (some [])
def pars (ps : List Par) : List Value := ps.flatMap fun x => [Value.string ⟨x.1.toArray⟩, Value.string ⟨x.2.toArray⟩]

theorem rps_snoc (P : List (List UInt8)) (p : List UInt8) : rps (P ++ [p]) = rpstep (rps P) p := by simp [rps]
theorem rpstep_none (P : List (List UInt8)) : P.foldl rpstep none = none := by
  induction P with
  | nil => rfl
  | cons a P ih => rw [List.foldl_cons]; exact ih
theorem rps_dead (P : List (List UInt8)) (k : Nat) (h : k < P.length) (x : Option (List Par)) (hx : rps (P.take k) = x) (hd : rpstep x P[k] = none) : rps P = none := by
  have e : P = P.take k ++ P[k] :: P.drop (k + 1) := by rw [← List.drop_eq_getElem_cons h, List.take_append_drop]
  rw [e]
  unfold rps at hx ⊢
  rw [List.foldl_append, hx, List.foldl_cons, hd, rpstep_none]
theorem rpstep_skip (ps : List Par) (p : List UInt8) (h : p.isEmpty = true) : rpstep (some ps) p = some ps := by simp [rpstep, h]
theorem rpstep_bad (ps : List Par) (p : List UInt8) (h : p.isEmpty = false) (hr : rp p = none) : rpstep (some ps) p = none := by simp [rpstep, h, hr]
theorem rpstep_ok (ps : List Par) (p : List UInt8) (x : Par) (h : p.isEmpty = false) (hr : rp p = some x) : rpstep (some ps) p = some (ps ++ [x]) := by simp [rpstep, h, hr]
theorem rps_len (P : List (List UInt8)) : ∀ ps, rps P = some ps → ps.length ≤ P.length := by
  have gen : ∀ (P : List (List UInt8)) (a : List Par) ps, P.foldl rpstep (some a) = some ps → ps.length ≤ a.length + P.length := by
    intro P
    induction P with
    | nil => intro a ps h; simp at h; subst h; simp
    | cons p P ih =>
      intro a ps h
      rw [List.foldl_cons] at h
      cases hu : rpstep (some a) p with
      | none => rw [hu, rpstep_none] at h; cases h
      | some b =>
        rw [hu] at h
        have h1 := ih b ps h
        have h2 : b.length ≤ a.length + 1 := by
          unfold rpstep at hu
          simp only at hu
          split at hu
          · simp at hu; subst hu; omega
          · split at hu
            · simp at hu; subst hu; simp
            · cases hu
        rw [List.length_cons]
        omega
  intro ps h
  have := gen P [] ps h
  simpa using this
theorem pars_snoc (ps : List Par) (x : Par) : pars ps ++ [Value.string ⟨x.1.toArray⟩, Value.string ⟨x.2.toArray⟩] = pars (ps ++ [x]) := by simp [pars]
theorem pars_length (ps : List Par) : (pars ps).length = ps.length * 2 := by
  induction ps with
  | nil => rfl
  | cons x ps ih =>
    have e : pars (x :: ps) = [Value.string ⟨x.1.toArray⟩, Value.string ⟨x.2.toArray⟩] ++ pars ps := by simp [pars]
    rw [e, List.length_append, ih, List.length_cons]; simp; omega
theorem pars_get (ps : List Par) : ∀ (k : Nat) (h : k < ps.length), (pars ps)[k * 2]? = some (.string ⟨(ps[k]).1.toArray⟩) ∧ (pars ps)[k * 2 + 1]? = some (.string ⟨(ps[k]).2.toArray⟩) := by
  induction ps with
  | nil => intro k h; simp at h
  | cons x ps ih =>
    intro k h
    have e : pars (x :: ps) = Value.string ⟨x.1.toArray⟩ :: Value.string ⟨x.2.toArray⟩ :: pars ps := by simp [pars]
    rw [e]
    cases k with
    | zero => exact ⟨rfl, rfl⟩
    | succ k =>
      have := ih k (by simpa using h)
      rw [show (k + 1) * 2 = k * 2 + 1 + 1 from by omega, show k * 2 + 1 + 1 + 1 = (k * 2 + 1) + 1 + 1 from by omega, List.getElem?_cons_succ, List.getElem?_cons_succ, List.getElem?_cons_succ, List.getElem?_cons_succ]
      exact this

theorem unq_empty (l acc : List UInt8) (n : Int) (h : unq l = (acc, n)) (hn : n ≠ 0) : acc = [] := by
  unfold unq at h
  split at h
  · split at h
    · split at h
      · simp only [Prod.mk.injEq] at h; exact h.1.symm
      · simp only [Prod.mk.injEq] at h; exact absurd h.2.symm hn
    · simp only [Prod.mk.injEq] at h; exact h.1.symm
  · simp only [Prod.mk.injEq] at h; exact h.1.symm
theorem rv_token (l : List UInt8) (h : token l = true) : rv l = some l := by unfold rv; rw [if_pos h]
theorem rv_ok (l : List UInt8) (h : token l = false) (hu : (unq l).2 = 0) : rv l = some (unq l).1 := by unfold rv; rw [h]; simp [hu]
theorem rv_bad (l : List UInt8) (h : token l = false) (hu : (unq l).2 ≠ 0) : rv l = none := by unfold rv; rw [h]; simp [hu]

theorem cut_one_no (l : List UInt8) (h : Lib.indexByte l 61 = -1) : Lib.cut l [61] = (l, [], false) := by
  unfold Lib.cut; rw [Lib.index_one, h]; rfl
theorem cut_one_yes (l : List UInt8) (k : Nat) (h : Lib.indexByte l 61 = k) : Lib.cut l [61] = (l.take k, l.drop (k + 1), true) := by
  unfold Lib.cut; rw [Lib.index_one, h, if_pos (by omega)]; simp
theorem index_lt (l : List UInt8) (k : Nat) (h : Lib.indexByte l 61 = k) : k < l.length := by
  have h1 := (Lib.indexByte_some h).1
  rcases Nat.lt_or_ge k l.length with h2 | h2
  · exact h2
  · rw [List.getElem?_eq_none h2] at h1; cases h1
theorem index_two (l : List UInt8) : Lib.indexByte l 61 = -1 ∨ ∃ k : Nat, Lib.indexByte l 61 = k := by
  have h := Lib.indexByte_ge l 61
  by_cases h1 : Lib.indexByte l 61 = -1
  · exact .inl h1
  · exact .inr ⟨(Lib.indexByte l 61).toNat, by omega⟩
end Go.Proofs.YtoccjnbodoiibabDoor
