/-
  Lists of entity tags in plain lists; no program is named here.
-/
import Derived.Test.YtfeikdplfjikeaaDoorSpecEt
import Derived.Test.YtfeikdplfjikeaaDoorSpecT
namespace Go.Proofs.YtfeikdplfjikeaaDoor
open Go.RowKit

def tstep (acc : Option (List Tg)) (p : List UInt8) : Option (List Tg) :=
  match acc with
  | none => none
  | some ts => if p.isEmpty = true then some ts else if (paE p).2 = 0 then some (ts ++ [(paE p).1]) else none
def tagsE (P : List (List UInt8)) : Option (List Tg) := P.foldl tstep (some [])
def liE (s : List UInt8) : (List Tg × Bool) × Int :=
  if 1000 < s.length then (([], false), 2) else if s = [42] then (([], true), 0) else match tagsE ((qps s).map trimL) with
    | none => (([], false), 3)
    | some ts => if ts.isEmpty = true then (([], false), 3) else if 20 < ts.length then (([], false), 2) else ((ts, false), 0)
def tgs (ts : List Tg) : List Value := ts.flatMap fun t => [Value.bool t.1, Value.string ⟨t.2.toArray⟩]
theorem tgs_snoc (ts : List Tg) (t : Tg) : tgs ts ++ [Value.bool t.1, Value.string ⟨t.2.toArray⟩] = tgs (ts ++ [t]) := by simp [tgs]
theorem tgs_length (ts : List Tg) : (tgs ts).length = ts.length * 2 := by
  induction ts with
  | nil => rfl
  | cons t ts ih =>
    have : tgs (t :: ts) = [Value.bool t.1, Value.string ⟨t.2.toArray⟩] ++ tgs ts := by simp [tgs]
    rw [this, List.length_append, ih, List.length_cons]; simp; omega
theorem tgs_get (ts : List Tg) : ∀ (k : Nat) (h : k < ts.length), (tgs ts)[k * 2]? = some (.bool (ts[k]).1) ∧ (tgs ts)[k * 2 + 1]? = some (.string ⟨(ts[k]).2.toArray⟩) := by
  induction ts with
  | nil => intro k h; simp at h
  | cons t ts ih =>
    intro k h
    have he : tgs (t :: ts) = Value.bool t.1 :: Value.string ⟨t.2.toArray⟩ :: tgs ts := by simp [tgs]
    cases k with
    | zero => rw [he]; exact ⟨rfl, rfl⟩
    | succ k =>
      have := ih k (by simpa using h)
      rw [he, show (k + 1) * 2 = k * 2 + 2 by omega]
      simpa using this
theorem tstep_dead (P : List (List UInt8)) : P.foldl tstep none = none := by
  induction P with
  | nil => rfl
  | cons a P ih => rw [List.foldl_cons]; exact ih
theorem tags_snoc (P : List (List UInt8)) (p : List UInt8) : tagsE (P ++ [p]) = tstep (tagsE P) p := by simp [tagsE]
theorem tags_take (P : List (List UInt8)) (k : Nat) (h : k < P.length) : tagsE (P.take (k + 1)) = tstep (tagsE (P.take k)) P[k] := by
  rw [List.take_succ_eq_append_getElem h, tags_snoc]
theorem tags_dead (P : List (List UInt8)) (k : Nat) (h : k < P.length) (hd : tstep (tagsE (P.take k)) P[k] = none) : tagsE P = none := by
  have e : P = P.take k ++ P[k] :: P.drop (k + 1) := by rw [← List.drop_eq_getElem_cons h, List.take_append_drop]
  rw [e]
  unfold tagsE at hd ⊢
  rw [List.foldl_append, List.foldl_cons, hd, tstep_dead]
theorem tags_len (P : List (List UInt8)) : ∀ ts, tagsE P = some ts → ts.length ≤ P.length := by
  have gen : ∀ (P : List (List UInt8)) (a : List Tg) ts, P.foldl tstep (some a) = some ts → ts.length ≤ a.length + P.length := by
    intro P
    induction P with
    | nil => intro a ts h; simp at h; subst h; simp
    | cons p P ih =>
      intro a ts h
      rw [List.foldl_cons] at h
      cases hu : tstep (some a) p with
      | none => rw [hu, tstep_dead] at h; cases h
      | some b =>
        rw [hu] at h
        have h1 := ih b ts h
        have h2 : b.length ≤ a.length + 1 := by
          unfold tstep at hu
          simp only at hu
          split at hu
          · simp at hu; subst hu; omega
          · split at hu
            · simp at hu; subst hu; simp
            · cases hu
        rw [List.length_cons]
        omega
  intro ts h
  have := gen P [] ts h
  simpa using this
end Go.Proofs.YtfeikdplfjikeaaDoor
