/-
  Plain lemmas on fields that are set, dropped and read; no program is named here.
-/
import Derived.Test.YtflkgpjapgkgmabSpecG
namespace Go.Proofs.Ytflkgpjapgkgmab
open Go.RowKit

theorem low_low (c : UInt8) : low (low c) = low c := by
  have := byAll (fun c => low (low c) == low c) (by decide +kernel) c
  simpa using this
theorem lower_lower (l : List UInt8) : lower (lower l) = lower l := by
  unfold lower
  rw [List.map_map]
  apply List.map_congr_left
  intro c _
  exact low_low c
theorem nm_low (s s' : List UInt8) (h : lower s' = lower s) (x : Fld) : nm s' x = nm s x := by unfold nm; rw [h]
theorem vals_low (ls : List Fld) (s s' : List UInt8) (h : lower s' = lower s) : vals ls s' = vals ls s := by
  unfold vals
  have : nm s' = nm s := funext (nm_low s s' h)
  rw [this]
theorem vals_rest (ls : List Fld) (s : List UInt8) : vals (rest1 s ls) s = [] := by
  unfold vals rest1
  rw [List.filter_filter]
  have : (ls.filter fun a => nm s a && !nm s a) = [] := by
    rw [List.filter_eq_nil_iff]
    intro x _
    cases nm s x <;> simp
  rw [this]; rfl
theorem rest_comm (ls : List Fld) (a b : List UInt8) : rest1 b (rest1 a ls) = rest1 a (rest1 b ls) := by
  unfold rest1
  rw [List.filter_filter, List.filter_filter]
  congr 1
  funext x
  exact Bool.and_comm _ _
theorem rest_twice (ls : List Fld) (a : List UInt8) : rest1 a (rest1 a ls) = rest1 a ls := by
  unfold rest1
  rw [List.filter_filter]
  congr 1
  funext x
  exact Bool.and_self _
theorem rest_len (ls : List Fld) (a : List UInt8) : (rest1 a ls).length ≤ ls.length := List.length_filter_le _ _
theorem nm_self (s v : List UInt8) : nm s (s, v) = true := by simp [nm]
theorem vals_cons (x : Fld) (r : List Fld) (s : List UInt8) : vals (x :: r) s = if nm s x then x.2 :: vals r s else vals r s := by
  unfold vals
  rw [List.filter_cons]
  split <;> rfl
theorem vals_rest' (ls : List Fld) (s o : List UInt8) (h : lower o ≠ lower s) : vals (rest1 s ls) o = vals ls o := by
  unfold vals rest1
  rw [List.filter_filter]
  congr 2
  funext x
  unfold nm
  cases h1 : (lower x.1 == lower o)
  · rfl
  · have e1 : lower x.1 = lower o := by simpa using h1
    have : (lower x.1 == lower s) = false := by rw [e1]; simpa using h
    rw [this]; rfl
theorem vals_set (s v : List UInt8) (ls : List Fld) : vals (setS s v ls) s = [v] := by
  induction ls with
  | nil =>
    show vals [(s, v)] s = [v]
    rw [vals_cons, nm_self]; rfl
  | cons x r ih =>
    unfold setS
    split
    · rw [vals_cons, nm_self, vals_rest]; rfl
    · rename_i h
      rw [vals_cons, if_neg h, ih]
theorem vals_set_other (s v o : List UInt8) (ls : List Fld) (h : lower o ≠ lower s) : vals (setS s v ls) o = vals ls o := by
  have hn : nm o (s, v) = false := by
    unfold nm
    show (lower s == lower o) = false
    rw [beq_eq_false_iff_ne]
    exact fun e => h e.symm
  induction ls with
  | nil =>
    show vals [(s, v)] o = []
    rw [vals_cons, hn]; rfl
  | cons x r ih =>
    unfold setS
    split
    · rename_i hx
      have e1 : lower x.1 = lower s := by simpa [nm] using hx
      have hxo : nm o x = false := by
        unfold nm
        rw [e1, beq_eq_false_iff_ne]
        exact fun e => h e.symm
      rw [vals_cons, hn, vals_cons, hxo, vals_rest' r s o h]; simp
    · rw [vals_cons, vals_cons, ih]
theorem set_twice (s a b : List UInt8) (ls : List Fld) : setS s b (setS s a ls) = setS s b ls := by
  induction ls with
  | nil =>
    exact setS_hit s b (s, a) [] (nm_self s a)
  | cons x r ih =>
    cases hx : nm s x
    · rw [setS, if_neg (by rw [hx]; simp), setS, if_neg (by rw [hx]; simp), ih, setS, if_neg (by rw [hx]; simp)]
    · rw [setS_hit s a x r hx, setS_hit s b x r hx, setS_hit s b (s, a) _ (nm_self s a), rest_twice]
theorem jn_one (x : List UInt8) : jn [x] = x := by unfold jn; exact Lib.join_one _ _
end Go.Proofs.Ytflkgpjapgkgmab
