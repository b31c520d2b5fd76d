/-
  What strings.Join computes, of a row of texts of the call's own.
-/
import Derived.Test.YtfeikdplfjikeaaDoorSpecS
import Derived.Test.YtfeikdplfjikeaaDoorOwn
import Derived.Test.YtfeikdplfjikeaaDoorShelf
import Derived.Test.YtfeikdplfjikeaaDoorRows
namespace Go.Proofs.YtfeikdplfjikeaaDoor
open Go.RowKit

def bas (ps : List (List UInt8)) : List ByteArray := ps.map fun p => ⟨p.toArray⟩
theorem bas_len (ps : List (List UInt8)) : (bas ps).length = ps.length := by simp [bas]
theorem bas_map (ps : List (List UInt8)) : (bas ps).map (·.data.toList) = ps := by
  induction ps with
  | nil => rfl
  | cons p ps ih => simp [bas] at ih ⊢; exact ih
theorem bas_get (ps : List (List UInt8)) (j : Nat) (x : ByteArray) (h : (bas ps)[j]? = some x) : (strs ps)[j]? = some (.string x) := by
  unfold bas at h
  unfold strs
  rw [List.getElem?_map] at h ⊢
  cases hp : ps[j]? with
  | none => rw [hp] at h; cases h
  | some p => rw [hp] at h; simp at h ⊢; exact h

theorem join_at (v : Value) (ps : List (List UInt8)) (B : Nat) (sep t : ByteArray) (ht : t.data.toList = Lib.join ps sep.data.toList) (w : World) (hown : w.ownsRow B 9 1 v ps.length (strs ps)) (hl : ps.length ≤ 140737488355328) (hj : t.size ≤ 140737488355328) :
    Calls Tryd.prog 10 #[v, .string sep] w fun e w' => e = .returned (.string t) ∧ Below w.heap.size w w' := by
  obtain ⟨ad, cap, hv, hcm, hnc, hc⟩ := own_slice hown
  subst hv
  by_cases h0 : ps.length = 0
  · have hp := List.eq_nil_of_length_eq_zero h0
    subst hp
    refine (Tryd.strings_Join_none ad cap sep w).mono ?_
    rintro e w' ⟨rfl, rfl⟩
    refine ⟨ret_str ?_, Below.refl _ _⟩
    apply ByteArray.ext; apply Array.ext'
    rw [ht]; rfl
  · obtain ⟨g, rfl, hgB, hgs, hce⟩ := hc (by omega)
    have c := Tryd.strings_Join g 0 cap (bas ps) sep w (fun j x hx => by
      have hjl : j < ps.length := by
        rw [← bas_len]
        rcases Nat.lt_or_ge j (bas ps).length with h | h
        · exact h
        · rw [List.getElem?_eq_none h] at hx; cases hx
      rw [Nat.zero_add, hce j hjl]
      exact bas_get ps j x hx) hgs (by rw [bas_len]; omega) (by rw [bas_len]; exact hnc) (by rw [bas_map, ← ht, size_list]; omega)
    rw [bas_len, bas_map] at c
    refine c.mono ?_
    rintro e w' ⟨rfl, hb⟩
    refine ⟨ret_str ?_, hb⟩
    apply ByteArray.ext; apply Array.ext'
    rw [ht]
end Go.Proofs.YtfeikdplfjikeaaDoor
