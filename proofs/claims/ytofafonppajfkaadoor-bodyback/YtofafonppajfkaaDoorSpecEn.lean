/-
  A body in chunks, in plain lists; no program is named here.
-/
import Derived.Test.YtofafonppajfkaaDoorSpecHx
namespace Go.Proofs.YtofafonppajfkaaDoor
open Go.RowKit

def endC : List UInt8 := [48, 13, 10, 13, 10]
/-- l in chunks of n + 1 bytes, with the one that ends them. -/
def encS (n : Nat) (l : List UInt8) : List UInt8 :=
  if _h : l.length = 0 then endC
  else hexd (min (n + 1) l.length) ++ ([13, 10] ++ (l.take (min (n + 1) l.length) ++ ([13, 10] ++ encS n (l.drop (min (n + 1) l.length)))))
termination_by l.length
decreasing_by rw [List.length_drop]; omega
theorem encS_nil (n : Nat) (l : List UInt8) (h : l.length = 0) : encS n l = endC := by rw [encS, dif_pos h]
theorem encS_step (n : Nat) (l : List UInt8) (h : l.length ≠ 0) (m : Nat) (hm : m = min (n + 1) l.length) : encS n l = hexd m ++ ([13, 10] ++ (l.take m ++ ([13, 10] ++ encS n (l.drop m)))) := by
  subst hm
  rw [encS, dif_neg h]
theorem encS_len (n k : Nat) : ∀ l : List UInt8, l.length ≤ k → l.length ≤ 5000 → (encS n l).length ≤ 9 * l.length + 5 := by
  induction k with
  | zero => intro l h _; rw [encS_nil n l (by omega)]; show 5 ≤ _; omega
  | succ k ih =>
    intro l h h5
    by_cases h0 : l.length = 0
    · rw [encS_nil n l h0]; show 5 ≤ _; omega
    · rw [encS_step n l h0 _ rfl]
      have h1 := hexd_len (min (n + 1) l.length) (by omega)
      have h2 := ih (l.drop (min (n + 1) l.length)) (by rw [List.length_drop]; omega) (by rw [List.length_drop]; omega)
      rw [List.length_drop] at h2
      simp only [List.length_append, List.length_take, List.length_cons, List.length_nil]
      omega
def encE (l : List UInt8) (size : Int) : List UInt8 × Int := if size < 1 then ([], 1) else if 5000 < l.length then ([], 2) else (encS (size - 1).toNat l, 0)
end Go.Proofs.YtofafonppajfkaaDoor
