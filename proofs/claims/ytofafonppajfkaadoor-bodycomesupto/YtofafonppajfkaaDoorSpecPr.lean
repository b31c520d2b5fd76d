/-
  Plain functions on fields: how they are printed; no program is named here.
-/
import Derived.Test.YtofafonppajfkaaDoorSpecF
namespace Go.Proofs.YtofafonppajfkaaDoor
open Go.RowKit

def ln (x : Fld) : List UInt8 := x.1 ++ [58, 32] ++ x.2 ++ [13, 10]
def prt (ls : List Fld) : List UInt8 := ls.flatMap ln
def prtS (ls : List Fld) : List UInt8 × Int := if chk ls = 0 then (prt ls ++ [13, 10], 0) else ([], chk ls)
theorem prt_snoc (ls : List Fld) (x : Fld) : prt (ls ++ [x]) = prt ls ++ ln x := by simp [prt]
theorem prt_cons (x : Fld) (ls : List Fld) : prt (x :: ls) = ln x ++ prt ls := by simp [prt]
theorem prt_take (ls : List Fld) (k : Nat) (h : k < ls.length) : prt (ls.take (k + 1)) = prt (ls.take k) ++ ln ls[k] := by
  rw [List.take_succ_eq_append_getElem h, prt_snoc]
theorem ln_len (x : Fld) : (ln x).length = x.1.length + x.2.length + 4 := by simp [ln]; omega
theorem prt_len (ls : List Fld) (h : ∀ x ∈ ls, x.1.length ≤ 30 ∧ x.2.length ≤ 1000) : (prt ls).length ≤ 1034 * ls.length := by
  induction ls with
  | nil => simp [prt]
  | cons a ls ih =>
    rw [prt_cons, List.length_append, ln_len, List.length_cons]
    have := h a (List.mem_cons_self ..)
    have := ih fun x hx => h x (List.mem_cons_of_mem _ hx)
    omega
theorem chk_short (ls : List Fld) (h : chk ls = 0) : ∀ x ∈ ls, x.1.length ≤ 30 ∧ x.2.length ≤ 1000 := by
  intro x hx
  have := chk1_is x (chkL_all ls (chk_zero ls h).2 x hx)
  exact ⟨this.2.1, this.2.2.1⟩
theorem prtS_bad (ls : List Fld) (h : chk ls ≠ 0) : prtS ls = ([], chk ls) := by unfold prtS; rw [if_neg h]
theorem prtS_ok (ls : List Fld) (h : chk ls = 0) : prtS ls = (prt ls ++ [13, 10], 0) := by unfold prtS; rw [if_pos h]
theorem prt_take_len (ls : List Fld) (h : chk ls = 0) (k : Nat) : (prt (ls.take k)).length ≤ 31020 := by
  have h1 := prt_len (ls.take k) (fun x hx => chk_short ls h x (List.mem_of_mem_take hx))
  have h2 := (chk_zero ls h).1
  have h3 := List.length_take_le' k ls
  omega
theorem ret_se {a b : ByteArray} {c d : Int} (h : a = b) (h' : c = d) : Ending.returned (.tuple #[.string a, .int .i64 c]) = .returned (.tuple #[.string b, .int .i64 d]) := by rw [h, h']
end Go.Proofs.YtofafonppajfkaaDoor
