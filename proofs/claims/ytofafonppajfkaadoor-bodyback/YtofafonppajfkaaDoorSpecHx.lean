/-
  Numbers in base 16, in plain lists; no program is named here.
-/
import Derived.Test.YtofafonppajfkaaDoorSpecTxt
import Derived.Lib.Strings
namespace Go.Proofs.YtofafonppajfkaaDoor
open Go.RowKit

/-- A digit of base 16. -/
def hx (d : Nat) : UInt8 := if d < 10 then UInt8.ofNat (48 + d) else UInt8.ofNat (87 + d)
def hexd (u : Nat) : List UInt8 := if _h : u < 16 then [hx u] else hexd (u / 16) ++ [hx (u % 16)]
termination_by u
decreasing_by omega
theorem hexd_one (u : Nat) (h : u < 16) : hexd u = [hx u] := by rw [hexd, dif_pos h]
theorem hexd_step (u : Nat) (h : ¬ u < 16) : hexd u = hexd (u / 16) ++ [hx (u % 16)] := by rw [hexd, dif_neg h]
theorem hexd_pos (u : Nat) : 1 ≤ (hexd u).length := by rw [hexd]; split <;> simp
theorem hexd_len (u : Nat) (h : u < 65536) : (hexd u).length ≤ 4 := by
  rw [hexd]; split
  · simp
  · rw [hexd]; split
    · simp
    · rw [hexd]; split
      · simp
      · rw [hexd, dif_pos (by omega)]; simp
end Go.Proofs.YtofafonppajfkaaDoor
