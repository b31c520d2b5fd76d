/-
  How the end of a body is known, in plain lists: the document's P13 over plain data; no program is named here.
-/
import Derived.Test.YtofafonppajfkabDoorSpecG
import Derived.Test.YtofafonppajfkabDoorSpecCn
import Derived.Test.YtofafonppajfkabDoorWSplit
import Derived.Lib.AtoiTie
import Derived.Lib.ItoaNum
namespace Go.Proofs.YtofafonppajfkabDoor
open Go.RowKit

def headM : List UInt8 := [72, 69, 65, 68]
def teN : List UInt8 := [84, 114, 97, 110, 115, 102, 101, 114, 45, 69, 110, 99, 111, 100, 105, 110, 103]
def clN : List UInt8 := [67, 111, 110, 116, 101, 110, 116, 45, 76, 101, 110, 103, 116, 104]
def chkN : List UInt8 := [99, 104, 117, 110, 107, 101, 100]
/-- A response that has no body, whatever its fields say. -/
def never (m : List UInt8) (c : Int) : Bool := m == headM || decide (c < 200) || decide (c = 204) || decide (c = 304)
/-- A number that is told in at most four digits, without noughts ahead. -/
def rdLn (l : List UInt8) : Int × Bool :=
  match Lib.atoiAll l with
  | .ok v => (v, decide (0 ≤ v) && decide (l.length ≤ 4) && decide (Lib.itoa v = l))
  | .«syntax» => (0, false)
  | .range => (Lib.atoiSat l, false)
def kdP : List (List UInt8) → Int × Int × Int
  | [] => (0, 0, 10)
  | p :: r => if r.all (· == p) then (if (rdLn p).2 then (if 5000 < (rdLn p).1 then (0, 0, 2) else (2, (rdLn p).1, 0)) else (0, 0, 10)) else (0, 0, 10)
def kdL (t : List UInt8) : Int × Int × Int := if (splitS t).2 = 0 then kdP (splitS t).1 else (0, 0, 10)
def kd (req : Bool) (m : List UInt8) (c : Int) (ls : List Fld) : Int × Int × Int :=
  if (!req && never m c) = true then (1, 0, 0)
  else if (!(vals ls teN).isEmpty) = true then (if (!(vals ls clN).isEmpty || (lower (jn (vals ls teN)) != chkN)) = true then (0, 0, 10) else (3, 0, 0))
  else if (!(vals ls clN).isEmpty) = true then kdL (jn (vals ls clN))
  else if req = true then (1, 0, 0) else (4, 0, 0)

theorem splitS_parts (t : List UInt8) : (splitS t).1.length ≤ 20 ∧ ∀ p ∈ (splitS t).1, p.length ≤ 1000 := by
  unfold splitS
  split
  · exact ⟨by simp, by simp⟩
  · rename_i h1
    split
    · exact ⟨by simp, by simp⟩
    · split
      · exact ⟨by simp, by simp⟩
      · rename_i h3
        refine ⟨by show (kept (pieces 44 t)).length ≤ 20; omega, fun p hp => ?_⟩
        have hp' : p ∈ kept (pieces 44 t) := hp
        unfold kept at hp'
        obtain ⟨hm, _⟩ := List.mem_filter.1 hp'
        obtain ⟨q, hq, rfl⟩ := List.mem_map.1 hm
        have h4 := trimL_len q
        have h5 := pieces_len 44 t q hq
        omega

theorem rdLn_bd (l : List UInt8) (h : (rdLn l).2 = true) : 0 ≤ (rdLn l).1 ∧ (rdLn l).1 ≤ 9999 ∧ Lib.itoa (rdLn l).1 = l ∧ l.length ≤ 4 := by
  unfold rdLn at h ⊢
  split at h
  · rename_i v hv
    simp only [Bool.and_eq_true, decide_eq_true_eq] at h
    obtain ⟨⟨h1, h2⟩, h3⟩ := h
    refine ⟨h1, ?_, h3, h2⟩
    have h4 : Lib.itoa v = Lib.decDigits v.toNat := by unfold Lib.itoa; rw [if_neg (by omega)]
    have h5 : Lib.nDigits v.toNat ≤ 4 := by rw [← Lib.decDigits_length, ← h4, h3]; exact h2
    show v ≤ 9999
    rcases Nat.lt_or_ge v.toNat 10000 with h6 | h6
    · omega
    · exfalso
      rw [Lib.nDigits, dif_neg (by omega), Lib.nDigits, dif_neg (by omega), Lib.nDigits, dif_neg (by omega), Lib.nDigits, dif_neg (by omega)] at h5
      have h7 : 1 ≤ Lib.nDigits (v.toNat / 10 / 10 / 10 / 10) := by rw [Lib.nDigits]; split <;> omega
      omega
  · cases h
  · cases h
theorem kdP_same (p : List UInt8) (r : List (List UInt8)) (h : r.all (· == p) = true) : kdP (p :: r) = if (rdLn p).2 then (if 5000 < (rdLn p).1 then (0, 0, 2) else (2, (rdLn p).1, 0)) else (0, 0, 10) := if_pos h
theorem kdP_diff (p : List UInt8) (r : List (List UInt8)) (h : r.all (· == p) = false) : kdP (p :: r) = (0, 0, 10) := if_neg (by rw [h]; simp)
end Go.Proofs.YtofafonppajfkabDoor
