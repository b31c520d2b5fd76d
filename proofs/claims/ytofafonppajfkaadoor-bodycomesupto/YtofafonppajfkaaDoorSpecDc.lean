/-
  What may come next in a body in chunks, byte by byte, in plain lists; no program is named here.
-/
import Derived.Test.YtofafonppajfkaaDoorSpecPa
namespace Go.Proofs.YtofafonppajfkaaDoor
open Go.RowKit

/-- What may come next: a number's digits (how many came, what they say), what is behind them, the end of that line, a chunk's bytes, 13 and 10 behind them, the last chunk's fields. -/
inductive St where
  | num (d n : Nat)
  | ext (k n : Nat)
  | endn (n : Nat)
  | byt (l : Nat)
  | crlf
  | lf
  | fld (k : Nat)
structure Ds where
  st : St
  body : List UInt8
  fields : List UInt8
  done : Bool
/-- A digit of base 16, in small letters or great ones. -/
def hv (c : UInt8) : Option Nat :=
  if 48 ≤ c.toNat ∧ c.toNat ≤ 57 then some (c.toNat - 48) else if 97 ≤ c.toNat ∧ c.toNat ≤ 102 then some (c.toNat - 87) else if 65 ≤ c.toNat ∧ c.toNat ≤ 70 then some (c.toNat - 55) else none
def ended (f : List UInt8) : Bool := decide (Lib.hasSuffix f [13, 10] = true)
/-- One byte: the error (0: none), and what stands then. -/
def stepD (x : Ds) (c : UInt8) : Int × Ds :=
  match x.st with
  | .num d n =>
    match hv c with
    | some v => if d < 4 then (0, { x with st := .num (d + 1) (n * 16 + v) }) else (3, x)
    | none => if 0 < d ∧ c = 59 then (0, { x with st := .ext 0 n }) else if 0 < d ∧ c = 13 then (0, { x with st := .endn n }) else (3, x)
  | .ext k n => if c = 13 then (0, { x with st := .endn n }) else if k < 50 ∧ plainB c = true then (0, { x with st := .ext (k + 1) n }) else (3, x)
  | .endn n => if c ≠ 10 then (3, x) else if 5000 < x.body.length + n then (2, x) else if n = 0 then (0, { x with st := .fld 0 }) else (0, { x with st := .byt n })
  | .byt l => (0, { x with body := x.body ++ [c], st := if 1 < l then .byt (l - 1) else .crlf })
  | .crlf => if c = 13 then (0, { x with st := .lf }) else (3, x)
  | .lf => if c = 10 then (0, { x with st := .num 0 0 }) else (3, x)
  | .fld k =>
    if ended (x.fields ++ [c]) = false ∧ k < 1100 then (0, { x with fields := x.fields ++ [c], st := .fld (k + 1) })
    else if (parS (x.fields ++ [c]) []).2.2 = 0 then (0, { x with fields := [], done := true })
    else if (parS (x.fields ++ [c]) []).2.2 ≠ 8 then ((parS (x.fields ++ [c]) []).2.2, x)
    else (0, { x with fields := x.fields ++ [c], st := if ended (x.fields ++ [c]) = true then .fld 0 else .fld (k + 1) })
def start : Ds := ⟨.num 0 0, [], [], false⟩
/-- What comes, byte by byte: the error, how many bytes were taken, what stands then. -/
def runD : Ds → List UInt8 → Nat → Int × Nat × Ds
  | x, [], k => (0, k, x)
  | x, c :: r, k => if (stepD x c).1 ≠ 0 then ((stepD x c).1, 0, x) else if (stepD x c).2.done = true then (0, k + 1, (stepD x c).2) else runD (stepD x c).2 r (k + 1)
theorem hv_lt (c : UInt8) (v : Nat) (h : hv c = some v) : v < 16 := by
  unfold hv at h
  split at h
  · have := Option.some.inj h; omega
  · split at h
    · have := Option.some.inj h; omega
    · split at h
      · have := Option.some.inj h; omega
      · cases h
end Go.Proofs.YtofafonppajfkaaDoor
