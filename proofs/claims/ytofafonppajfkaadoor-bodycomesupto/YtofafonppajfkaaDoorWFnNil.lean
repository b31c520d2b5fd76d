/-
  Function values held against nil; no condition.
-/
import Derived.Test.YtofafonppajfkaaDoorShelf
import Derived.Test.YtofafonppajfkaaDoorRows
namespace Go.Proofs.YtofafonppajfkaaDoor
open Go.RowKit

theorem eqIn_fn {P : Program} (w : World) (d : Nat) (t : TypeId) (ps rs : Array TypeId) (v : Bool) (fn : Fn) (fi ca : Array Value) (h : P.underlying t = some (.func ps rs v)) : (Op.equalIn (d + 1) t (.func fn fi ca) .nilFunc).run P w = .ok false w := by
  simp [Op.equalIn, run_underlying h]
theorem eqIn_nil {P : Program} (w : World) (d : Nat) (t : TypeId) (ps rs : Array TypeId) (v : Bool) (h : P.underlying t = some (.func ps rs v)) : (Op.equalIn (d + 1) t .nilFunc .nilFunc).run P w = .ok true w := by
  simp [Op.equalIn, run_underlying h]
theorem fn_nil {t : TypeId} {ps rs : Array TypeId} {v : Bool} {P : Program} (h : P.underlying t = some (.func ps rs v)) (fn : Fn) (fi ca : Array Value) (w : World) : (binOp .eql t (.func fn fi ca) .nilFunc).run P w = .ok (.bool false) w := by
  have e : (Op.equal t (.func fn fi ca) .nilFunc).run P w = .ok false w := eqIn_fn w 9999 t ps rs v fn fi ca h
  simp only [binOp]
  simp [e]
theorem nil_nil {t : TypeId} {ps rs : Array TypeId} {v : Bool} {P : Program} (h : P.underlying t = some (.func ps rs v)) (w : World) : (binOp .eql t .nilFunc .nilFunc).run P w = .ok (.bool true) w := by
  have e : (Op.equal t .nilFunc .nilFunc).run P w = .ok true w := eqIn_nil w 9999 t ps rs v h
  simp only [binOp]
  simp [e]
theorem step_fn (fn : Fn) (fi ca : Array Value) (w : World) : (binOp .eql 63 (.func fn fi ca) .nilFunc).run Tryd.prog w = .ok (.bool false) w := by
  obtain ⟨ps, rs, v, h⟩ : ∃ ps rs v, Tryd.prog.underlying 63 = some (.func ps rs v) := ⟨_, _, _, Tryd.underlying63⟩
  exact fn_nil h fn fi ca w
theorem step_nil (w : World) : (binOp .eql 63 .nilFunc .nilFunc).run Tryd.prog w = .ok (.bool true) w := by
  obtain ⟨ps, rs, v, h⟩ : ∃ ps rs v, Tryd.prog.underlying 63 = some (.func ps rs v) := ⟨_, _, _, Tryd.underlying63⟩
  exact nil_nil h w
end Go.Proofs.YtofafonppajfkaaDoor
