/-
  The Go function VaryNames of package larderkeep answers true: names rise, none twice, all low; written in capitals, or twice, they are the same. The list of fields holds at most 1048576 values and letters, and the listed package variables start as their text lays them, which the claim's own second form says.
-/
import Derived.Test.YteifheoomodplaaDoorMe
import Derived.Test.YteifheoomodplaaDoorCards
import Derived.Test.YteifheoomodplaaDoorTie
import Derived.Lay
import Derived.SevenTiedAt
import Derived.Test.YteifheoomodplaaDoorRows
import Derived.ProofKit
import Derived.OpenShut
import Derived.ShutString
import Derived.ChangeOld
import Derived.Below
import Derived.SizedLaws
import Derived.Deep.DeepHandedRow
import Derived.JoinedCond
namespace Go.Proofs.YteifheoomodplaaDoor.varyNames
open Go.ChangeShapes Go.WideShapes Go.ChangeAt Go.RowKit
open Go.ChangeMaps (open_string shut_string)
set_option linter.unusedVariables false

theorem own : ownKnob Tryd.prog.godebug = none := by kernel_rfl
theorem laidOut : laidOutB Tryd.prog = true := by kernel_rfl

theorem bulk_fl {H : Type} (ls : List Fld) (sp : List (DataW H)) : bulkF ls ≤ Rows.uptoBulk (DataW.slice (ls.map fl1) sp) := by
  have e : ∀ ls : List Fld, bulkF ls ≤ Rows.uptoBulkAll (ls.map (fl1 (H := H))) := by
    intro ls
    induction ls with
    | nil => simp [bulkF]
    | cons a ls ih => simp only [List.map_cons, Rows.uptoBulkAll, fl1, Rows.uptoBulk, bulkF, List.sum_cons] at ih ⊢; omega
  have := e ls
  simp only [Rows.uptoBulk]; omega

set_option maxRecDepth 100000 in
theorem witness (os : Os) (H : Type) (enc : TypeId × Value → H) :
    ∃ (w : World) (tape : Tape) (i : Input), w.os = os ∧ (w.forCall tape i).Shaped Tryd.checked.prog ∧ i.vars = [] ∧ Input.okWide Tryd.checked.prog (w.forCall tape i) .any w.heap.size 6 i ∧
      (Rows.OpenSpec.upto Rows.varyNamesSpec).preRow enc Tryd.checked.prog Tryd.f6 Rows.varyNamesUptoRow.domain false Rows.varyNamesUptoRow.laid (w.forCall tape i).memory i.args ∧ ({} : Assume).holds Tryd.checked.prog (lone (Frame.enter Tryd.checked.prog 6 i.args .normal) [] (w.forCall tape i)) := by
  have hx : ∃ places, DataW.whole enc Tryd.prog ((World.laidAll Tryd.prog os Rows.varyNamesUptoRow.laid).forCall (fun _ _ => 0) ⟨#[], #[.slice none 0 0], []⟩).memory Tryd.f6.params.toList Rows.varyNamesSpec.vars false (#[.slice none 0 0] : Array Value).toList 8 = some ([.nil], [], places) := ⟨[], by kernel_rfl⟩
  obtain ⟨places, hx⟩ := hx
  have hok : Input.okWideB Tryd.prog ((World.laidAll Tryd.prog os Rows.varyNamesUptoRow.laid).forCall (fun _ _ => 0) ⟨#[], #[.slice none 0 0], []⟩) 6 ⟨#[], #[.slice none 0 0], []⟩ = true := by kernel_rfl
  exact ⟨World.laidAll Tryd.prog os Rows.varyNamesUptoRow.laid, fun _ _ => 0, ⟨#[], #[.slice none 0 0], []⟩, World.laidAll_os _ _ _, World.shaped_of_ZipB (by kernel_rfl) (by kernel_rfl), (Input.okWide_of_okWideB (base := 0) hok).1, (Input.okWide_of_okWideB hok).2,
    OpenSpec.preRow_of_cond 8 hx (by kernel_rfl) (fun k hk => by cases hk; kernel_rfl) (by kernel_rfl) (laidMet_laidAll _ (by kernel_rfl) (by kernel_rfl)),
    by simp only [Assume.holds]; exact ⟨by simp, by simp, fun _ => Modest.zero, by simp, by simp⟩⟩

set_option maxRecDepth 100000 in
theorem lifted (os : Os) (started : os.Started) (H : Type) (enc : TypeId × Value → H) (F : Stop.Interp) :
    ReturnsInHanded {} Tryd.checked os 6 .any ((Rows.OpenSpec.upto Rows.varyNamesSpec).preRow enc Tryd.prog Tryd.f6 Rows.varyNamesUptoRow.domain false Rows.varyNamesUptoRow.laid) (((Rows.OpenSpec.upto Rows.varyNamesSpec).at F).post enc Tryd.prog Tryd.f6 false true false false) := by
  refine returnsInHanded_of_row (C := Tryd.checked) (s := (Rows.OpenSpec.upto Rows.varyNamesSpec)) own started (by kernel_rfl) Tryd.func6 (witness os H enc) ?_
  intro W base args ds gs before hval0 hW _ hcond hsz0 hL hsh _
  have hk := hcond _ rfl
  have hval : ∀ (j : Nat) t v, Tryd.f6.params[j]? = some t → args[j]? = some v → Value.okWide Tryd.prog W .any base t v := hval0
  have hW' := hW
  obtain ⟨p, q, hA0, hV, rfl, hfz, hnd⟩ := hW
  have hA : DataW.TrodAll enc Tryd.prog W 0 (fun _ => true) true Tryd.f6.params.toList args.toList ds p := hA0
  rw [Tryd.params6] at hA hval
  obtain ⟨v0, vs0, d0, ds0, p0, q0, hargs, rfl, rfl, h0, r0⟩ := trodAll_cons hA
  obtain ⟨rfl, rfl, rfl⟩ := trodAll_nil r0
  obtain rfl : args = #[v0] := by cases args; simp_all
  obtain ⟨rfl, rfl⟩ := trodVars_none hV
  obtain ⟨a0, n0, c0, rfl⟩ := okWide_slice Tryd.underlying22 (hval 0 22 v0 rfl rfl)
  have k0 := h0
  have lt0 : ∀ x ∈ p0, x.block < W.heap.size := by obtain ⟨m, hm⟩ := k0; exact DataW.trod_lt m _ _ _ hm
  obtain ⟨l0, sp0, z0, m0, x0⟩ : ∃ (ls : List Fld) (sp : List (DataW H)), Fl W (.slice a0 n0 c0) ls ∧ Most maxLen ls ∧ (d0 = .nil ∧ ls = [] ∨ d0 = .slice (ls.map fl1) sp) := by
    obtain ⟨fuel, hf⟩ := h0
    exact open_fl Tryd.underlying22 Tryd.underlying39 (by kernel_rfl) rfl rfl (by kernel_rfl) (by kernel_rfl) Tryd.underlying9 Tryd.underlying9 hf
  clear hA0 hval0
  have hbk : bulkF l0 ≤ 1048576 := by
    have h := of_decide_eq_true hk
    have y0 : bulkF l0 ≤ Rows.uptoBulk d0 := by
      rcases x0 with ⟨rfl, rfl⟩ | rfl
      · simp [bulkF]
      · exact bulk_fl l0 sp0
    simp only [List.append_nil, Rows.uptoBulkAll] at h
    omega
  have b0 : bulkF l0 ≤ 1048576 := by omega
  refine (walkVaryNames (.slice a0 n0 c0) l0 W z0 b0).mono fun e W' ⟨he, bel⟩ => ?_
  subst he
  exact ⟨_, rfl, _, _, _, [], _, [], hW', trodAll_mk1 (shut_bool Tryd.underlying4 _), (trodAll_cons_mk (Below.trod laidOut (by kernel_rfl) (of_decide_eq_true (by kernel_rfl)) k0 bel lt0) trodAll_mk0), rfl, bel.frame _, fun h => by cases h⟩

theorem said : Rows.VaryNamesUptoSaid :=
  OpenClaim.holds_of_cond 6 Tryd.f6 rfl rfl rfl rfl rfl rfl rfl ⟨rfl, rfl, rfl, rfl, rfl⟩ rfl rfl rfl rfl rfl (by kernel_rfl) Tryd.func6 (by kernel_rfl)
    (of_decide_eq_true (by kernel_rfl)) (by unfold Func.isWrapper; first | (rw [if_pos (by decide +kernel)]; kernel_rfl) | (rw [if_neg (by decide +kernel)]; exact ⟨rfl, rfl⟩))
    (fun os started H enc _ F => by rw [OpenClaim.pre_eq_preRow]; exact lifted os started H enc F)

theorem plain (f : FuncId) (fn : Func) (hf : Tryd.pinned.checked.prog.funcNamed Tryd.f6.name = some f) (hfn : Tryd.pinned.checked.prog.funcs[f]? = some fn) :
    false = Tryd.pinned.checked.prog.looks [] ∧ ∀ (j : Nat) t, fn.params[j]? = some t → Tryd.pinned.checked.prog.wantsStandIn t = false := by
  obtain rfl : f = 6 := Option.some.inj ((show Tryd.prog.funcNamed Tryd.f6.name = some 6 by kernel_rfl).symm.trans hf) |>.symm
  obtain rfl : fn = Tryd.f6 := (Option.some.inj (Tryd.func6.symm.trans hfn)).symm
  refine ⟨by kernel_rfl, fun j t ht => ?_⟩
  rw [Tryd.params6] at ht
  have hm : t ∈ [22] := by simpa using Array.mem_of_getElem? ht
  have hall : ([22].all fun u => !Tryd.prog.wantsStandIn u) = true := by kernel_rfl
  exact (show Tryd.prog.wantsStandIn t = false by simpa using List.all_eq_true.1 hall t hm)

end Go.Proofs.YteifheoomodplaaDoor.varyNames
namespace Go.Proofs.YteifheoomodplaaDoor
theorem varyNamesUpto_holds : Rows.VaryNamesUptoCardSaid :=
  Claim7.holds_tied_plain_at .later [] _ _ _ _ varyNames.said (fun _ h => by cases h) (by kernel_rfl) (fun _ h => by cases h) varyNamesUpto_row_tie rfl ⟨rfl, rfl⟩ (by kernel_rfl) rfl varyNames.plain (by kernel_rfl)
end Go.Proofs.YteifheoomodplaaDoor
