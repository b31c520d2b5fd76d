/-
  The Go function BodyOne of package larderkeep answers true for every request or response, method, code, number and list of fields that are together of bulk at most 1048576: there is one way to know a body's end, and who tells two is refused. The listed package variables start as their text lays them, which the card ties; no other condition but those that the row itself prints.
-/
import Derived.Test.YtofafonppajfkabDoorWBodyOne
import Derived.Test.YtofafonppajfkabDoorOpenF
import Derived.Test.YtofafonppajfkabDoorCards
import Derived.Test.YtofafonppajfkabDoorTie
import Derived.Lay
import Derived.SevenTiedAt
import Derived.Test.YtofafonppajfkabDoorRows
import Derived.ProofKit
import Derived.OpenShut
import Derived.ShutString
import Derived.ChangeOld
import Derived.Below
import Derived.SizedLaws
import Derived.Deep.DeepHandedRow
import Derived.JoinedCond
namespace Go.Proofs.YtofafonppajfkabDoor.bodyOne
open Go.ChangeShapes Go.WideShapes Go.ChangeAt Go.RowKit
open Go.ChangeMaps (open_string shut_string)
set_option linter.unusedVariables false

theorem own : ownKnob Tryd.prog.godebug = none := by kernel_rfl
theorem laidOut : laidOutB Tryd.prog = true := by kernel_rfl

theorem bulk_fl {H : Type} (ls : List Fld) (sp : List (DataW H)) : bulkF ls ≤ Rows.uptoBulk (DataW.slice (ls.map fl1) sp) := by
  have e : ∀ ls : List Fld, bulkF ls ≤ Rows.uptoBulkAll (ls.map (fl1 (H := H))) := by
    intro ls
    induction ls with
    | nil => simp [bulkF]
    | cons a ls ih => simp only [List.map_cons, Rows.uptoBulkAll, fl1, Rows.uptoBulk, bulkF, List.sum_cons] at ih ⊢; omega
  have := e ls
  simp only [Rows.uptoBulk]; omega

set_option maxRecDepth 100000 in
theorem witness (os : Os) (H : Type) (enc : TypeId × Value → H) :
    ∃ (w : World) (tape : Tape) (i : Input), w.os = os ∧ (w.forCall tape i).Shaped Tryd.checked.prog ∧ i.vars = [] ∧ Input.okWide Tryd.checked.prog (w.forCall tape i) .any w.heap.size 4 i ∧
      (Rows.OpenSpec.upto Rows.bodyOneSpec).preRow enc Tryd.checked.prog Tryd.f4 Rows.bodyOneUptoRow.domain false Rows.bodyOneUptoRow.laid (w.forCall tape i).memory i.args ∧ ({} : Assume).holds Tryd.checked.prog (lone (Frame.enter Tryd.checked.prog 4 i.args .normal) [] (w.forCall tape i)) := by
  have hx : ∃ places, DataW.whole enc Tryd.prog ((World.laidAll Tryd.prog os Rows.bodyOneUptoRow.laid).forCall (fun _ _ => 0) ⟨#[], #[.bool false, .string ByteArray.empty, .int .i64 0, .int .i64 0, .slice none 0 0], []⟩).memory Tryd.f4.params.toList Rows.bodyOneSpec.vars false (#[.bool false, .string ByteArray.empty, .int .i64 0, .int .i64 0, .slice none 0 0] : Array Value).toList 8 = some ([.lit (.bool false), .lit (.string []), .lit (.int .i64 0), .lit (.int .i64 0), .nil], [], places) := ⟨[], by kernel_rfl⟩
  obtain ⟨places, hx⟩ := hx
  have hok : Input.okWideB Tryd.prog ((World.laidAll Tryd.prog os Rows.bodyOneUptoRow.laid).forCall (fun _ _ => 0) ⟨#[], #[.bool false, .string ByteArray.empty, .int .i64 0, .int .i64 0, .slice none 0 0], []⟩) 4 ⟨#[], #[.bool false, .string ByteArray.empty, .int .i64 0, .int .i64 0, .slice none 0 0], []⟩ = true := by kernel_rfl
  exact ⟨World.laidAll Tryd.prog os Rows.bodyOneUptoRow.laid, fun _ _ => 0, ⟨#[], #[.bool false, .string ByteArray.empty, .int .i64 0, .int .i64 0, .slice none 0 0], []⟩, World.laidAll_os _ _ _, World.shaped_of_ZipB (by kernel_rfl) (by kernel_rfl), (Input.okWide_of_okWideB (base := 0) hok).1, (Input.okWide_of_okWideB hok).2,
    OpenSpec.preRow_of_cond 8 hx (by kernel_rfl) (fun k hk => by cases hk; kernel_rfl) (by kernel_rfl) (laidMet_laidAll _ (by kernel_rfl) (by kernel_rfl)),
    by simp only [Assume.holds]; exact ⟨by simp, by simp, fun _ => Modest.zero, by simp, by simp⟩⟩

set_option maxRecDepth 100000 in
theorem lifted (os : Os) (started : os.Started) (H : Type) (enc : TypeId × Value → H) (F : Stop.Interp) :
    ReturnsInHanded {} Tryd.checked os 4 .any ((Rows.OpenSpec.upto Rows.bodyOneSpec).preRow enc Tryd.prog Tryd.f4 Rows.bodyOneUptoRow.domain false Rows.bodyOneUptoRow.laid) (((Rows.OpenSpec.upto Rows.bodyOneSpec).at F).post enc Tryd.prog Tryd.f4 false true false false) := by
  refine returnsInHanded_of_row (C := Tryd.checked) (s := (Rows.OpenSpec.upto Rows.bodyOneSpec)) own started (by kernel_rfl) Tryd.func4 (witness os H enc) ?_
  intro W base args ds gs before hval0 hW _ hcond hsz0 hL hsh _
  have hk := hcond _ rfl
  have hval : ∀ (j : Nat) t v, Tryd.f4.params[j]? = some t → args[j]? = some v → Value.okWide Tryd.prog W .any base t v := hval0
  have hW' := hW
  obtain ⟨p, q, hA0, hV, rfl, hfz, hnd⟩ := hW
  have hA : DataW.TrodAll enc Tryd.prog W 0 (fun _ => true) true Tryd.f4.params.toList args.toList ds p := hA0
  rw [Tryd.params4] at hA hval
  obtain ⟨v0, vs0, d0, ds0, p0, q0, hargs, rfl, rfl, h0, r0⟩ := trodAll_cons hA
  obtain ⟨v1, vs1, d1, ds1, p1, q1, rfl, rfl, rfl, h1, r1⟩ := trodAll_cons r0
  obtain ⟨v2, vs2, d2, ds2, p2, q2, rfl, rfl, rfl, h2, r2⟩ := trodAll_cons r1
  obtain ⟨v3, vs3, d3, ds3, p3, q3, rfl, rfl, rfl, h3, r3⟩ := trodAll_cons r2
  obtain ⟨v4, vs4, d4, ds4, p4, q4, rfl, rfl, rfl, h4, r4⟩ := trodAll_cons r3
  obtain ⟨rfl, rfl, rfl⟩ := trodAll_nil r4
  obtain rfl : args = #[v0, v1, v2, v3, v4] := by cases args; simp_all
  obtain ⟨rfl, rfl⟩ := trodVars_none hV
  obtain ⟨a0, rfl, rfl, rfl⟩ := open_bool Tryd.underlying4 (hval 0 4 v0 rfl rfl) h0
  obtain ⟨a1, rfl, rfl, rfl, w1⟩ := open_string Tryd.underlying9 (hval 1 9 v1 rfl rfl) h1
  obtain ⟨a2, rfl, rfl, rfl, w2⟩ := open_int Tryd.underlying3 (hval 2 3 v2 rfl rfl) h2
  obtain ⟨a3, rfl, rfl, rfl, w3⟩ := open_int Tryd.underlying3 (hval 3 3 v3 rfl rfl) h3
  obtain ⟨a4, n4, c4, rfl⟩ := okWide_slice Tryd.underlying34 (hval 4 34 v4 rfl rfl)
  have k4 := h4
  have lt4 : ∀ x ∈ p4, x.block < W.heap.size := by obtain ⟨m, hm⟩ := k4; exact DataW.trod_lt m _ _ _ hm
  obtain ⟨l4, sp4, z4, m4, x4⟩ : ∃ (ls : List Fld) (sp : List (DataW H)), Fl W (.slice a4 n4 c4) ls ∧ Most maxLen ls ∧ (d4 = .nil ∧ ls = [] ∨ d4 = .slice (ls.map fl1) sp) := by
    obtain ⟨fuel, hf⟩ := h4
    exact open_fl Tryd.underlying34 Tryd.underlying36 (by kernel_rfl) rfl rfl (by kernel_rfl) (by kernel_rfl) Tryd.underlying9 Tryd.underlying9 hf
  have q4 : Nilly (.slice a4 n4 c4) := by obtain ⟨fuel, hf⟩ := k4; exact nilly_fl Tryd.underlying34 hf
  clear hA0 hval0
  have hbk : 1 + (a1.size + 1) + 1 + 1 + bulkF l4 ≤ 1048576 := by
    have h := of_decide_eq_true hk
    have y1 := size_list a1
    have y4 : bulkF l4 ≤ Rows.uptoBulk d4 := by
      rcases x4 with ⟨rfl, rfl⟩ | rfl
      · simp [bulkF]
      · exact bulk_fl l4 sp4
    simp only [List.append_nil, Rows.uptoBulkAll, Rows.uptoBulk] at h
    omega
  have z1 : a1.size ≤ 1048576 := by omega
  have z2 := w2
  have z3 := w3
  have b4 : bulkF l4 ≤ 1048576 := by omega
  have ht : STabs W := stabs_of W (l := Rows.bodyOneUptoRow.laid) (by have h := hL; rw [MakeChecks.laidMetH_plain _ _ _ (by kernel_rfl)] at h; exact h) (by simp [Rows.bodyOneUptoRow]) (by simp [Rows.bodyOneUptoRow]) (by simp [Rows.bodyOneUptoRow])
  refine (walkBodyOne a0 a1 a2 a3 (.slice a4 n4 c4) l4 W z1 z2 z3 z4 b4 q4 ht).mono fun e W' ⟨he, bel⟩ => ?_
  subst he
  exact ⟨_, rfl, _, _, _, [], _, [], hW', trodAll_mk1 (shut_bool Tryd.underlying4 _), (trodAll_cons_mk (shut_bool Tryd.underlying4 _) (trodAll_cons_mk (shut_string Tryd.underlying9 w1) (trodAll_cons_mk (shut_int Tryd.underlying3 w2) (trodAll_cons_mk (shut_int Tryd.underlying3 w3) (trodAll_cons_mk (Below.trod laidOut (by kernel_rfl) (of_decide_eq_true (by kernel_rfl)) k4 bel lt4) trodAll_mk0))))), rfl, bel.frame _, fun h => by cases h⟩

theorem said : Rows.BodyOneUptoSaid :=
  OpenClaim.holds_of_cond 4 Tryd.f4 rfl rfl rfl rfl rfl rfl rfl ⟨rfl, rfl, rfl, rfl, rfl⟩ rfl rfl rfl rfl rfl (by kernel_rfl) Tryd.func4 (by kernel_rfl)
    (of_decide_eq_true (by kernel_rfl)) (by unfold Func.isWrapper; first | (rw [if_pos (by decide +kernel)]; kernel_rfl) | (rw [if_neg (by decide +kernel)]; exact ⟨rfl, rfl⟩))
    (fun os started H enc _ F => by rw [OpenClaim.pre_eq_preRow]; exact lifted os started H enc F)

theorem plain (f : FuncId) (fn : Func) (hf : Tryd.pinned.checked.prog.funcNamed Tryd.f4.name = some f) (hfn : Tryd.pinned.checked.prog.funcs[f]? = some fn) :
    true = Tryd.pinned.checked.prog.looks [] ∧ ∀ (j : Nat) t, fn.params[j]? = some t → Tryd.pinned.checked.prog.wantsStandIn t = false := by
  obtain rfl : f = 4 := Option.some.inj ((show Tryd.prog.funcNamed Tryd.f4.name = some 4 by kernel_rfl).symm.trans hf) |>.symm
  obtain rfl : fn = Tryd.f4 := (Option.some.inj (Tryd.func4.symm.trans hfn)).symm
  refine ⟨by kernel_rfl, fun j t ht => ?_⟩
  rw [Tryd.params4] at ht
  have hm : t ∈ [4, 9, 3, 3, 34] := by simpa using Array.mem_of_getElem? ht
  have hall : ([4, 9, 3, 3, 34].all fun u => !Tryd.prog.wantsStandIn u) = true := by kernel_rfl
  exact (show Tryd.prog.wantsStandIn t = false by simpa using List.all_eq_true.1 hall t hm)

end Go.Proofs.YtofafonppajfkabDoor.bodyOne
namespace Go.Proofs.YtofafonppajfkabDoor
theorem bodyOneUpto_holds : Rows.BodyOneUptoCardSaid :=
  Claim7.holds_tied_plain_at .later [] _ _ _ _ bodyOne.said (fun _ h => by cases h) (by kernel_rfl) (fun _ h => by cases h) bodyOneUpto_row_tie rfl ⟨rfl, rfl⟩ (by kernel_rfl) rfl bodyOne.plain (by kernel_rfl)
end Go.Proofs.YtofafonppajfkabDoor
