/-
  The Go function ControlFirst of package larderkeep answers true: of several directives of one name the first one counts; seconds are never below 0, nor above 2^31, where what comes in holds at most 2^20 letters and values.
-/
import Derived.Test.YtoccjnbodoiibaaWControlFirst
import Derived.Test.YtoccjnbodoiibaaOpenD
import Derived.Test.YtoccjnbodoiibaaRows
import Derived.ProofKit
import Derived.OpenShut
import Derived.ShutString
import Derived.ChangeOld
import Derived.Below
import Derived.SizedLaws
import Derived.Deep.DeepHandedRow
import Derived.JoinedCond
namespace Go.Proofs.Ytoccjnbodoiibaa.controlFirst
open Go.ChangeShapes Go.WideShapes Go.ChangeAt Go.RowKit
open Go.ChangeMaps (open_string shut_string)
set_option linter.unusedVariables false

theorem own : ownKnob Try.prog.godebug = none := by kernel_rfl
theorem laidOut : laidOutB Try.prog = true := by kernel_rfl

theorem bulk_dl {H : Type} (ls : List (List UInt8 × Bool × List UInt8)) (sp : List (DataW H)) : bulkD ls ≤ Rows.uptoBulk (DataW.slice (ls.map dr1) sp) := by
  have e : ∀ ls : List (List UInt8 × Bool × List UInt8), bulkD ls ≤ Rows.uptoBulkAll (ls.map (dr1 (H := H))) := by
    intro ls
    induction ls with
    | nil => simp [bulkD]
    | cons a ls ih => simp only [List.map_cons, Rows.uptoBulkAll, dr1, Rows.uptoBulk, bulkD, List.sum_cons] at ih ⊢; omega
  have := e ls
  simp only [Rows.uptoBulk]; omega

set_option maxRecDepth 100000 in
theorem lifted (os : Os) (started : os.Started) (H : Type) (enc : TypeId × Value → H) (F : Stop.Interp) :
    ReturnsInHanded {} Try.checked os 4 .any ((Rows.OpenSpec.upto Rows.controlFirstSpec).pre6 enc Try.prog Try.f4 Rows.controlFirstUptoRow.domain false) (((Rows.OpenSpec.upto Rows.controlFirstSpec).at F).post enc Try.prog Try.f4 false true false false) := by
  refine returnsInHanded_of_cond (C := Try.checked) (s := (Rows.OpenSpec.upto Rows.controlFirstSpec)) (k := Rows.uptoSmall) rfl own started (by kernel_rfl) Try.func4
    (OpenSpec.witness (enc := enc) (C := Try.checked) (s := (Rows.OpenSpec.upto Rows.controlFirstSpec)) (k := Rows.uptoSmall) rfl false ⟨#[], #[.slice none 0 0, .slice none 0 0, .string ByteArray.empty], []⟩ 8 (by kernel_rfl) (by kernel_rfl) (by kernel_rfl)
      (x := ([.nil, .nil, .lit (.string [])], [], [])) (by kernel_rfl) rfl (by kernel_rfl)) ?_
  intro W base args ds gs before hval0 hW _ hk _
  have hval : ∀ (j : Nat) t v, Try.f4.params[j]? = some t → args[j]? = some v → Value.okWide Try.prog W .any base t v := hval0
  have hW' := hW
  obtain ⟨p, q, hA0, hV, rfl, hfz, hnd⟩ := hW
  have hA : DataW.TrodAll enc Try.prog W 0 (fun _ => true) true Try.f4.params.toList args.toList ds p := hA0
  rw [Try.params4] at hA hval
  obtain ⟨v0, vs0, d0, ds0, p0, q0, hargs, rfl, rfl, h0, r0⟩ := trodAll_cons hA
  obtain ⟨v1, vs1, d1, ds1, p1, q1, rfl, rfl, rfl, h1, r1⟩ := trodAll_cons r0
  obtain ⟨v2, vs2, d2, ds2, p2, q2, rfl, rfl, rfl, h2, r2⟩ := trodAll_cons r1
  obtain ⟨rfl, rfl, rfl⟩ := trodAll_nil r2
  obtain rfl : args = #[v0, v1, v2] := by cases args; simp_all
  obtain ⟨rfl, rfl⟩ := trodVars_none hV
  obtain ⟨a0, n0, c0, rfl⟩ := okWide_slice Try.underlying22 (hval 0 22 v0 rfl rfl)
  have k0 := h0
  have lt0 : ∀ x ∈ p0, x.block < W.heap.size := by obtain ⟨m, hm⟩ := k0; exact DataW.trod_lt m _ _ _ hm
  obtain ⟨l0, sp0, z0, m0, x0⟩ : ∃ (ls : List (List UInt8 × Bool × List UInt8)) (sp : List (DataW H)), Dl W (.slice a0 n0 c0) ls ∧ MostD maxLen ls ∧ (d0 = .nil ∧ ls = [] ∨ d0 = .slice (ls.map dr1) sp) := by
    obtain ⟨fuel, hf⟩ := h0
    exact open_dl Try.underlying22 Try.underlying28 (by kernel_rfl) (by kernel_rfl) Try.underlying9 Try.underlying4 Try.underlying9 hf
  have q0 : Nilly (.slice a0 n0 c0) := by obtain ⟨fuel, hf⟩ := k0; exact nilly_dl Try.underlying22 hf
  obtain ⟨a1, n1, c1, rfl⟩ := okWide_slice Try.underlying22 (hval 1 22 v1 rfl rfl)
  have k1 := h1
  have lt1 : ∀ x ∈ p1, x.block < W.heap.size := by obtain ⟨m, hm⟩ := k1; exact DataW.trod_lt m _ _ _ hm
  obtain ⟨l1, sp1, z1, m1, x1⟩ : ∃ (ls : List (List UInt8 × Bool × List UInt8)) (sp : List (DataW H)), Dl W (.slice a1 n1 c1) ls ∧ MostD maxLen ls ∧ (d1 = .nil ∧ ls = [] ∨ d1 = .slice (ls.map dr1) sp) := by
    obtain ⟨fuel, hf⟩ := h1
    exact open_dl Try.underlying22 Try.underlying28 (by kernel_rfl) (by kernel_rfl) Try.underlying9 Try.underlying4 Try.underlying9 hf
  have q1 : Nilly (.slice a1 n1 c1) := by obtain ⟨fuel, hf⟩ := k1; exact nilly_dl Try.underlying22 hf
  obtain ⟨a2, rfl, rfl, rfl, w2⟩ := open_string Try.underlying9 (hval 2 9 v2 rfl rfl) h2
  clear hA0 hval0
  have hbk : bulkD l0 + bulkD l1 + (a2.size + 1) ≤ 1048576 := by
    have h := of_decide_eq_true hk
    have y0 : bulkD l0 ≤ Rows.uptoBulk d0 := by
      rcases x0 with ⟨rfl, rfl⟩ | rfl
      · simp [bulkD]
      · exact bulk_dl l0 sp0
    have y1 : bulkD l1 ≤ Rows.uptoBulk d1 := by
      rcases x1 with ⟨rfl, rfl⟩ | rfl
      · simp [bulkD]
      · exact bulk_dl l1 sp1
    have y2 := size_list a2
    simp only [List.append_nil, Rows.uptoBulkAll, Rows.uptoBulk] at h
    omega
  have b0 : bulkD l0 ≤ 1048576 := by omega
  have b1 : bulkD l1 ≤ 1048576 := by omega
  have z2 : a2.size ≤ 1048576 := by omega
  refine (walkControlFirst (.slice a0 n0 c0) l0 (.slice a1 n1 c1) l1 a2 W z0 b0 q0 z1 b1 q1 z2).mono fun e W' ⟨he, bel⟩ => ?_
  subst he
  exact ⟨_, rfl, _, _, _, [], _, [], hW', trodAll_mk1 (shut_bool Try.underlying4 _), (trodAll_cons_mk (Below.trod laidOut (by kernel_rfl) (of_decide_eq_true (by kernel_rfl)) k0 bel lt0) (trodAll_cons_mk (Below.trod laidOut (by kernel_rfl) (of_decide_eq_true (by kernel_rfl)) k1 bel lt1) (trodAll_cons_mk (shut_string Try.underlying9 w2) trodAll_mk0))), rfl, bel.frame _, fun h => by cases h⟩

theorem over : Rows.ControlFirstUptoSaid :=
  OpenClaim.holds_of_cond 4 Try.f4 rfl rfl rfl rfl rfl rfl rfl ⟨rfl, rfl, rfl, rfl, rfl⟩ rfl rfl rfl rfl rfl (by kernel_rfl) Try.func4 (by kernel_rfl)
    (of_decide_eq_true (by kernel_rfl)) (by unfold Func.isWrapper; first | (rw [if_pos (by decide +kernel)]; kernel_rfl) | (rw [if_neg (by decide +kernel)]; exact ⟨rfl, rfl⟩))
    (fun os started H enc _ F => lifted os started H enc F)
end Go.Proofs.Ytoccjnbodoiibaa.controlFirst
namespace Go.Proofs.Ytoccjnbodoiibaa
theorem controlFirstUpto_holds : Rows.ControlFirstUptoSaid := controlFirst.over
end Go.Proofs.Ytoccjnbodoiibaa
