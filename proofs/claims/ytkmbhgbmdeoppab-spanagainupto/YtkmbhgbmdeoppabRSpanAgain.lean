/-
  The Go function SpanAgain of package larderkeep answers true: what is merged stays; in which order slices come, and in how many lists, is of no matter; both lists together are no longer than the claim allows.
-/
import Derived.Test.YtkmbhgbmdeoppabWSpanAgain
import Derived.Test.YtkmbhgbmdeoppabOpenWn
import Derived.Test.YtkmbhgbmdeoppabRows
import Derived.ProofKit
import Derived.OpenShut
import Derived.ShutString
import Derived.ChangeOld
import Derived.Below
import Derived.SizedLaws
import Derived.Deep.DeepHandedRow
import Derived.JoinedCond
namespace Go.Proofs.Ytkmbhgbmdeoppab.spanAgain
open Go.ChangeShapes Go.WideShapes Go.ChangeAt Go.RowKit
open Go.ChangeMaps (open_string shut_string)
set_option linter.unusedVariables false

theorem own : ownKnob Try.prog.godebug = none := by kernel_rfl
theorem laidOut : laidOutB Try.prog = true := by kernel_rfl

theorem bulk_wl {H : Type} (ls : List Wn) (sp : List (DataW H)) : ls.length ≤ Rows.uptoBulk (DataW.slice (ls.map wn1) sp) := by
  have e : ∀ ls : List Wn, ls.length ≤ Rows.uptoBulkAll (ls.map (wn1 (H := H))) := by
    intro ls
    induction ls with
    | nil => simp
    | cons a ls ih => simp only [List.map_cons, Rows.uptoBulkAll, wn1, Rows.uptoBulk, List.length_cons] at ih ⊢; omega
  have := e ls
  simp only [Rows.uptoBulk]; omega

set_option maxRecDepth 100000 in
theorem lifted (os : Os) (started : os.Started) (H : Type) (enc : TypeId × Value → H) (F : Stop.Interp) :
    ReturnsInHanded {} Try.checked os 6 .any ((Rows.OpenSpec.upto Rows.spanAgainSpec).pre6 enc Try.prog Try.f6 Rows.spanAgainUptoRow.domain false) (((Rows.OpenSpec.upto Rows.spanAgainSpec).at F).post enc Try.prog Try.f6 false true false false) := by
  refine returnsInHanded_of_cond (C := Try.checked) (s := (Rows.OpenSpec.upto Rows.spanAgainSpec)) (k := Rows.uptoSmall) rfl own started (by kernel_rfl) Try.func6
    (OpenSpec.witness (enc := enc) (C := Try.checked) (s := (Rows.OpenSpec.upto Rows.spanAgainSpec)) (k := Rows.uptoSmall) rfl false ⟨#[], #[.slice none 0 0, .slice none 0 0], []⟩ 8 (by kernel_rfl) (by kernel_rfl) (by kernel_rfl)
      (x := ([.nil, .nil], [], [])) (by kernel_rfl) rfl (by kernel_rfl)) ?_
  intro W base args ds gs before hval0 hW _ hk _
  have hval : ∀ (j : Nat) t v, Try.f6.params[j]? = some t → args[j]? = some v → Value.okWide Try.prog W .any base t v := hval0
  have hW' := hW
  obtain ⟨p, q, hA0, hV, rfl, hfz, hnd⟩ := hW
  have hA : DataW.TrodAll enc Try.prog W 0 (fun _ => true) true Try.f6.params.toList args.toList ds p := hA0
  rw [Try.params6] at hA hval
  obtain ⟨v0, vs0, d0, ds0, p0, q0, hargs, rfl, rfl, h0, r0⟩ := trodAll_cons hA
  obtain ⟨v1, vs1, d1, ds1, p1, q1, rfl, rfl, rfl, h1, r1⟩ := trodAll_cons r0
  obtain ⟨rfl, rfl, rfl⟩ := trodAll_nil r1
  obtain rfl : args = #[v0, v1] := by cases args; simp_all
  obtain ⟨rfl, rfl⟩ := trodVars_none hV
  obtain ⟨a0, n0, c0, rfl⟩ := okWide_slice Try.underlying23 (hval 0 23 v0 rfl rfl)
  have k0 := h0
  have lt0 : ∀ x ∈ p0, x.block < W.heap.size := by obtain ⟨m, hm⟩ := k0; exact DataW.trod_lt m _ _ _ hm
  obtain ⟨l0, sp0, z0, m0, x0⟩ : ∃ (ls : List Wn) (sp : List (DataW H)), Wl W (.slice a0 n0 c0) ls ∧ WfW ls ∧ (d0 = .nil ∧ ls = [] ∨ d0 = .slice (ls.map wn1) sp) := by
    obtain ⟨fuel, hf⟩ := h0
    exact open_wl Try.underlying23 Try.underlying28 (by kernel_rfl) rfl rfl (by kernel_rfl) (by kernel_rfl) Try.underlying3 Try.underlying3 hf
  have q0 : Nilly (.slice a0 n0 c0) := by obtain ⟨fuel, hf⟩ := k0; exact nilly_wl Try.underlying23 hf
  obtain ⟨a1, n1, c1, rfl⟩ := okWide_slice Try.underlying23 (hval 1 23 v1 rfl rfl)
  have k1 := h1
  have lt1 : ∀ x ∈ p1, x.block < W.heap.size := by obtain ⟨m, hm⟩ := k1; exact DataW.trod_lt m _ _ _ hm
  obtain ⟨l1, sp1, z1, m1, x1⟩ : ∃ (ls : List Wn) (sp : List (DataW H)), Wl W (.slice a1 n1 c1) ls ∧ WfW ls ∧ (d1 = .nil ∧ ls = [] ∨ d1 = .slice (ls.map wn1) sp) := by
    obtain ⟨fuel, hf⟩ := h1
    exact open_wl Try.underlying23 Try.underlying28 (by kernel_rfl) rfl rfl (by kernel_rfl) (by kernel_rfl) Try.underlying3 Try.underlying3 hf
  have q1 : Nilly (.slice a1 n1 c1) := by obtain ⟨fuel, hf⟩ := k1; exact nilly_wl Try.underlying23 hf
  clear hA0 hval0
  have hbk : l0.length + l1.length ≤ 1048576 := by
    have h := of_decide_eq_true hk
    have y0 : l0.length ≤ Rows.uptoBulk d0 := by
      rcases x0 with ⟨rfl, rfl⟩ | rfl
      · simp
      · exact bulk_wl l0 sp0
    have y1 : l1.length ≤ Rows.uptoBulk d1 := by
      rcases x1 with ⟨rfl, rfl⟩ | rfl
      · simp
      · exact bulk_wl l1 sp1
    simp only [List.append_nil, Rows.uptoBulkAll] at h
    omega
  have b0 : l0.length ≤ 1048576 := by omega
  have b1 : l1.length ≤ 1048576 := by omega
  refine (walkSpanAgain (.slice a0 n0 c0) l0 (.slice a1 n1 c1) l1 W z0 m0 b0 q0 z1 m1 b1 q1).mono fun e W' ⟨he, bel⟩ => ?_
  subst he
  exact ⟨_, rfl, _, _, _, [], _, [], hW', trodAll_mk1 (shut_bool Try.underlying4 _), (trodAll_cons_mk (Below.trod laidOut (by kernel_rfl) (of_decide_eq_true (by kernel_rfl)) k0 bel lt0) (trodAll_cons_mk (Below.trod laidOut (by kernel_rfl) (of_decide_eq_true (by kernel_rfl)) k1 bel lt1) trodAll_mk0)), rfl, bel.frame _, fun h => by cases h⟩

theorem over : Rows.SpanAgainUptoSaid :=
  OpenClaim.holds_of_cond 6 Try.f6 rfl rfl rfl rfl rfl rfl rfl ⟨rfl, rfl, rfl, rfl, rfl⟩ rfl rfl rfl rfl rfl (by kernel_rfl) Try.func6 (by kernel_rfl)
    (of_decide_eq_true (by kernel_rfl)) (by unfold Func.isWrapper; first | (rw [if_pos (by decide +kernel)]; kernel_rfl) | (rw [if_neg (by decide +kernel)]; exact ⟨rfl, rfl⟩))
    (fun os started H enc _ F => lifted os started H enc F)
end Go.Proofs.Ytkmbhgbmdeoppab.spanAgain
namespace Go.Proofs.Ytkmbhgbmdeoppab
theorem spanAgainUpto_holds : Rows.SpanAgainUptoSaid := spanAgain.over
end Go.Proofs.Ytkmbhgbmdeoppab
