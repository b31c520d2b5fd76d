/-
  The Go function FieldBoth of package larderkeep answers true for every two lists of fields and every name that are together of bulk at most 1048576: the values of fields in two lists, one behind the other. No other condition but those that the row itself prints.
-/
import Derived.Test.YtflkgpjapgkgmabWFieldBoth
import Derived.Test.YtflkgpjapgkgmabOpenF
import Derived.Test.YtflkgpjapgkgmabRows
import Derived.ProofKit
import Derived.OpenShut
import Derived.ShutString
import Derived.ChangeOld
import Derived.Below
import Derived.SizedLaws
import Derived.Deep.DeepHandedRow
import Derived.JoinedCond
namespace Go.Proofs.Ytflkgpjapgkgmab.fieldBoth
open Go.ChangeShapes Go.WideShapes Go.ChangeAt Go.RowKit
open Go.ChangeMaps (open_string shut_string)
set_option linter.unusedVariables false

theorem own : ownKnob Try.prog.godebug = none := by kernel_rfl
theorem laidOut : laidOutB Try.prog = true := by kernel_rfl

theorem bulk_fl {H : Type} (ls : List Fld) (sp : List (DataW H)) : bulkF ls ≤ Rows.uptoBulk (DataW.slice (ls.map fl1) sp) := by
  have e : ∀ ls : List Fld, bulkF ls ≤ Rows.uptoBulkAll (ls.map (fl1 (H := H))) := by
    intro ls
    induction ls with
    | nil => simp [bulkF]
    | cons a ls ih => simp only [List.map_cons, Rows.uptoBulkAll, fl1, Rows.uptoBulk, bulkF, List.sum_cons] at ih ⊢; omega
  have := e ls
  simp only [Rows.uptoBulk]; omega

set_option maxRecDepth 100000 in
theorem lifted (os : Os) (started : os.Started) (H : Type) (enc : TypeId × Value → H) (F : Stop.Interp) :
    ReturnsInHanded {} Try.checked os 5 .any ((Rows.OpenSpec.upto Rows.fieldBothSpec).pre6 enc Try.prog Try.f5 Rows.fieldBothUptoRow.domain false) (((Rows.OpenSpec.upto Rows.fieldBothSpec).at F).post enc Try.prog Try.f5 false true false false) := by
  refine returnsInHanded_of_cond (C := Try.checked) (s := (Rows.OpenSpec.upto Rows.fieldBothSpec)) (k := Rows.uptoSmall) rfl own started (by kernel_rfl) Try.func5
    (OpenSpec.witness (enc := enc) (C := Try.checked) (s := (Rows.OpenSpec.upto Rows.fieldBothSpec)) (k := Rows.uptoSmall) rfl false ⟨#[], #[.slice none 0 0, .slice none 0 0, .string ByteArray.empty], []⟩ 8 (by kernel_rfl) (by kernel_rfl) (by kernel_rfl)
      (x := ([.nil, .nil, .lit (.string [])], [], [])) (by kernel_rfl) rfl (by kernel_rfl)) ?_
  intro W base args ds gs before hval0 hW _ hk _
  have hval : ∀ (j : Nat) t v, Try.f5.params[j]? = some t → args[j]? = some v → Value.okWide Try.prog W .any base t v := hval0
  have hW' := hW
  obtain ⟨p, q, hA0, hV, rfl, hfz, hnd⟩ := hW
  have hA : DataW.TrodAll enc Try.prog W 0 (fun _ => true) true Try.f5.params.toList args.toList ds p := hA0
  rw [Try.params5] at hA hval
  obtain ⟨v0, vs0, d0, ds0, p0, q0, hargs, rfl, rfl, h0, r0⟩ := trodAll_cons hA
  obtain ⟨v1, vs1, d1, ds1, p1, q1, rfl, rfl, rfl, h1, r1⟩ := trodAll_cons r0
  obtain ⟨v2, vs2, d2, ds2, p2, q2, rfl, rfl, rfl, h2, r2⟩ := trodAll_cons r1
  obtain ⟨rfl, rfl, rfl⟩ := trodAll_nil r2
  obtain rfl : args = #[v0, v1, v2] := by cases args; simp_all
  obtain ⟨rfl, rfl⟩ := trodVars_none hV
  obtain ⟨a0, n0, c0, rfl⟩ := okWide_slice Try.underlying22 (hval 0 22 v0 rfl rfl)
  have k0 := h0
  have lt0 : ∀ x ∈ p0, x.block < W.heap.size := by obtain ⟨m, hm⟩ := k0; exact DataW.trod_lt m _ _ _ hm
  obtain ⟨l0, sp0, z0, m0, x0⟩ : ∃ (ls : List Fld) (sp : List (DataW H)), Fl W (.slice a0 n0 c0) ls ∧ Most maxLen ls ∧ (d0 = .nil ∧ ls = [] ∨ d0 = .slice (ls.map fl1) sp) := by
    obtain ⟨fuel, hf⟩ := h0
    exact open_fl Try.underlying22 Try.underlying29 (by kernel_rfl) rfl rfl (by kernel_rfl) (by kernel_rfl) Try.underlying9 Try.underlying9 hf
  obtain ⟨a1, n1, c1, rfl⟩ := okWide_slice Try.underlying22 (hval 1 22 v1 rfl rfl)
  have k1 := h1
  have lt1 : ∀ x ∈ p1, x.block < W.heap.size := by obtain ⟨m, hm⟩ := k1; exact DataW.trod_lt m _ _ _ hm
  obtain ⟨l1, sp1, z1, m1, x1⟩ : ∃ (ls : List Fld) (sp : List (DataW H)), Fl W (.slice a1 n1 c1) ls ∧ Most maxLen ls ∧ (d1 = .nil ∧ ls = [] ∨ d1 = .slice (ls.map fl1) sp) := by
    obtain ⟨fuel, hf⟩ := h1
    exact open_fl Try.underlying22 Try.underlying29 (by kernel_rfl) rfl rfl (by kernel_rfl) (by kernel_rfl) Try.underlying9 Try.underlying9 hf
  obtain ⟨a2, rfl, rfl, rfl, w2⟩ := open_string Try.underlying9 (hval 2 9 v2 rfl rfl) h2
  clear hA0 hval0
  have hbk : bulkF l0 + bulkF l1 + (a2.size + 1) ≤ 1048576 := by
    have h := of_decide_eq_true hk
    have y0 : bulkF l0 ≤ Rows.uptoBulk d0 := by
      rcases x0 with ⟨rfl, rfl⟩ | rfl
      · simp [bulkF]
      · exact bulk_fl l0 sp0
    have y1 : bulkF l1 ≤ Rows.uptoBulk d1 := by
      rcases x1 with ⟨rfl, rfl⟩ | rfl
      · simp [bulkF]
      · exact bulk_fl l1 sp1
    have y2 := size_list a2
    simp only [List.append_nil, Rows.uptoBulkAll, Rows.uptoBulk] at h
    omega
  have b0 : bulkF l0 ≤ 1048576 := by omega
  have b1 : bulkF l1 ≤ 1048576 := by omega
  have z2 : a2.size ≤ 1048576 := by omega
  have bb : bulkF l0 + bulkF l1 ≤ 1048576 := by omega
  have y0 : Nilly (.slice a0 n0 c0) := by obtain ⟨fuel, hf⟩ := k0; exact nilly_fl Try.underlying22 hf
  have y1 : Nilly (.slice a1 n1 c1) := by obtain ⟨fuel, hf⟩ := k1; exact nilly_fl Try.underlying22 hf
  refine (walkFieldBoth (.slice a0 n0 c0) l0 (.slice a1 n1 c1) l1 a2 W z0 bb y0 z1 y1 z2).mono fun e W' ⟨he, bel⟩ => ?_
  subst he
  exact ⟨_, rfl, _, _, _, [], _, [], hW', trodAll_mk1 (shut_bool Try.underlying4 _), (trodAll_cons_mk (Below.trod laidOut (by kernel_rfl) (of_decide_eq_true (by kernel_rfl)) k0 bel lt0) (trodAll_cons_mk (Below.trod laidOut (by kernel_rfl) (of_decide_eq_true (by kernel_rfl)) k1 bel lt1) (trodAll_cons_mk (shut_string Try.underlying9 w2) trodAll_mk0))), rfl, bel.frame _, fun h => by cases h⟩

theorem over : Rows.FieldBothUptoSaid :=
  OpenClaim.holds_of_cond 5 Try.f5 rfl rfl rfl rfl rfl rfl rfl ⟨rfl, rfl, rfl, rfl, rfl⟩ rfl rfl rfl rfl rfl (by kernel_rfl) Try.func5 (by kernel_rfl)
    (of_decide_eq_true (by kernel_rfl)) (by unfold Func.isWrapper; first | (rw [if_pos (by decide +kernel)]; kernel_rfl) | (rw [if_neg (by decide +kernel)]; exact ⟨rfl, rfl⟩))
    (fun os started H enc _ F => lifted os started H enc F)
end Go.Proofs.Ytflkgpjapgkgmab.fieldBoth
namespace Go.Proofs.Ytflkgpjapgkgmab
theorem fieldBothUpto_holds : Rows.FieldBothUptoSaid := fieldBoth.over
end Go.Proofs.Ytflkgpjapgkgmab
