/-
  Eq of the document's answers on two lists of the same parameters answers true and turns nothing that was there.
-/
import Derived.Test.YtoccjnbodoiibabDoorWPar
import Derived.BigQuiet
import Derived.Deep.QuietTactic
namespace Go.Proofs.YtoccjnbodoiibabDoor
open Go.RowKit

set_option maxHeartbeats 1000000 in
set_option maxRecDepth 100000 in
theorem eqP_same (v v' : Value) (ps : List Par) (B B' : Nat) (w : World) (hn : ps.length ≤ 100000) (h : w.ownsRow B 28 2 v ps.length (pars ps)) (h' : w.ownsRow B' 28 2 v' ps.length (pars ps)) :
    Calls Tryd.prog 7 #[v, v'] w fun e w' => e = .returned (.bool true) ∧ Below w.heap.size w w' := by
  obtain ⟨ad, cap, hv, hcm, hnc, hc⟩ := own_form2 h
  obtain ⟨ad', cap', hv', hcm', hnc', hc'⟩ := own_form2 h'
  subst hv hv'
  unfold maxLen at hcm hcm'
  have HC : Hid (0 < ps.length → ∃ g, ad = some ⟨g, 0, none⟩ ∧ B ≤ g ∧ g < w.heap.size ∧ ∀ j, j < ps.length * 2 → w.cell? ⟨g, j, none⟩ = (pars ps)[j]?) := hc
  have HC' : Hid (0 < ps.length → ∃ g, ad' = some ⟨g, 0, none⟩ ∧ B' ≤ g ∧ g < w.heap.size ∧ ∀ j, j < ps.length * 2 → w.cell? ⟨g, j, none⟩ = (pars ps)[j]?) := hc'
  clear h h' hc hc'
  go_enter Tryd.func7, Tryd.ntmps7
  go_wp2_with fail
  go_loopw [14] (fun i wr => ∃ k : Nat, k ≤ ps.length ∧ i = .int .i64 k ∧ Below w.heap.size w wr) (fun i _ => ps.length - (intOf i).toNat)
  case atStart => exact ⟨0, Nat.zero_le _, rfl, Below.refl _ _⟩
  case round =>
    obtain ⟨k, hk, rfl, hw⟩ := hrel
    by_cases hlt : k < ps.length
    · obtain ⟨g, rfl, _, hgs, hce⟩ := HC.out (by omega)
      obtain ⟨g', rfl, _, hgs', hce'⟩ := HC'.out (by omega)
      obtain ⟨p1, p2⟩ := pars_get ps k hlt
      have c1 : wr.cell? ⟨g, k * 2, none⟩ = some (.string ⟨(ps[k]).1.toArray⟩) := by rw [hw.cell (p := ⟨g, k * 2, none⟩) hgs, hce _ (by omega)]; exact p1
      have c2 : wr.cell? ⟨g, k * 2 + 1, none⟩ = some (.string ⟨(ps[k]).2.toArray⟩) := by rw [hw.cell (p := ⟨g, k * 2 + 1, none⟩) hgs, hce _ (by omega)]; exact p2
      have d1 : wr.cell? ⟨g', k * 2, none⟩ = some (.string ⟨(ps[k]).1.toArray⟩) := by rw [hw.cell (p := ⟨g', k * 2, none⟩) hgs', hce' _ (by omega)]; exact p1
      have d2 : wr.cell? ⟨g', k * 2 + 1, none⟩ = some (.string ⟨(ps[k]).2.toArray⟩) := by rw [hw.cell (p := ⟨g', k * 2 + 1, none⟩) hgs', hce' _ (by omega)]; exact p2
      generalize (⟨(ps[k]).1.toArray⟩ : ByteArray) = x at c1 d1
      generalize (⟨(ps[k]).2.toArray⟩ : ByteArray) = y at c2 d2
      have hsz := hw.size
      have hgr : g < wr.heap.size := by omega
      have hgr' : g' < wr.heap.size := by omega
      clear hce hce' p1 p2
      have hki : (k : Int) < (ps.length : Int) := by omega
      have hk0 : (0 : Int) ≤ (k : Int) := by omega
      go_wp2_with fail
      go_quiet (fail)
      go_wp2_with fail
      go_roundw
      case rel => exact ⟨k + 1, by omega, by go_num, (hw.alloc (by omega) _).trans (drewN_below _ _ _)⟩
      case measure => simp [intOf]; omega
    · go_wp2_with fail
      go_ret
      exact ⟨rfl, hw⟩
end Go.Proofs.YtoccjnbodoiibabDoor
