/-
  Eq of the document's answers on two lists of the same fields answers true and turns nothing that was there.
-/
import Derived.Test.YtpkaajjkadillaaDoorSpecF
import Derived.Test.YtpkaajjkadillaaDoorShelf
import Derived.Test.YtpkaajjkadillaaDoorRows
import Derived.BigQuiet
import Derived.Deep.QuietTactic
namespace Go.Proofs.YtpkaajjkadillaaDoor
open Go.RowKit

set_option maxHeartbeats 1000000 in
set_option maxRecDepth 100000 in
theorem eqF_same (v v' : Value) (ls : List Fld) (w : World) (h : Fl w v ls) (h' : Fl w v' ls) :
    Calls Tryd.prog 9 #[v, v'] w fun e w' => e = .returned (.bool true) ∧ Below w.heap.size w w' := by
  obtain ⟨ad, cap, hv, hnc, hcm, hc⟩ := h
  obtain ⟨ad', cap', hv', hnc', hcm', hc'⟩ := h'
  subst hv hv'
  unfold maxLen at hcm hcm'
  have HC : Hid (0 < ls.length → ∃ g off, ad = some ⟨g, off, none⟩ ∧ g < w.heap.size ∧
    ∀ (k : Nat) (h : k < ls.length), w.cell? ⟨g, off + k * 2, none⟩ = some (.string ⟨(ls[k]).1.toArray⟩) ∧ w.cell? ⟨g, off + k * 2 + 1, none⟩ = some (.string ⟨(ls[k]).2.toArray⟩)) := hc
  have HC' : Hid (0 < ls.length → ∃ g off, ad' = some ⟨g, off, none⟩ ∧ g < w.heap.size ∧
    ∀ (k : Nat) (h : k < ls.length), w.cell? ⟨g, off + k * 2, none⟩ = some (.string ⟨(ls[k]).1.toArray⟩) ∧ w.cell? ⟨g, off + k * 2 + 1, none⟩ = some (.string ⟨(ls[k]).2.toArray⟩)) := hc'
  clear hc hc'
  go_enter Tryd.func9, Tryd.ntmps9
  go_wp2_with fail
  go_loopw [14] (fun i wr => ∃ k : Nat, k ≤ ls.length ∧ i = .int .i64 k ∧ Below w.heap.size w wr) (fun i _ => ls.length - (intOf i).toNat)
  case atStart => exact ⟨0, Nat.zero_le _, rfl, Below.refl _ _⟩
  case round =>
    obtain ⟨k, hk, rfl, hw⟩ := hrel
    by_cases hlt : k < ls.length
    · obtain ⟨g, off, rfl, hgs, hce⟩ := HC.out (by omega)
      obtain ⟨g', off', rfl, hgs', hce'⟩ := HC'.out (by omega)
      obtain ⟨p1, p2⟩ := hce k hlt
      obtain ⟨q1, q2⟩ := hce' k hlt
      have c1 : wr.cell? ⟨g, off + k * 2, none⟩ = some (.string ⟨(ls[k]).1.toArray⟩) := by rw [hw.cell (p := ⟨g, off + k * 2, none⟩) hgs]; exact p1
      have c2 : wr.cell? ⟨g, off + k * 2 + 1, none⟩ = some (.string ⟨(ls[k]).2.toArray⟩) := by rw [hw.cell (p := ⟨g, off + k * 2 + 1, none⟩) hgs]; exact p2
      have d1 : wr.cell? ⟨g', off' + k * 2, none⟩ = some (.string ⟨(ls[k]).1.toArray⟩) := by rw [hw.cell (p := ⟨g', off' + k * 2, none⟩) hgs']; exact q1
      have d2 : wr.cell? ⟨g', off' + k * 2 + 1, none⟩ = some (.string ⟨(ls[k]).2.toArray⟩) := by rw [hw.cell (p := ⟨g', off' + k * 2 + 1, none⟩) hgs']; exact q2
      generalize (⟨(ls[k]).1.toArray⟩ : ByteArray) = x at c1 d1
      generalize (⟨(ls[k]).2.toArray⟩ : ByteArray) = y at c2 d2
      have hsz := hw.size
      have hgr : g < wr.heap.size := by omega
      have hgr' : g' < wr.heap.size := by omega
      clear hce hce' p1 p2 q1 q2
      have hki : (k : Int) < (ls.length : Int) := by omega
      have hk0 : (0 : Int) ≤ (k : Int) := by omega
      go_wp2_with fail
      go_quiet (fail)
      go_wp2_with fail
      go_roundw
      case rel => exact ⟨k + 1, by omega, by go_num, (hw.alloc (by omega) _).trans (drewN_below _ _ _)⟩
      case measure => simp [intOf]; omega
    · go_wp2_with fail
      go_ret
      exact ⟨rfl, hw⟩
end Go.Proofs.YtpkaajjkadillaaDoor
