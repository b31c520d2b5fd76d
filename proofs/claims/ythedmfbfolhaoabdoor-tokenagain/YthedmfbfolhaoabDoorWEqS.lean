/-
  Eq of the document's answers on two lists of the same strings answers true and turns nothing.
-/
import Derived.Test.YthedmfbfolhaoabDoorOwn
import Derived.Test.YthedmfbfolhaoabDoorShelf
import Derived.Test.YthedmfbfolhaoabDoorRows
namespace Go.Proofs.YthedmfbfolhaoabDoor
open Go.RowKit

set_option maxHeartbeats 1000000 in
set_option maxRecDepth 100000 in
theorem eqS_same (v v' : Value) (ps : List (List UInt8)) (n B B' : Nat) (w : World) (hn : n ≤ 100000) (h : w.ownsRow B 9 1 v n (strs ps)) (h' : w.ownsRow B' 9 1 v' n (strs ps)) :
    Calls Tryd.prog 14 #[v, v'] w fun e w' => e = .returned (.bool true) ∧ w' = w := by
  have hl := own_cell h
  obtain ⟨ad, cap, hv, hcm, hnc, hc⟩ := own_slice h
  obtain ⟨ad', cap', hv', hcm', hnc', hc'⟩ := own_slice h'
  subst hv hv'
  unfold maxLen at hcm hcm'
  have HC : Hid (0 < n → ∃ g, ad = some ⟨g, 0, none⟩ ∧ B ≤ g ∧ g < w.heap.size ∧ ∀ j, j < n → w.cell? ⟨g, j, none⟩ = (strs ps)[j]?) := hc
  have HC' : Hid (0 < n → ∃ g, ad' = some ⟨g, 0, none⟩ ∧ B' ≤ g ∧ g < w.heap.size ∧ ∀ j, j < n → w.cell? ⟨g, j, none⟩ = (strs ps)[j]?) := hc'
  have HL : Hid (n = ps.length) := hl
  clear h h' hc hc' hl
  go_enter Tryd.func14, Tryd.ntmps14
  go_wp2_with fail
  go_loop [14] (fun i => ∃ k : Nat, k ≤ n ∧ i = .int .i64 k) (fun i => n - (intOf i).toNat)
  case atStart => exact ⟨0, Nat.zero_le _, rfl⟩
  case round =>
    obtain ⟨k, hk, rfl⟩ := hrel
    by_cases hlt : k < n
    · obtain ⟨g, rfl, _, _, hce⟩ := HC.out (by omega)
      obtain ⟨g', rfl, _, _, hce'⟩ := HC'.out (by omega)
      have hkl : k < ps.length := by rw [← HL.out]; exact hlt
      have c1 : w.cell? ⟨g, k, none⟩ = some (.string ⟨(ps[k]).toArray⟩) := by rw [hce k hlt]; exact strs_get ps k hkl
      have c2 : w.cell? ⟨g', k, none⟩ = some (.string ⟨(ps[k]).toArray⟩) := by rw [hce' k hlt]; exact strs_get ps k hkl
      generalize (⟨(ps[k]).toArray⟩ : ByteArray) = u at c1 c2
      clear hce hce'
      go_wp2
      go_round
      case rel => exact ⟨k + 1, by omega, by go_num⟩
      case measure => simp [intOf]; omega
    · go_wp2
      go_ret
      exact ⟨rfl, rfl⟩
end Go.Proofs.YthedmfbfolhaoabDoor
