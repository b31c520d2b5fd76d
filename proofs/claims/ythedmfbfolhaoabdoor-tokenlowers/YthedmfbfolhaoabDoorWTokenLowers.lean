/-
  The walk through TokenLowers: it answers true and turns nothing that was there; the string fits in Go's limits, and the tables of package utf8 hold what their text lays.
-/
import Derived.Test.YthedmfbfolhaoabDoorWTok
import Derived.Test.YthedmfbfolhaoabDoorWLow
import Derived.Test.YthedmfbfolhaoabDoorWFold
import Derived.Test.YthedmfbfolhaoabDoorWTabs
namespace Go.Proofs.YthedmfbfolhaoabDoor
open Go.RowKit

theorem low_low (c : UInt8) : low (low c) = low c := by
  have := byAll (fun c => low (low c) == low c) (by decide +kernel) c
  simpa using this
theorem low_tok (c : UInt8) : isTok (low c) = isTok c := by
  have := byAll (fun c => isTok (low c) == isTok c) (by decide +kernel) c
  simpa using this
theorem lower_lower (l : List UInt8) : lower (lower l) = lower l := by
  unfold lower
  rw [List.map_map]
  exact List.map_congr_left fun c _ => low_low c
theorem lower_token (l : List UInt8) : token (lower l) = token l := by
  unfold token lower
  rw [List.all_map, List.isEmpty_map]
  congr 2
  funext c
  exact low_tok c
def lowS (s : ByteArray) : ByteArray := ⟨(lower s.data.toList).toArray⟩
theorem lowS_list (s : ByteArray) : (lowS s).data.toList = lower s.data.toList := by simp [lowS]
theorem lowS_size (s : ByteArray) : (lowS s).size = s.size := by
  rw [← size_list, ← size_list, lowS_list]; simp [lower]
theorem lowS_lowered (s : ByteArray) : Lowered s (lowS s) := by
  refine ⟨lowS_size s, fun k h h' => ?_⟩
  have e1 : (lowS s)[k] = (lowS s).data.toList[k]'(by rw [size_list]; exact h') := rfl
  have e2 : s[k] = s.data.toList[k]'(by rw [size_list]; exact h) := rfl
  rw [e1, e2]
  simp only [lowS_list, lower, List.getElem_map]

set_option maxHeartbeats 1000000 in
theorem walkTokenLowers (a0 : ByteArray) (z0 : a0.size ≤ 140737488351232) (w : World) (hL : laidMetH Tryd.prog Rows.tokenLowersRow.laid w) :
    Calls Tryd.prog 3 #[.string a0] w fun e w' => e = .returned (.bool true) ∧ Below w.heap.size w w' := by
  have HT : Hid (Lib.Utf8Tabs 3 4 w) := tabs_of w hL
  clear hL
  have hm : a0.size ≤ maxLen := by unfold maxLen; omega
  have z1 : (lowS a0).size ≤ 140737488351232 := by rw [lowS_size]; exact z0
  have hm1 : (lowS a0).size ≤ maxLen := by rw [lowS_size]; exact hm
  have hsz : (lowS a0).size = a0.size := lowS_size a0
  have hll : lowS (lowS a0) = lowS a0 := by unfold lowS; simp [lower_lower]
  have htk : token (lowS a0).data.toList = token a0.data.toList := by rw [lowS_list, lower_token]
  have hld := lowS_lowered a0
  go_enter Tryd.func3, Tryd.ntmps3
  go_wp2_with fail
  refine (lower_any _ _ z0).mono ?_
  rintro e w1 ⟨rfl, b1⟩
  rw [show (⟨(lower a0.data.toList).toArray⟩ : ByteArray) = lowS a0 from rfl]
  generalize lowS a0 = t at *
  go_wp2_with fail
  refine (lower_any _ _ z1).mono ?_
  rintro e w2 ⟨rfl, b2⟩
  rw [show (⟨(lower t.data.toList).toArray⟩ : ByteArray) = lowS t from rfl, hll]
  go_wp2_with fail
  refine (isToken_any _ _ hm).mono ?_
  rintro e w3 ⟨rfl, rfl⟩
  go_wp2_with fail
  refine (isToken_any _ _ hm1).mono ?_
  rintro e w4 ⟨rfl, rfl⟩
  rw [htk]
  go_wp2_with fail
  have b12 : Below w.heap.size w _ := b1.trans (b2.mono b1.size)
  refine (fold_any a0 t hld _ z0 (Utf8Tabs_below HT.out b12)).mono ?_
  rintro e w5 ⟨rfl, b3⟩
  have b13 : Below w.heap.size w w5 := b12.trans (b3.mono b12.size)
  go_wp2_with fail
  refine (lower_any _ _ (by decide)).mono ?_
  rintro e w6 ⟨rfl, b4⟩
  go_wp2_with fail
  go_ret
  exact ⟨ret_bool (by decide +kernel), b13.trans (b4.mono b13.size)⟩
end Go.Proofs.YthedmfbfolhaoabDoor
