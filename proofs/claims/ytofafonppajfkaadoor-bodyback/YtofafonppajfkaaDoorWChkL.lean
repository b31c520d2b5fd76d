/-
  What Check of package field computes, whatever list of fields comes in.
-/
import Derived.Test.YtofafonppajfkaaDoorWChk
namespace Go.Proofs.YtofafonppajfkaaDoor
open Go.RowKit

set_option maxHeartbeats 1000000 in
set_option maxRecDepth 100000 in
theorem check_any (v : Value) (ls : List Fld) (w : World) (hf : Fl w v ls) (hm : Most maxLen ls) :
    Calls Tryd.prog 45 #[v] w fun e w' => e = .returned (.int .i64 (chk ls)) ∧ Below w.heap.size w w' := by
  obtain ⟨ad, cap, hv, hcap, hcm, hc⟩ := hf
  subst hv
  have HC : Hid (0 < ls.length → ∃ g off, ad = some ⟨g, off, none⟩ ∧ g < w.heap.size ∧
    ∀ (k : Nat) (h : k < ls.length), w.cell? ⟨g, off + k * 2, none⟩ = some (.string ⟨(ls[k]).1.toArray⟩) ∧ w.cell? ⟨g, off + k * 2 + 1, none⟩ = some (.string ⟨(ls[k]).2.toArray⟩)) := hc
  have HM : Hid (Most maxLen ls) := hm
  clear hc hm
  unfold maxLen at hcm
  by_cases h30 : 30 < (ls.length : Int)
  · have HK : Hid (chk ls = 2) := chk_many _ (by omega)
    go_enter Tryd.func45, Tryd.ntmps45
    go_wp2_with fail
    go_ret
    exact ⟨ret_int HK.out.symm, Below.refl _ _⟩
  · have HK : Hid (chk ls = chkL ls) := chk_few _ (by omega)
    go_enter Tryd.func45, Tryd.ntmps45
    go_wp2_with fail
    go_loopw [11] (fun i wr => ∃ k : Nat, k ≤ ls.length ∧ i = .int .i64 k ∧ chkL (ls.take k) = 0 ∧ Below w.heap.size w wr) (fun i _ => ls.length - (intOf i).toNat)
    case atStart => exact ⟨0, Nat.zero_le _, rfl, rfl, Below.refl _ _⟩
    case round =>
      obtain ⟨k, hk, rfl, hz, hw⟩ := hrel
      have HZ : Hid (chkL (ls.take k) = 0) := hz
      have hsz := hw.size
      clear hz
      by_cases hlt : k < ls.length
      · obtain ⟨g, off, rfl, hgs, hce⟩ := HC.out (by omega)
        obtain ⟨c1, c2⟩ := hce k hlt
        have hmo := HM.out ls[k] (List.getElem_mem hlt)
        obtain ⟨n, hn⟩ : ∃ n : ByteArray, n = ⟨(ls[k]).1.toArray⟩ := ⟨_, rfl⟩
        obtain ⟨u, hu⟩ : ∃ u : ByteArray, u = ⟨(ls[k]).2.toArray⟩ := ⟨_, rfl⟩
        have HN : Hid (n.size ≤ maxLen) := by show _ ≤ _; rw [← size_list, hn]; exact hmo.1
        have HU : Hid (u.size ≤ maxLen) := by show _ ≤ _; rw [← size_list, hu]; exact hmo.2
        have HE : Hid (chk1 (n.data.toList, u.data.toList) = chk1 ls[k]) := by show _ = _; rw [hn, hu]
        have d1 : wr.cell? ⟨g, off + k * 2, none⟩ = some (.string n) := by rw [hw.cell (p := ⟨g, off + k * 2, none⟩) hgs, hn]; exact c1
        have d2 : wr.cell? ⟨g, off + k * 2 + 1, none⟩ = some (.string u) := by rw [hw.cell (p := ⟨g, off + k * 2 + 1, none⟩) hgs, hu]; exact c2
        have hgr : g < wr.heap.size := by omega
        clear hce c1 c2 hmo hn hu
        have hki : (k : Int) < (ls.length : Int) := by omega
        have hk0 : (0 : Int) ≤ (k : Int) := by omega
        by_cases hch : chk1 ls[k] = 0
        · have HCH : Hid (chk1 (n.data.toList, u.data.toList) = 0) := by show _ = _; rw [HE.out]; exact hch
          have HNX : Hid (chkL (ls.take (k + 1)) = 0) := chkL_take ls k hlt HZ.out hch
          clear hch
          go_wp2_with fail
          refine (checkOne_any n u _ HN.out HU.out).mono ?_
          rintro e w2 ⟨rfl, hb⟩
          rw [HCH.out]
          go_wp2_with fail
          go_roundw
          case rel => exact ⟨k + 1, by omega, by go_num, HNX.out, ((hw.alloc (by omega) _)).trans (hb.mono (by simp; omega))⟩
          case measure => simp [intOf]; omega
        · obtain ⟨c, hcc⟩ : ∃ c : Int, c = chk1 ls[k] := ⟨_, rfl⟩
          have HNC : Hid (chk ls = c) := by show _ = _; rw [HK.out, hcc]; exact chkL_dead ls k hlt HZ.out hch
          have HCH : Hid (chk1 (n.data.toList, u.data.toList) = c) := by show _ = _; rw [HE.out, hcc]
          have hc0 : c ≠ 0 := by rw [hcc]; exact hch
          have hcb : (c != 0) = true := by simpa using hc0
          clear hch hcc hc0
          go_wp2_with fail
          refine (checkOne_any n u _ HN.out HU.out).mono ?_
          rintro e w2 ⟨rfl, hb⟩
          rw [HCH.out]
          go_wp2_with fail
          go_ret
          exact ⟨ret_int HNC.out.symm, ((hw.alloc (by omega) _)).trans (hb.mono (by simp; omega))⟩
      · have HNC : Hid (chk ls = 0) := by
          show _ = _
          rw [HK.out, ← HZ.out, List.take_of_length_le (by omega)]
        go_wp2_with fail
        go_ret
        exact ⟨ret_int HNC.out.symm, hw⟩
end Go.Proofs.YtofafonppajfkaaDoor
