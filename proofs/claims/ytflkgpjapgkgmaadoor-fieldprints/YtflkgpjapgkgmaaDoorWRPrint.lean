/-
  What FieldPrint of the document's answers computes, whatever list of fields comes in.
-/
import Derived.Test.YtflkgpjapgkgmaaDoorSpecPr
import Derived.Test.YtflkgpjapgkgmaaDoorWRChkL
namespace Go.Proofs.YtflkgpjapgkgmaaDoor
open Go.RowKit

theorem app_two (a : List UInt8) (s : ByteArray) : (⟨a.toArray⟩ : ByteArray) ++ s = ⟨(a ++ s.data.toList).toArray⟩ := by
  apply ByteArray.ext
  apply Array.ext'
  simp [ByteArray.data_append]

set_option maxHeartbeats 4000000 in
set_option maxRecDepth 100000 in
theorem rprint_any (v : Value) (ls : List Fld) (w : World) (hf : Fl w v ls) (hm : Most maxLen ls) :
    Calls Tryd.prog 10 #[v] w fun e w' => e = .returned (.tuple #[.string ⟨(prtS ls).1.toArray⟩, .int .i64 (prtS ls).2]) ∧ Below w.heap.size w w' := by
  have HF : Hid (Fl w v ls) := hf
  have HM : Hid (Most maxLen ls) := hm
  clear hf hm
  by_cases hch : chk ls = 0
  · have HCH : Hid (chk ls = 0) := hch
    have HP : Hid (prtS ls = (prt ls ++ [13, 10], 0)) := prtS_ok ls hch
    clear hch
    obtain ⟨ad, cap, hv, hcap, hcm, _⟩ := HF.out
    subst hv
    have hl30 := (chk_zero ls HCH.out).1
    unfold maxLen at hcm
    go_enter Tryd.func10, Tryd.ntmps10
    go_wp2_with fail
    refine (rcheck_any _ ls _ HF.out HM.out).mono ?_
    rintro e w1 ⟨rfl, hb1⟩
    have HF1 : Hid (Fl w1 (.slice ad ls.length cap) ls) := HF.out.below hb1
    have hsz1 := hb1.size
    rw [HCH.out]
    go_wp2_with fail
    go_loopw [5, 15] (fun o i wr => ∃ (k : Nat) (t : ByteArray), k ≤ ls.length ∧ i = .int .i64 k ∧ o = .string t ∧ t = ⟨(prt (ls.take k)).toArray⟩ ∧ Below w1.heap.size w1 wr) (fun _ i _ => ls.length - (intOf i).toNat)
    case atStart => exact ⟨0, _, Nat.zero_le _, rfl, rfl, rfl, Below.refl _ _⟩
    case round =>
      obtain ⟨k, t, hk, rfl, rfl, ht, hw⟩ := hrel
      have hsz := hw.size
      have hpl := prt_take_len ls HCH.out k
      have HT : Hid (t = ⟨(prt (ls.take k)).toArray⟩) := ht
      have hts : t.size ≤ 31020 := by rw [ht, ← size_list]; exact hpl
      clear ht
      by_cases hlt : k < ls.length
      · obtain ⟨ad', cap', hv', _, _, hc'⟩ := HF1.out
        simp only [Value.slice.injEq] at hv'
        obtain ⟨rfl, _, rfl⟩ := hv'
        obtain ⟨g, off, rfl, hgs, hce⟩ := hc' (by omega)
        obtain ⟨c1, c2⟩ := hce k hlt
        have hsh := chk_short ls HCH.out ls[k] (List.getElem_mem hlt)
        obtain ⟨n, hn⟩ : ∃ n : ByteArray, n = ⟨(ls[k]).1.toArray⟩ := ⟨_, rfl⟩
        obtain ⟨u, hu⟩ : ∃ u : ByteArray, u = ⟨(ls[k]).2.toArray⟩ := ⟨_, rfl⟩
        have hns : n.size ≤ 30 := by rw [← size_list, hn]; exact hsh.1
        have hus : u.size ≤ 1000 := by rw [← size_list, hu]; exact hsh.2
        have HE : Hid (t ++ (n ++ ⟨#[58, 32]⟩ ++ u ++ ⟨#[13, 10]⟩) = ⟨(prt (ls.take (k + 1))).toArray⟩) := by
          show _ = _
          rw [prt_take ls k hlt, hn, hu, HT.out]
          apply ByteArray.ext
          apply Array.ext'
          simp [ln, ByteArray.data_append]
        have d1 : wr.cell? ⟨g, off + k * 2, none⟩ = some (.string n) := by rw [hw.cell (p := ⟨g, off + k * 2, none⟩) hgs, hn]; exact c1
        have d2 : wr.cell? ⟨g, off + k * 2 + 1, none⟩ = some (.string u) := by rw [hw.cell (p := ⟨g, off + k * 2 + 1, none⟩) hgs, hu]; exact c2
        have hgr : g < wr.heap.size := by omega
        clear hce c1 c2 hsh hn hu hc'
        have hki : (k : Int) < (ls.length : Int) := by omega
        have hk0 : (0 : Int) ≤ (k : Int) := by omega
        go_wp2_with fail
        go_roundw
        case rel => exact ⟨k + 1, _, by omega, by go_num, rfl, by first | exact HE.out | (rw [← HE.out]), hw.alloc (by omega) _⟩
        case measure => simp [intOf]; omega
      · have HEnd : Hid (ls.take k = ls) := List.take_of_length_le (by omega)
        go_wp2_with fail
        go_ret2
        refine ⟨ret_se ?_ (by rw [HP.out]), hb1.trans (hw.mono hsz1)⟩
        rw [HP.out, HT.out, HEnd.out, app_two]
  · have HP : Hid (prtS ls = ([], chk ls)) := prtS_bad ls hch
    obtain ⟨c, hc⟩ : ∃ c, c = chk ls := ⟨_, rfl⟩
    have HC : Hid (chk ls = c) := hc.symm
    have hcb : (c != 0) = true := by rw [hc]; simpa using hch
    clear hch hc
    go_enter Tryd.func10, Tryd.ntmps10
    go_wp2_with fail
    refine (rcheck_any _ ls _ HF.out HM.out).mono ?_
    rintro e w1 ⟨rfl, hb1⟩
    rw [HC.out]
    go_wp2_with fail
    go_ret2
    exact ⟨ret_se (by rw [HP.out]) (by rw [HP.out, HC.out]), hb1⟩
end Go.Proofs.YtflkgpjapgkgmaaDoor
