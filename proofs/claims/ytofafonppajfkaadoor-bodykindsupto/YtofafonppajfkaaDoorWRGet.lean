/-
  What Get of the document's answers computes; lists and texts are no longer than Go allows, and the values, with what stands between them, fit in 2^47 bytes.
-/
import Derived.Test.YtofafonppajfkaaDoorSpecG
import Derived.Test.YtofafonppajfkaaDoorWRLow
namespace Go.Proofs.YtofafonppajfkaaDoor
open Go.RowKit

theorem rlower_at (s t : ByteArray) (h : t.data.toList = lower s.data.toList) (w : World) (hs : s.size ≤ 140737488351232) :
    Calls Tryd.prog 25 #[.string s] w fun e w' => e = .returned (.string t) ∧ w' = w := by
  refine (rlower_any s w hs).mono ?_
  rintro e w' ⟨rfl, hb⟩
  refine ⟨ret_str ?_, hb⟩
  apply ByteArray.ext; apply Array.ext'; exact h.symm
theorem nm_is (n s t1 t2 : ByteArray) (u : List UInt8) (h1 : t1.data.toList = lower n.data.toList) (h2 : t2.data.toList = lower s.data.toList) : nm s.data.toList (n.data.toList, u) = (t1.toList == t2.toList) := by
  rw [ByteArray.toList_eq, ByteArray.toList_eq, h1, h2]; rfl
theorem ret_sb' {a b : ByteArray} {c d : Bool} (h : a = b) (h' : c = d) : Ending.returned (.tuple #[.string a, .bool c]) = .returned (.tuple #[.string b, .bool d]) := by rw [h, h']
theorem ba_two (a b : ByteArray) (l : List UInt8) (h : a.data.toList ++ b.data.toList = l) : a ++ b = ⟨l.toArray⟩ := by
  apply ByteArray.ext; apply Array.ext'
  rw [ByteArray.data_append, Array.toList_append, h]

set_option maxHeartbeats 4000000 in
set_option maxRecDepth 100000 in
theorem rget_at (v : Value) (ls : List Fld) (s t : ByteArray) (b : Bool) (ht : t.data.toList = jn (vals ls s.data.toList)) (hb : b = !(vals ls s.data.toList).isEmpty) (w : World) (hf : Fl w v ls) (hbk : bulkF ls ≤ 1048576) (hs : s.size ≤ 140737488351232) :
    Calls Tryd.prog 24 #[v, .string s] w fun e w' => e = .returned (.tuple #[.string t, .bool b]) ∧ Below w.heap.size w w' := by
  obtain ⟨ad, cap, hv, hcap, hcm, hc⟩ := hf
  subst hv
  have HC : Hid (0 < ls.length → ∃ g off, ad = some ⟨g, off, none⟩ ∧ g < w.heap.size ∧
    ∀ (k : Nat) (h : k < ls.length), w.cell? ⟨g, off + k * 2, none⟩ = some (.string ⟨(ls[k]).1.toArray⟩) ∧ w.cell? ⟨g, off + k * 2 + 1, none⟩ = some (.string ⟨(ls[k]).2.toArray⟩)) := hc
  have HT : Hid (t.data.toList = jn (vals ls s.data.toList)) := ht
  have HB : Hid (b = !(vals ls s.data.toList).isEmpty) := hb
  have HBK : Hid (bulkF ls ≤ 1048576) := hbk
  have hbl := bulk_len ls
  obtain ⟨t2, ht2⟩ : ∃ t2 : ByteArray, t2.data.toList = lower s.data.toList := ⟨⟨(lower s.data.toList).toArray⟩, rfl⟩
  have HT2 : Hid (t2.data.toList = lower s.data.toList) := ht2
  clear hc ht hb hbk ht2
  unfold maxLen at hcm
  go_enter Tryd.func24, Tryd.ntmps24
  go_wp2_with fail
  go_loopw [6, 7, 12] (fun o q i wr => ∃ (k : Nat) (r : ByteArray) (c : Bool), k ≤ ls.length ∧ i = .int .i64 k ∧ o = .string r ∧ q = .bool c ∧ r.data.toList = jn (vals (ls.take k) s.data.toList) ∧ c = !(vals (ls.take k) s.data.toList).isEmpty ∧ Below w.heap.size w wr) (fun _ _ i _ => ls.length - (intOf i).toNat)
  case atStart => exact ⟨0, ⟨#[]⟩, false, Nat.zero_le _, rfl, rfl, rfl, rfl, rfl, Below.refl _ _⟩
  case round =>
    obtain ⟨k, r, c, hk, rfl, rfl, rfl, hr, hcc, hw⟩ := hrel
    have hsz := hw.size
    have hrs : r.size ≤ 1048576 := by
      rw [← size_list, hr]
      have h1 := jn_bulk (ls.take k) s.data.toList
      have h2 : bulkF (ls.take k) ≤ bulkF ls := by
        have : bulkF ls = bulkF (ls.take k ++ ls.drop k) := by rw [List.take_append_drop]
        rw [this, bulkF_app]; omega
      have := HBK.out
      omega
    have HR : Hid (r.data.toList = jn (vals (ls.take k) s.data.toList)) := hr
    have HCC : Hid (c = !(vals (ls.take k) s.data.toList).isEmpty) := hcc
    clear hr hcc
    by_cases hlt : k < ls.length
    · obtain ⟨g, off, rfl, hgs, hce⟩ := HC.out (by omega)
      obtain ⟨c1, c2⟩ := hce k hlt
      have hmo := bulk_most ls ls[k] (List.getElem_mem hlt)
      have hbk := HBK.out
      obtain ⟨n, hn⟩ : ∃ n : ByteArray, n = ⟨(ls[k]).1.toArray⟩ := ⟨_, rfl⟩
      obtain ⟨u, hu⟩ : ∃ u : ByteArray, u = ⟨(ls[k]).2.toArray⟩ := ⟨_, rfl⟩
      have hns : n.size ≤ 1048576 := by rw [← size_list, hn]; exact Nat.le_trans hmo.1 hbk
      have hus : u.size ≤ 1048576 := by rw [← size_list, hu]; exact Nat.le_trans hmo.2 hbk
      have HE : Hid ((n.data.toList, u.data.toList) = ls[k]) := by show _ = _; rw [hn, hu]
      have HV := vals_take ls s.data.toList k hlt
      rw [← HE.out] at HV
      obtain ⟨t1, ht1⟩ : ∃ t1 : ByteArray, t1.data.toList = lower n.data.toList := ⟨⟨(lower n.data.toList).toArray⟩, rfl⟩
      have HT1 : Hid (t1.data.toList = lower n.data.toList) := ht1
      have HNM := nm_is n s t1 t2 u.data.toList ht1 HT2.out
      have d1 : wr.cell? ⟨g, off + k * 2, none⟩ = some (.string n) := by rw [hw.cell (p := ⟨g, off + k * 2, none⟩) hgs, hn]; exact c1
      have d2 : wr.cell? ⟨g, off + k * 2 + 1, none⟩ = some (.string u) := by rw [hw.cell (p := ⟨g, off + k * 2 + 1, none⟩) hgs, hu]; exact c2
      have hgr : g < wr.heap.size := by omega
      clear hce c1 c2 hmo hn hu ht1 hbk
      have hki : (k : Int) < (ls.length : Int) := by omega
      have hk0 : (0 : Int) ≤ (k : Int) := by omega
      cases hq : (t1.toList == t2.toList)
      · rw [HNM, hq] at HV
        have HV2 : Hid (vals (ls.take (k + 1)) s.data.toList = vals (ls.take k) s.data.toList) := by show _ = _; rw [HV]; simp
        clear HV HNM
        go_wp2_with fail
        refine (rlower_at n t1 HT1.out _ (by omega)).mono ?_
        rintro e w1 ⟨rfl, rfl⟩
        go_wp2_with fail
        refine (rlower_at s t2 HT2.out _ hs).mono ?_
        rintro e w2 ⟨rfl, rfl⟩
        go_wp2_with fail
        go_roundw
        case rel => exact ⟨k + 1, r, c, by omega, by go_num, rfl, rfl, by rw [HV2.out]; exact HR.out, by rw [HV2.out]; exact HCC.out, hw.alloc hsz _⟩
        case measure => simp [intOf]; omega
      · rw [HNM, hq] at HV
        have HV2 : Hid (vals (ls.take (k + 1)) s.data.toList = vals (ls.take k) s.data.toList ++ [u.data.toList]) := by show _ = _; rw [HV]; simp
        clear HV HNM
        cases c
        · have HX : Hid (vals (ls.take k) s.data.toList = []) := by
            have := HCC.out
            show _ = _
            simpa using this
          have HRE : Hid (r = ⟨#[]⟩) := by
            show _ = _
            apply ByteArray.ext; apply Array.ext'
            rw [HR.out, HX.out]; rfl
          have HN : Hid ((r ++ u).data.toList = jn (vals (ls.take (k + 1)) s.data.toList)) := by
            show _ = _
            rw [HV2.out, jn_snoc, if_pos HX.out, HRE.out, ByteArray.data_append, Array.toList_append]; rfl
          have HN2 : Hid (true = !(vals (ls.take (k + 1)) s.data.toList).isEmpty) := by show _ = _; rw [HV2.out]; simp
          go_wp2_with fail
          refine (rlower_at n t1 HT1.out _ (by omega)).mono ?_
          rintro e w1 ⟨rfl, rfl⟩
          go_wp2_with fail
          refine (rlower_at s t2 HT2.out _ hs).mono ?_
          rintro e w2 ⟨rfl, rfl⟩
          go_wp2_with fail
          go_roundw
          case rel => exact ⟨k + 1, r ++ u, true, by omega, by go_num, rfl, rfl, HN.out, HN2.out, hw.alloc hsz _⟩
          case measure => simp [intOf]; omega
        · have HX : Hid (vals (ls.take k) s.data.toList ≠ []) := by
            have := HCC.out
            show _ ≠ _
            intro e
            rw [e] at this
            simp at this
          have HN : Hid ((r ++ ⟨#[44, 32]⟩ ++ u).data.toList = jn (vals (ls.take (k + 1)) s.data.toList)) := by
            show _ = _
            rw [HV2.out, jn_snoc, if_neg HX.out, ByteArray.data_append, Array.toList_append, ByteArray.data_append, Array.toList_append, HR.out]
          have HN2 : Hid (true = !(vals (ls.take (k + 1)) s.data.toList).isEmpty) := by show _ = _; rw [HV2.out]; simp
          go_wp2_with fail
          refine (rlower_at n t1 HT1.out _ (by omega)).mono ?_
          rintro e w1 ⟨rfl, rfl⟩
          go_wp2_with fail
          refine (rlower_at s t2 HT2.out _ hs).mono ?_
          rintro e w2 ⟨rfl, rfl⟩
          go_wp2_with fail
          go_roundw
          case rel => exact ⟨k + 1, r ++ ⟨#[44, 32]⟩ ++ u, true, by omega, by go_num, rfl, rfl, HN.out, HN2.out, hw.alloc hsz _⟩
          case measure => simp [intOf]; omega
    · have HEnd : Hid (ls.take k = ls) := List.take_of_length_le (by omega)
      go_wp2_with fail
      go_ret2
      refine ⟨ret_sb' ?_ (by rw [HB.out, HCC.out, HEnd.out]), hw⟩
      apply ByteArray.ext; apply Array.ext'
      rw [HT.out, HR.out, HEnd.out]
end Go.Proofs.YtofafonppajfkaaDoor
