/-
  What readField of package field computes; a line has at most 1100 bytes, and the package variable that the library reads holds some number.
-/
import Derived.Test.YtofafonppajfkaaDoorSpecPa
import Derived.Test.YtofafonppajfkaaDoorWChk
import Derived.Test.YtofafonppajfkaaDoorWClone
import Derived.Test.YtofafonppajfkaaDoorWCutT
import Derived.Test.YtofafonppajfkaaDoorWInfoF
namespace Go.Proofs.YtofafonppajfkaaDoor
open Go.RowKit

set_option maxHeartbeats 2000000 in
set_option maxRecDepth 100000 in
theorem readField_at (s x y : ByteArray) (c : Int) (h : rdF s.data.toList = ((x.data.toList, y.data.toList), c)) (m : Int) (w : World) (hm : w.cell? ⟨0, 0, none⟩ = some (.int .i64 m)) (hs : s.size ≤ 1100) :
    Calls Tryd.prog 125 #[.string s] w fun e w' => e = .returned (.tuple #[.agg #[.string x, .string y], .int .i64 c]) ∧ Below w.heap.size w w' := by
  have HM : Hid ((w.alloc (.cells #[.string ⟨#[]⟩, .string ⟨#[]⟩] 72)).cell? ⟨0, 0, none⟩ = some (.int .i64 m)) := by
    show _ = _
    rw [World.cell?_alloc_lt _ _ _ (cell_in hm)]; exact hm
  have HG0 : Hid ((w.alloc (.cells #[.string ⟨#[]⟩, .string ⟨#[]⟩] 72)).heap[w.heap.size]? = some (.cells #[.string ⟨#[]⟩, .string ⟨#[]⟩] 72 (0, 0))) := pair_new _ _ _ _
  have HB0 : Hid (Below w.heap.size w (w.alloc (.cells #[.string ⟨#[]⟩, .string ⟨#[]⟩] 72))) := (Below.refl _ w).alloc (Nat.le_refl _) _
  clear hm
  rcases index_two' s.data.toList [58] with hi | ⟨k, hi, hk⟩
  · have HC : Hid (Lib.cut s.data.toList (⟨#[58]⟩ : ByteArray).data.toList = (s.data.toList, (⟨#[]⟩ : ByteArray).data.toList, false)) := cut_no _ _ hi
    rw [rdF_no _ hi] at h
    simp only [Prod.mk.injEq] at h
    obtain ⟨⟨h1, h2⟩, rfl⟩ := h
    obtain rfl : (⟨#[]⟩ : ByteArray) = x := mk_self x [] h1.symm
    obtain rfl : (⟨#[]⟩ : ByteArray) = y := mk_self y [] h2.symm
    clear hi h1 h2
    go_enter Tryd.func125, Tryd.ntmps125
    go_wp2_with fail
    refine (scut_at s _ s ⟨#[]⟩ false HC.out m _ HM.out (by omega)).mono ?_
    rintro e w1 ⟨rfl, nd, rfl⟩
    go_wp2_with fail
    refine bodyPost_ret (v := .tuple #[.agg #[.string ⟨#[]⟩, .string ⟨#[]⟩], .int .i64 3]) (by simp [results, Tryd.results125, go_sem]) rfl ⟨rfl, ?_⟩
    exact ((HB0.out.trans (drewN_below _ _ _)).setCell (p := ⟨w.heap.size, 0, none⟩) (Nat.le_refl _) _).setCell (p := ⟨w.heap.size, 1, none⟩) (Nat.le_refl _) _
  · obtain ⟨a, ha⟩ : ∃ a : ByteArray, a.data.toList = s.data.toList.take k := ⟨⟨(s.data.toList.take k).toArray⟩, rfl⟩
    obtain ⟨b, hb⟩ : ∃ b : ByteArray, b.data.toList = s.data.toList.drop (k + 1) := ⟨⟨(s.data.toList.drop (k + 1)).toArray⟩, rfl⟩
    obtain ⟨t, ht⟩ : ∃ t : ByteArray, t.data.toList = trimL b.data.toList := ⟨⟨(trimL b.data.toList).toArray⟩, rfl⟩
    have HT : Hid (t.data.toList = trimL b.data.toList) := ht
    have HC : Hid (Lib.cut s.data.toList (⟨#[58]⟩ : ByteArray).data.toList = (a.data.toList, b.data.toList, true)) := by
      show _ = _
      rw [ha, hb]; exact cut_yes _ _ k hi
    have hsz := size_list s
    have has : a.size ≤ 1100 := by rw [← size_list, ha, List.length_take]; omega
    have hbs : b.size ≤ 1100 := by rw [← size_list, hb, List.length_drop]; omega
    have hts : t.size ≤ 1100 := by rw [← size_list, ht]; have := trimL_len b.data.toList; rw [size_list] at this; omega
    have HA : Hid (a.size ≤ maxLen) := by show _ ≤ _; unfold maxLen; omega
    have HTS : Hid (t.size ≤ maxLen) := by show _ ≤ _; unfold maxLen; omega
    by_cases hc : chk1 (a.data.toList, t.data.toList) = 0
    · have HCH : Hid (chk1 (a.data.toList, t.data.toList) = 0) := hc
      rw [rdF_ok _ k hi (by rw [← ha, ← hb, ← ht]; exact hc), ← ha, ← hb, ← ht] at h
      simp only [Prod.mk.injEq] at h
      obtain ⟨⟨h1, h2⟩, rfl⟩ := h
      obtain rfl : a = x := mk_self x _ h1.symm
      obtain rfl : t = y := mk_self y _ h2.symm
      clear hi h1 h2 hc ha hb ht hk
      go_enter Tryd.func125, Tryd.ntmps125
      go_wp2_with fail
      refine (scut_at _ _ a b true HC.out m _ HM.out (by omega)).mono ?_
      rintro e w1 ⟨rfl, nd, rfl⟩
      have HG1 : Hid (((w.alloc (.cells #[.string ⟨#[]⟩, .string ⟨#[]⟩] 72)).drewN nd).heap[w.heap.size]? = some (.cells #[.string ⟨#[]⟩, .string ⟨#[]⟩] 72 (0, 0))) := pair_below HG0.out (drewN_below _ _ _)
      have HB1 := HB0.out.trans (drewN_below w.heap.size _ nd)
      go_wp2_with fail
      refine (trim_at b t HT.out _ (by omega)).mono ?_
      rintro e w2 ⟨rfl, hb2⟩
      have HG2 : Hid (w2.heap[w.heap.size]? = some (.cells #[.string ⟨#[]⟩, .string ⟨#[]⟩] 72 (0, 0))) := pair_below HG1.out hb2
      have HB2 := HB1.trans (hb2.mono HB1.size)
      have hl2 := HB2.size
      have HG3 : Hid ((w2.alloc (.cells #[.string a, .string t] 72)).heap[w.heap.size]? = some (.cells #[.string ⟨#[]⟩, .string ⟨#[]⟩] 72 (0, 0))) := pair_below HG2.out ((Below.refl _ w2).alloc (Nat.le_refl _) _)
      have HN3 : Hid ((w2.alloc (.cells #[.string a, .string t] 72)).heap[w2.heap.size]? = some (.cells #[.string a, .string t] 72 (0, 0))) := pair_new _ _ _ _
      have HB3 := HB2.alloc hl2 (.cells #[.string a, .string t] 72)
      clear hb2
      go_wp2_with fail
      refine (checkOne_any a t _ HA.out HTS.out).mono ?_
      rintro e w4 ⟨rfl, hb4⟩
      rw [HCH.out]
      have HG4 : Hid (w4.heap[w.heap.size]? = some (.cells #[.string ⟨#[]⟩, .string ⟨#[]⟩] 72 (0, 0))) := pair_below HG3.out hb4
      have HN4 : Hid (w4.heap[w2.heap.size]? = some (.cells #[.string a, .string t] 72 (0, 0))) := pair_below HN3.out hb4
      have HB4 := HB3.trans (hb4.mono HB3.size)
      obtain ⟨n1, n2, _, _, _⟩ := pair_all HN4.out
      clear hb4
      go_wp2_with fail
      refine (fclone_any a t _ (by omega) (by omega)).mono ?_
      rintro e w5 ⟨rfl, hb5⟩
      have HG5 : Hid (w5.heap[w.heap.size]? = some (.cells #[.string ⟨#[]⟩, .string ⟨#[]⟩] 72 (0, 0))) := pair_below HG4.out hb5
      have HB5 := HB4.trans (hb5.mono HB4.size)
      obtain ⟨g1, g2, g3, g4, g5⟩ := pair_all HG5.out
      clear hb5 n1 n2
      go_wp2_with fail
      refine bodyPost_ret (v := .tuple #[.agg #[.string a, .string t], .int .i64 0]) (by simp [results, Tryd.results125, go_sem, g1, g2]) rfl ⟨rfl, ?_⟩
      exact (HB5.setCell (p := ⟨w.heap.size, 0, none⟩) (Nat.le_refl _) _).setCell (p := ⟨w.heap.size, 1, none⟩) (Nat.le_refl _) _
    · rw [rdF_bad _ k hi (by rw [← ha, ← hb, ← ht]; exact hc), ← ha, ← hb, ← ht] at h
      simp only [Prod.mk.injEq] at h
      obtain ⟨⟨h1, h2⟩, hcc⟩ := h
      have HCH : Hid (chk1 (a.data.toList, t.data.toList) = c) := hcc
      have hcb : (c != 0) = true := by rw [← hcc]; simpa using hc
      obtain rfl : (⟨#[]⟩ : ByteArray) = x := mk_self x [] h1.symm
      obtain rfl : (⟨#[]⟩ : ByteArray) = y := mk_self y [] h2.symm
      clear hi h1 h2 hc ha hb ht hk hcc
      go_enter Tryd.func125, Tryd.ntmps125
      go_wp2_with fail
      refine (scut_at _ _ a b true HC.out m _ HM.out (by omega)).mono ?_
      rintro e w1 ⟨rfl, nd, rfl⟩
      have HG1 : Hid (((w.alloc (.cells #[.string ⟨#[]⟩, .string ⟨#[]⟩] 72)).drewN nd).heap[w.heap.size]? = some (.cells #[.string ⟨#[]⟩, .string ⟨#[]⟩] 72 (0, 0))) := pair_below HG0.out (drewN_below _ _ _)
      have HB1 := HB0.out.trans (drewN_below w.heap.size _ nd)
      go_wp2_with fail
      refine (trim_at b t HT.out _ (by omega)).mono ?_
      rintro e w2 ⟨rfl, hb2⟩
      have HG2 : Hid (w2.heap[w.heap.size]? = some (.cells #[.string ⟨#[]⟩, .string ⟨#[]⟩] 72 (0, 0))) := pair_below HG1.out hb2
      have HB2 := HB1.trans (hb2.mono HB1.size)
      have hl2 := HB2.size
      have HG3 : Hid ((w2.alloc (.cells #[.string a, .string t] 72)).heap[w.heap.size]? = some (.cells #[.string ⟨#[]⟩, .string ⟨#[]⟩] 72 (0, 0))) := pair_below HG2.out ((Below.refl _ w2).alloc (Nat.le_refl _) _)
      have HB3 := HB2.alloc hl2 (.cells #[.string a, .string t] 72)
      clear hb2
      go_wp2_with fail
      refine (checkOne_any a t _ HA.out HTS.out).mono ?_
      rintro e w4 ⟨rfl, hb4⟩
      rw [HCH.out]
      have HG4 : Hid (w4.heap[w.heap.size]? = some (.cells #[.string ⟨#[]⟩, .string ⟨#[]⟩] 72 (0, 0))) := pair_below HG3.out hb4
      have HB4 := HB3.trans (hb4.mono HB3.size)
      obtain ⟨g1, g2, g3, g4, g5⟩ := pair_all HG4.out
      clear hb4
      go_wp2_with fail
      refine bodyPost_ret (v := .tuple #[.agg #[.string ⟨#[]⟩, .string ⟨#[]⟩], .int .i64 c]) (by simp [results, Tryd.results125, go_sem, g1, g2]) rfl ⟨rfl, ?_⟩
      exact (HB4.setCell (p := ⟨w.heap.size, 0, none⟩) (Nat.le_refl _) _).setCell (p := ⟨w.heap.size, 1, none⟩) (Nat.le_refl _) _
end Go.Proofs.YtofafonppajfkaaDoor
