/-
  The walk through FieldShort: it answers true and turns nothing that was there; the package variable that the library reads holds some number.
-/
import Derived.Test.YtpkaajjkadillaaDoorWPrint2
import Derived.Test.YtpkaajjkadillaaDoorWRestP
namespace Go.Proofs.YtpkaajjkadillaaDoor
open Go.RowKit

set_option maxHeartbeats 2000000 in
set_option maxRecDepth 100000 in
theorem walkFieldShort (a0 : Value) (l0 : List Fld) (a1 : Int) (w : World) (z0 : Fl w a0 l0) (m0 : Most maxLen l0) (z1 : (Lit.int .i64 a1).wf = true) (hm : ∃ m, w.cell? ⟨0, 0, none⟩ = some (.int .i64 m)) :
    Calls Tryd.prog 6 #[a0, .int .i64 a1] w fun e w' => e = .returned (.bool true) ∧ Below w.heap.size w w' := by
  obtain ⟨m, hm⟩ := hm
  have HM : Hid (w.cell? ⟨0, 0, none⟩ = some (.int .i64 m)) := hm
  have HZ : Hid (Fl w a0 l0) := z0
  have HO : Hid (Most maxLen l0) := m0
  have HX : Hid ((Lit.int .i64 a1).wf = true) := z1
  clear hm z0 m0 z1
  obtain ⟨t, c, hp⟩ : ∃ (t : ByteArray) (c : Int), prtS l0 = (t.data.toList, c) := ⟨⟨(prtS l0).1.toArray⟩, (prtS l0).2, rfl⟩
  have HP : Hid (prtS l0 = (t.data.toList, c)) := hp
  by_cases hc : chk l0 = 0
  · rw [prtS_ok l0 hc, Prod.mk.injEq] at hp
    obtain ⟨ht, rfl⟩ := hp
    have htl := size_list t
    have hts : t.size ≤ 31022 := by
      rw [← size_list, ← ht, List.length_append]
      have := prt_take_len l0 hc l0.length
      rw [List.take_length] at this
      simp; omega
    have hts0 : 2 ≤ t.size := by rw [← size_list, ← ht, List.length_append]; simp
    have hem : t.toList.isEmpty = false := by
      rw [ByteArray.toList_eq, isEmpty_size]; exact decide_eq_false (by omega)
    have HSH : Hid (∀ n, n < t.size → parS (t.data.toList.take n) [] = ([], [], 8)) := by
      intro n hn
      obtain ⟨h1, h2⟩ := chk_zero l0 hc
      rw [← ht]
      exact par_short l0 [] n (chkL_all l0 h2) (by simpa using h1) (by rw [ht, htl]; exact hn)
    clear ht hc htl
    go_enter Tryd.func6, Tryd.ntmps6
    go_wp2_with fail
    refine (print_at t 0 _ l0 HP.out _ HZ.out HO.out).mono ?_
    rintro e w1 ⟨rfl, hb1⟩
    have hs1 := hb1.size
    go_wp2_with fail
    refine (check_at 3 _ _ chk_zero1 _ (Fl.zero w1 _) Most.zero).mono ?_
    rintro e w2 ⟨rfl, hb2⟩
    have hw2 := (hb1.alloc hs1 (.cells #[.string ⟨#[]⟩, .string ⟨#[]⟩] 28)).trans (hb2.mono (by simp; omega))
    have HM2 : Hid (w2.cell? ⟨0, 0, none⟩ = some (.int .i64 m)) := cell_keep hw2 HM.out
    clear hb1 hb2 hs1
    go_wp2_with fail
    refine (rest_pos a1 t.size (by omega) (by omega) HX.out _).mono ?_
    rintro e w3 ⟨k, hk, rfl, rfl⟩
    obtain ⟨s, hs⟩ : ∃ s : ByteArray, s = t.extract 0 k := ⟨_, rfl⟩
    have HS : Hid (t.extract 0 k = s) := hs.symm
    have hsd : s.data.toList = t.data.toList.take k := by rw [hs, Lib.extract_data, List.drop_zero]; rfl
    have hss : s.size ≤ 31022 := by rw [hs, ByteArray.size_extract]; omega
    have HPA : Hid (parS s.data.toList [] = ([], [], 8)) := by show _ = _; rw [hsd]; exact HSH.out k hk
    have HPN : Hid (parN s.data.toList = 0) := by show _ = _; unfold parN; rw [HPA.out]; rfl
    have hki : (k : Int) ≤ (t.size : Int) := by omega
    clear hs hsd
    go_wp2_with fail
    rw [HS.out]
    refine (parse_at s [] [] 8 0 HPA.out HPN.out m _ HM2.out (by omega)).mono ?_
    rintro e w4 ⟨v, rfl, hown, hb4⟩
    obtain ⟨ad, cap, hv, hcm, hnc, hcx⟩ := own_form2 hown
    subst hv
    have hw4 := hw2.trans (hb4.mono hw2.size)
    clear hcx hown hb4 hw2
    go_wp2_with fail
    go_ret
    exact ⟨ret_bool (by simp), hw4⟩
  · rw [prtS_bad l0 hc, Prod.mk.injEq] at hp
    obtain ⟨ht, hcc⟩ := hp
    obtain rfl : t = ⟨#[]⟩ := by apply ByteArray.ext; apply Array.ext'; exact ht.symm
    have hcb : (c != 0) = true := by rw [← hcc]; simpa using hc
    clear hc ht hcc
    go_enter Tryd.func6, Tryd.ntmps6
    go_wp2_with fail
    refine (print_at ⟨#[]⟩ c _ l0 HP.out _ HZ.out HO.out).mono ?_
    rintro e w1 ⟨rfl, hb1⟩
    have hs1 := hb1.size
    go_wp2_with fail
    refine (check_at 3 _ _ chk_zero1 _ (Fl.zero w1 _) Most.zero).mono ?_
    rintro e w2 ⟨rfl, hb2⟩
    have hw2 := (hb1.alloc hs1 (.cells #[.string ⟨#[]⟩, .string ⟨#[]⟩] 28)).trans (hb2.mono (by simp; omega))
    clear hb1 hb2 hs1
    go_wp2_with fail
    go_ret
    exact ⟨rfl, hw2⟩
end Go.Proofs.YtpkaajjkadillaaDoor
