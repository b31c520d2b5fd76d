/-
  The walk through FieldBack: it answers true and turns nothing that was there; the package variable that the library reads holds some number.
-/
import Derived.Test.YtpkaajjkadillaaDoorWPrint2
import Derived.Test.YtpkaajjkadillaaDoorWParseB
import Derived.Test.YtpkaajjkadillaaDoorWEqF
namespace Go.Proofs.YtpkaajjkadillaaDoor
open Go.RowKit

set_option maxHeartbeats 2000000 in
set_option maxRecDepth 100000 in
theorem walkFieldBack (a0 : Value) (l0 : List Fld) (a1 : ByteArray) (w : World) (z0 : Fl w a0 l0) (m0 : Most maxLen l0) (z1 : a1.size ≤ 140737488351232) (hm : ∃ m, w.cell? ⟨0, 0, none⟩ = some (.int .i64 m)) :
    Calls Tryd.prog 4 #[a0, .string a1] w fun e w' => e = .returned (.bool true) ∧ Below w.heap.size w w' := by
  obtain ⟨m, hm⟩ := hm
  have HM : Hid (w.cell? ⟨0, 0, none⟩ = some (.int .i64 m)) := hm
  have HZ : Hid (Fl w a0 l0) := z0
  have HO : Hid (Most maxLen l0) := m0
  clear hm z0 m0
  obtain ⟨t, c, hp⟩ : ∃ (t : ByteArray) (c : Int), prtS l0 = (t.data.toList, c) := ⟨⟨(prtS l0).1.toArray⟩, (prtS l0).2, rfl⟩
  have HP : Hid (prtS l0 = (t.data.toList, c)) := hp
  by_cases hc : chk l0 = 0
  · rw [prtS_ok l0 hc, Prod.mk.injEq] at hp
    obtain ⟨ht, rfl⟩ := hp
    have hts : t.size ≤ 31022 := by
      rw [← size_list, ← ht, List.length_append]
      have := prt_take_len l0 hc l0.length
      rw [List.take_length] at this
      simp; omega
    obtain ⟨s, hs⟩ : ∃ s : ByteArray, s = t ++ a1 := ⟨_, rfl⟩
    have HS : Hid (t ++ a1 = s) := hs.symm
    have hss : s.size = t.size + a1.size := by rw [hs, ByteArray.size_append]
    have HPA : Hid (s.data.toList = prt l0 ++ 13 :: 10 :: a1.data.toList) := by
      show _ = _
      rw [hs, ByteArray.data_append, Array.toList_append, ← ht]; simp
    obtain ⟨hz1, hz2⟩ := chk_zero l0 hc
    have HALL : Hid (∀ x ∈ l0, chk1 x = 0) := chkL_all l0 hz2
    have HN : Hid ((s.size : Int) - (a1.size : Int) = (t.size : Int)) := by show _ = _; omega
    clear hz2
    clear hs ht hc
    go_enter Tryd.func4, Tryd.ntmps4
    go_wp2_with fail
    refine (print_at t 0 _ l0 HP.out _ HZ.out HO.out).mono ?_
    rintro e w1 ⟨rfl, hb1⟩
    have hs1 := hb1.size
    go_wp2_with fail
    refine (check_at 3 _ _ chk_zero1 _ (Fl.zero w1 _) Most.zero).mono ?_
    rintro e w2 ⟨rfl, hb2⟩
    have hw2 := (hb1.alloc hs1 (.cells #[.string ⟨#[]⟩, .string ⟨#[]⟩] 28)).trans (hb2.mono (by simp; omega))
    have HM2 : Hid (w2.cell? ⟨0, 0, none⟩ = some (.int .i64 m)) := cell_keep hw2 HM.out
    clear hb1 hb2 hs1
    go_wp2_with fail
    rw [HS.out]
    refine (parse_early s a1 l0 HPA.out HALL.out hz1 (by omega) m _ HM2.out).mono ?_
    rintro e w3 ⟨v, rfl, hown, hb3⟩
    rw [HN.out]
    have HF3 : Hid (Fl w3 v l0) := Fl.own hown
    have hw3 := hw2.trans (hb3.mono hw2.size)
    have HF0 : Hid (Fl w3 a0 l0) := HZ.out.below hw3
    clear hown hb3 hw2
    go_wp2_with fail
    refine (eqF_same _ _ _ _ HF0.out HF3.out).mono ?_
    rintro e w4 ⟨rfl, hb4⟩
    have hw4 := hw3.trans (hb4.mono hw3.size)
    go_wp2_with fail
    go_ret
    exact ⟨ret_bool (by simp), hw4⟩
  · have hc' := hc
    rw [prtS_bad l0 hc, Prod.mk.injEq] at hp
    obtain ⟨ht, hcc⟩ := hp
    obtain rfl : t = ⟨#[]⟩ := by apply ByteArray.ext; apply Array.ext'; exact ht.symm
    have HC : Hid (chk l0 = c) := hcc
    have hcb : (c != 0) = true := by rw [← hcc]; simpa using hc
    clear hc hc' ht hcc
    go_enter Tryd.func4, Tryd.ntmps4
    go_wp2_with fail
    refine (print_at ⟨#[]⟩ c _ l0 HP.out _ HZ.out HO.out).mono ?_
    rintro e w1 ⟨rfl, hb1⟩
    have hs1 := hb1.size
    go_wp2_with fail
    refine (check_at 3 _ _ chk_zero1 _ (Fl.zero w1 _) Most.zero).mono ?_
    rintro e w2 ⟨rfl, hb2⟩
    have hw2 := (hb1.alloc hs1 (.cells #[.string ⟨#[]⟩, .string ⟨#[]⟩] 28)).trans (hb2.mono (by simp; omega))
    clear hb1 hb2 hs1
    go_wp2_with fail
    refine (check_at c _ l0 HC.out _ (HZ.out.below hw2) HO.out).mono ?_
    rintro e w3 ⟨rfl, hb3⟩
    have hw3 := hw2.trans (hb3.mono hw2.size)
    go_wp2_with fail
    go_ret
    exact ⟨ret_bool (by simp), hw3⟩
end Go.Proofs.YtpkaajjkadillaaDoor
