/-
  The walk through FieldAgain: it answers true and turns nothing that was there; the text has at most 1048576 bytes, and the package variable that the library reads holds some number.
-/
import Derived.Test.YtpkaajjkadillaaDoorWPrint2
import Derived.Test.YtpkaajjkadillaaDoorWEqF
namespace Go.Proofs.YtpkaajjkadillaaDoor
open Go.RowKit

set_option maxHeartbeats 4000000 in
set_option maxRecDepth 100000 in
theorem walkFieldAgain (a0 : ByteArray) (w : World) (z0 : a0.size ≤ 1048576) (hm : ∃ m, w.cell? ⟨0, 0, none⟩ = some (.int .i64 m)) :
    Calls Tryd.prog 5 #[.string a0] w fun e w' => e = .returned (.bool true) ∧ Below w.heap.size w w' := by
  obtain ⟨m, hm⟩ := hm
  have HM : Hid (w.cell? ⟨0, 0, none⟩ = some (.int .i64 m)) := hm
  clear hm
  obtain ⟨fs, rest, c, hp⟩ : ∃ (fs : List Fld) (rest : List UInt8) (c : Int), parS a0.data.toList [] = (fs, rest, c) := ⟨_, _, _, rfl⟩
  have HP : Hid (parS a0.data.toList [] = (fs, rest, c)) := hp
  obtain ⟨hbad, hok⟩ := parS_is _ _ _ _ hp
  have hal := size_list a0
  have HE : Hid (parS (⟨#[]⟩ : ByteArray).data.toList [] = ([], [], 8)) := by show _ = _; exact par_none _ _ rfl
  have HEN : Hid (parN (⟨#[]⟩ : ByteArray).data.toList = 0) := by show _ = _; unfold parN; rw [HE.out]; rfl
  by_cases hc : c = 0
  · subst hc
    obtain ⟨hch, hrl⟩ := hok rfl
    rw [hal] at hrl
    obtain ⟨n, hn⟩ : ∃ n : Int, n = (a0.size : Int) - (rest.length : Int) := ⟨_, rfl⟩
    have HN : Hid (parN a0.data.toList = n) := by show _ = _; unfold parN; rw [HP.out, if_pos rfl, hal, hn]
    have hn1 : n ≤ (a0.size : Int) := by omega
    have hn2 : 2 ≤ n := by omega
    have HMo : Hid (Most maxLen fs) := by
      intro x hx
      have := chk_short fs hch x hx
      unfold maxLen
      omega
    obtain ⟨t, ht⟩ : ∃ t : ByteArray, t.data.toList = prt fs ++ [13, 10] := ⟨⟨(prt fs ++ [13, 10]).toArray⟩, rfl⟩
    have HPR : Hid (prtS fs = (t.data.toList, 0)) := by show _ = _; rw [ht]; exact prtS_ok fs hch
    have hts : t.size ≤ 31022 := by
      rw [← size_list, ht, List.length_append]
      have := prt_take_len fs hch fs.length
      rw [List.take_length] at this
      simp; omega
    have HPT : Hid (parS t.data.toList [] = (fs, [], 0)) := by
      have := par_back fs [] hch
      rw [List.append_nil] at this
      show _ = _; rw [ht]; exact this
    have HTN : Hid (parN t.data.toList = (t.size : Int)) := by
      show _ = _; unfold parN; rw [HPT.out, if_pos rfl, size_list]; simp
    clear hp hbad hok hch hrl hn ht hal
    go_enter Tryd.func5, Tryd.ntmps5
    go_wp2_with fail
    refine (parse_at a0 fs rest 0 n HP.out HN.out m _ HM.out (by omega)).mono ?_
    rintro e w1 ⟨v, rfl, hown1, hb1⟩
    have HF1 : Hid (Fl w1 v fs) := Fl.own hown1
    have HM1 : Hid (w1.cell? ⟨0, 0, none⟩ = some (.int .i64 m)) := cell_keep hb1 HM.out
    clear hown1
    go_wp2_with fail
    refine (parse_at ⟨#[]⟩ [] [] 8 0 HE.out HEN.out m _ HM1.out (by decide)).mono ?_
    rintro e w2 ⟨v2, rfl, hown2, hb2⟩
    have hw2 := hb1.trans (hb2.mono hb1.size)
    have HF2 : Hid (Fl w2 v fs) := HF1.out.below hb2
    have HM2 : Hid (w2.cell? ⟨0, 0, none⟩ = some (.int .i64 m)) := cell_keep hw2 HM.out
    clear hown2 hb2 hb1
    go_wp2_with fail
    refine (print_at t 0 _ fs HPR.out _ HF2.out HMo.out).mono ?_
    rintro e w3 ⟨rfl, hb3⟩
    have hw3 := hw2.trans (hb3.mono hw2.size)
    have HF3 : Hid (Fl w3 v fs) := HF2.out.below hb3
    have HM3 : Hid (w3.cell? ⟨0, 0, none⟩ = some (.int .i64 m)) := cell_keep hw3 HM.out
    clear hb3 hw2
    go_wp2_with fail
    refine (parse_at t fs [] 0 _ HPT.out HTN.out m _ HM3.out (by omega)).mono ?_
    rintro e w4 ⟨v4, rfl, hown4, hb4⟩
    have hw4 := hw3.trans (hb4.mono hw3.size)
    have HF4 : Hid (Fl w4 v fs) := HF3.out.below hb4
    have HG4 : Hid (Fl w4 v4 fs) := Fl.own hown4
    clear hown4 hb4 hw3
    have hd1 : decide (n ≤ (a0.size : Int)) = true := decide_eq_true hn1
    have hd2 : decide (2 ≤ n) = true := decide_eq_true hn2
    go_wp2_with fail
    refine (eqF_same _ _ _ _ HF4.out HG4.out).mono ?_
    rintro e w5 ⟨rfl, hb5⟩
    have hw5 := hw4.trans (hb5.mono hw4.size)
    go_wp2_with fail
    go_ret
    exact ⟨ret_bool (by simp), hw5⟩
  · have hfs := hbad hc
    subst hfs
    have HN : Hid (parN a0.data.toList = 0) := by show _ = _; unfold parN; rw [HP.out, if_neg hc]
    have hcb : (c != 0) = true := by simpa using hc
    clear hp hbad hok hc hal
    go_enter Tryd.func5, Tryd.ntmps5
    go_wp2_with fail
    refine (parse_at a0 [] rest c 0 HP.out HN.out m _ HM.out (by omega)).mono ?_
    rintro e w1 ⟨v, rfl, hown1, hb1⟩
    obtain ⟨ad, cap, hv, hcm, hnc, hcx⟩ := own_form2 hown1
    subst hv
    have HM1 : Hid (w1.cell? ⟨0, 0, none⟩ = some (.int .i64 m)) := cell_keep hb1 HM.out
    clear hown1 hcx
    go_wp2_with fail
    refine (parse_at ⟨#[]⟩ [] [] 8 0 HE.out HEN.out m _ HM1.out (by decide)).mono ?_
    rintro e w2 ⟨v2, rfl, hown2, hb2⟩
    have hw2 := hb1.trans (hb2.mono hb1.size)
    clear hown2 hb2 hb1
    go_wp2_with fail
    go_ret
    exact ⟨ret_bool (by simp), hw2⟩
end Go.Proofs.YtpkaajjkadillaaDoor
