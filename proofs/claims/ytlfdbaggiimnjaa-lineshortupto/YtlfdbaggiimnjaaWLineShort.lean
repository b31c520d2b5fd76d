/-
  The walk through LineShort: it answers true and turns nothing that was there; the package variable that the library reads holds some number.
-/
import Derived.Test.YtlfdbaggiimnjaaWLineBack
import Derived.Test.YtlfdbaggiimnjaaWRestP
namespace Go.Proofs.Ytlfdbaggiimnjaa
open Go.RowKit

set_option maxHeartbeats 2000000 in
set_option maxRecDepth 100000 in
theorem walkLineShort (a0 : ByteArray) (a1 : Int) (w : World) (z0 : a0.size ≤ 1048576) (z1 : (Lit.int .i64 a1).wf = true) (hm : ∃ m, w.cell? ⟨0, 0, none⟩ = some (.int .i64 m)) :
    Calls Try.prog 4 #[.string a0, .int .i64 a1] w fun e w' => e = .returned (.bool true) ∧ Below w.heap.size w w' := by
  obtain ⟨m, hm⟩ := hm
  have HM : Hid (w.cell? ⟨0, 0, none⟩ = some (.int .i64 m)) := hm
  have HX : Hid ((Lit.int .i64 a1).wf = true) := z1
  clear hm z1
  rcases paR_two a0.data.toList with ⟨c, hc, hp⟩ | ⟨x', y', r, hx, hy, hs, hp⟩
  · have HP : Hid (paR a0.data.toList = (((⟨#[]⟩ : ByteArray).data.toList, (⟨#[]⟩ : ByteArray).data.toList), 0, c)) := hp
    have hcb : (c != 0) = true := by simpa using hc
    clear hc hp
    go_enter Try.func4, Try.ntmps4
    go_wp2_with fail
    refine (parseR_at a0 ⟨#[]⟩ ⟨#[]⟩ 0 c HP.out m _ HM.out (by omega)).mono ?_
    rintro e w1 ⟨rfl, hb1⟩
    have HM1 : Hid (w1.cell? ⟨0, 0, none⟩ = some (.int .i64 m)) := cell_keep hb1 HM.out
    go_wp2_with fail
    refine (parseR_nil m _ HM1.out).mono ?_
    rintro e w2 ⟨rfl, hb2⟩
    have hb := hb1.trans (hb2.mono hb1.size)
    clear hb1 hb2
    go_wp2_with fail
    go_ret
    exact ⟨ret_bool (by simp), hb⟩
  · obtain ⟨x, hxx⟩ : ∃ x : ByteArray, x.data.toList = x' := ⟨⟨x'.toArray⟩, rfl⟩
    obtain ⟨y, hyy⟩ : ∃ y : ByteArray, y.data.toList = y' := ⟨⟨y'.toArray⟩, rfl⟩
    subst hxx hyy
    obtain ⟨t, ht⟩ : ∃ t : ByteArray, t.data.toList = reqB x.data.toList y.data.toList ++ [13, 10] := ⟨⟨(reqB x.data.toList y.data.toList ++ [13, 10]).toArray⟩, rfl⟩
    have htl : (t.size : Int) = ((reqB x.data.toList y.data.toList).length : Int) + 2 := by
      rw [← size_list, ht, List.length_append]; simp
    have HP : Hid (paR a0.data.toList = ((x.data.toList, y.data.toList), (t.size : Int), 0)) := by show _ = _; rw [hp, htl]
    have HPR : Hid (prR x.data.toList y.data.toList = (t.data.toList, 0)) := by show _ = _; rw [ht]; exact prR_ok _ _ hx hy
    have hsz := size_list a0
    have hta : t.size ≤ a0.size := by
      rw [hs] at hsz
      simp only [List.length_append, List.length_cons] at hsz
      omega
    have hle := (reqB_le _ _ hx hy)
    have hts : t.size ≤ 242 ∧ 13 ≤ t.size := by omega
    obtain ⟨hts1, hts2⟩ := hts
    have hxl := (meth_is _ hx).2
    have hyl := (targ_is _ hy).2.2
    rw [size_list] at hxl hyl
    have H0 : Hid (x.size ≤ maxLen) := by show _ ≤ _; unfold maxLen; omega
    have H1 : Hid (y.size ≤ maxLen) := by show _ ≤ _; unfold maxLen; omega
    have hpre : a0.extract 0 t.size = t := by
      apply ByteArray.ext; apply Array.ext'
      rw [Lib.extract_data, List.drop_zero, Nat.sub_zero, hs, show reqB x.data.toList y.data.toList ++ 13 :: 10 :: r = t.data.toList ++ r by rw [ht]; simp]
      exact List.take_left' (size_list t)
    have heq : ((a0.extract 0 t.size).toList == t.toList) = true := by rw [hpre]; simp
    have HSH : Hid (∀ n, n < t.size → paR (t.data.toList.take n) = (([], []), 0, 8)) := by
      intro n hn
      rw [ht]
      exact paR_part _ _ hx hy n (by omega)
    have hti : (t.size : Int) ≤ (a0.size : Int) := by omega
    have ht0 : (0 : Int) ≤ (t.size : Int) := by omega
    have hgt : ¬ a0.size < t.size := by omega
    clear hx hy hs hp ht htl hsz hle hpre
    go_enter Try.func4, Try.ntmps4
    go_wp2_with fail
    refine (parseR_at a0 x y t.size 0 HP.out m _ HM.out (by omega)).mono ?_
    rintro e w1 ⟨rfl, hb1⟩
    have HM1 : Hid (w1.cell? ⟨0, 0, none⟩ = some (.int .i64 m)) := cell_keep hb1 HM.out
    go_wp2_with fail
    refine (parseR_nil m _ HM1.out).mono ?_
    rintro e w2 ⟨rfl, hb2⟩
    have hw2 := hb1.trans (hb2.mono hb1.size)
    have HM2 : Hid (w2.cell? ⟨0, 0, none⟩ = some (.int .i64 m)) := cell_keep hw2 HM.out
    clear hb1 hb2
    go_wp2_with fail
    refine (printR_at x y t 0 HPR.out _ H0.out H1.out).mono ?_
    rintro e w3 ⟨rfl, rfl⟩
    go_wp2_with fail
    refine (rest_pos a1 t.size (by omega) (by omega) HX.out _).mono ?_
    rintro e w4 ⟨k, hk, rfl, rfl⟩
    obtain ⟨s, hs⟩ : ∃ s : ByteArray, s = t.extract 0 k := ⟨_, rfl⟩
    have HS : Hid (t.extract 0 k = s) := hs.symm
    have hsd : s.data.toList = t.data.toList.take k := by rw [hs, Lib.extract_data, List.drop_zero]; rfl
    have hss : s.size ≤ 242 := by rw [hs, ByteArray.size_extract]; omega
    have HPA : Hid (paR s.data.toList = (((⟨#[]⟩ : ByteArray).data.toList, (⟨#[]⟩ : ByteArray).data.toList), 0, 8)) := by show _ = _; rw [hsd]; exact HSH.out k hk
    have hki : (k : Int) ≤ (t.size : Int) := by omega
    clear hs hsd
    go_wp2_with fail
    rw [HS.out]
    refine (parseR_at s ⟨#[]⟩ ⟨#[]⟩ 0 8 HPA.out m _ HM2.out (by omega)).mono ?_
    rintro e w5 ⟨rfl, hb5⟩
    have hb := hw2.trans (hb5.mono hw2.size)
    clear hb5 hw2
    go_wp2_with fail
    go_ret
    exact ⟨ret_bool (by simp), hb⟩
end Go.Proofs.Ytlfdbaggiimnjaa
