/-
  The walk through LineBack: it answers true and turns nothing that was there; the package variable that the library reads holds some number.
-/
import Derived.Test.YtlfdbaggiimnjaaWLn3
import Derived.Test.YtlfdbaggiimnjaaWEarly
namespace Go.Proofs.Ytlfdbaggiimnjaa
open Go.RowKit

theorem parseR_nil (m : Int) (w : World) (hm : w.cell? ⟨0, 0, none⟩ = some (.int .i64 m)) :
    Calls Try.prog 6 #[.string ⟨#[]⟩] w fun e w' => e = .returned (.tuple #[.string ⟨#[]⟩, .string ⟨#[]⟩, .int .i64 0, .int .i64 8]) ∧ Below w.heap.size w w' :=
  parseR_at ⟨#[]⟩ ⟨#[]⟩ ⟨#[]⟩ 0 8 paR_nil m w hm (by decide)

set_option maxHeartbeats 2000000 in
set_option maxRecDepth 100000 in
theorem walkLineBack (a0 a1 a2 : ByteArray) (w : World) (z0 : a0.size ≤ 140737488351232) (z1 : a1.size ≤ 140737488351232) (z2 : a2.size ≤ 140737488351232) (hm : ∃ m, w.cell? ⟨0, 0, none⟩ = some (.int .i64 m)) :
    Calls Try.prog 3 #[.string a0, .string a1, .string a2] w fun e w' => e = .returned (.bool true) ∧ Below w.heap.size w w' := by
  obtain ⟨m, hm⟩ := hm
  have HM : Hid (w.cell? ⟨0, 0, none⟩ = some (.int .i64 m)) := hm
  have H0 : Hid (a0.size ≤ maxLen) := by show _ ≤ _; unfold maxLen; omega
  have H1 : Hid (a1.size ≤ maxLen) := by show _ ≤ _; unfold maxLen; omega
  clear hm
  cases hok : meth a0.data.toList && targ a1.data.toList
  · have HP : Hid (prR a0.data.toList a1.data.toList = ((⟨#[]⟩ : ByteArray).data.toList, 3)) := prR_no _ _ hok
    clear hok
    go_enter Try.func3, Try.ntmps3
    go_wp2_with fail
    refine (printR_at a0 a1 ⟨#[]⟩ 3 HP.out _ H0.out H1.out).mono ?_
    rintro e w1 ⟨rfl, rfl⟩
    go_wp2_with fail
    refine (parseR_nil m _ HM.out).mono ?_
    rintro e w2 ⟨rfl, hb2⟩
    go_wp2_with fail
    go_ret
    exact ⟨ret_bool (by simp), hb2⟩
  · rw [Bool.and_eq_true] at hok
    obtain ⟨hx, hy⟩ := hok
    obtain ⟨l, hl⟩ : ∃ l : ByteArray, l.data.toList = reqB a0.data.toList a1.data.toList := ⟨⟨(reqB a0.data.toList a1.data.toList).toArray⟩, rfl⟩
    obtain ⟨t, ht⟩ : ∃ t : ByteArray, t.data.toList = reqB a0.data.toList a1.data.toList ++ [13, 10] := ⟨⟨(reqB a0.data.toList a1.data.toList ++ [13, 10]).toArray⟩, rfl⟩
    have HP : Hid (prR a0.data.toList a1.data.toList = (t.data.toList, 0)) := by show _ = _; rw [ht]; exact prR_ok _ _ hx hy
    obtain ⟨hle, hge⟩ := reqB_le _ _ hx hy
    have hls : l.size ≤ 240 := by rw [← size_list, hl]; exact hle
    have htl : t.size = l.size + 2 := by rw [← size_list, ← size_list, ht, hl, List.length_append]; rfl
    have hts : (t ++ a2).size = t.size + a2.size := ByteArray.size_append
    have HL : Hid (l.data.toList = reqB a0.data.toList a1.data.toList) := hl
    have HTR : Hid ((t ++ a2).data.toList = l.data.toList ++ 13 :: 10 :: a2.data.toList) := by
      show _ = _
      rw [ByteArray.data_append, Array.toList_append, ht, hl]; simp
    have HNE : Hid (l.data.toList ≠ []) := by
      intro e; rw [← hl, e] at hge; simp at hge
    have HNO : Hid (∀ c ∈ l.data.toList, c ≠ 13) := by show ∀ c ∈ l.data.toList, c ≠ 13; rw [hl]; exact reqB_no13 _ _ hx hy
    have HX : Hid (meth a0.data.toList = true) := hx
    have HY : Hid (targ a1.data.toList = true) := hy
    have hem : t.toList.isEmpty = false := by
      rw [ByteArray.toList_eq, isEmpty_size]; exact decide_eq_false (by omega)
    have hsub : ((t ++ a2).size : Int) - (a2.size : Int) = (t.size : Int) := by omega
    have HSZ : Hid ((t ++ a2).size ≤ 281474976710656) := by show _ ≤ _; omega
    have HSB : Hid (a2.size ≤ (t ++ a2).size) := by show _ ≤ _; omega
    have HSUB : Hid (((t ++ a2).size : Int) - (a2.size : Int) = (t.size : Int)) := hsub
    have hts3 : t.size ≤ 300 := by omega
    clear hx hy hl ht hle hge hsub hts
    go_enter Try.func3, Try.ntmps3
    go_wp2_with fail
    refine (printR_at a0 a1 t 0 HP.out _ H0.out H1.out).mono ?_
    rintro e w1 ⟨rfl, rfl⟩
    go_wp2_with fail
    refine (parseR_nil m _ HM.out).mono ?_
    rintro e w2 ⟨rfl, hb2⟩
    have HM2 : Hid (w2.cell? ⟨0, 0, none⟩ = some (.int .i64 m)) := cell_keep hb2 HM.out
    go_wp2_with fail
    refine (parseR_of (t ++ a2) l a2 a0 a1 HL.out HX.out HY.out HSZ.out HSB.out m _ HM2.out (fun W hW => by subst hW; exact cutLine_of (t ++ a2) l a2 300 (by omega) _ fun W hW => by subst hW; exact scut_early (t ++ a2) l a2 HTR.out HNE.out HNO.out m _ HM2.out HSZ.out)).mono ?_
    rintro e w3 ⟨rfl, hb3⟩
    rw [HSUB.out]
    have hb := hb2.trans (hb3.mono hb2.size)
    clear hb2 hb3
    go_wp2_with fail
    go_ret
    exact ⟨ret_bool (by simp), hb⟩
end Go.Proofs.Ytlfdbaggiimnjaa
