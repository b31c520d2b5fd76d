/-
  The walk through LineStatusBack: it answers true and turns nothing that was there; the package variable that the library's search reads holds some number, and the listed variables of package strconv hold what their text lays.
-/
import Derived.Test.YtlfdbaggiimnjaaDoorWLs3
import Derived.Test.YtlfdbaggiimnjaaDoorWEarly
namespace Go.Proofs.YtlfdbaggiimnjaaDoor
open Go.RowKit

theorem parseS_nil (m : Int) (w : World) (hm : w.cell? ⟨0, 0, none⟩ = some (.int .i64 m)) (hT : STabs w) :
    Calls Tryd.prog 12 #[.string ⟨#[]⟩] w fun e w' => e = .returned (.tuple #[.int .i64 0, .string ⟨#[]⟩, .int .i64 0, .int .i64 8]) ∧ Below w.heap.size w w' :=
  parseS_at ⟨#[]⟩ ⟨#[]⟩ 0 0 8 paS_nil m w hm hT (by decide)

set_option maxHeartbeats 2000000 in
set_option maxRecDepth 100000 in
theorem walkLineStatusBack (a0 : Int) (a1 a2 : ByteArray) (w : World) (_z0 : (Lit.int .i64 a0).wf = true) (z1 : a1.size ≤ 140737488351232) (z2 : a2.size ≤ 140737488351232) (hm : ∃ m, w.cell? ⟨0, 0, none⟩ = some (.int .i64 m)) (hT : STabs w) :
    Calls Tryd.prog 5 #[.int .i64 a0, .string a1, .string a2] w fun e w' => e = .returned (.bool true) ∧ Below w.heap.size w w' := by
  obtain ⟨m, hm⟩ := hm
  have HM : Hid (w.cell? ⟨0, 0, none⟩ = some (.int .i64 m)) := hm
  have HT : Hid (STabs w) := hT
  have H1 : Hid (a1.size ≤ maxLen) := by show _ ≤ _; unfold maxLen; omega
  clear hm hT _z0
  by_cases hok : codeB a0 = true ∧ reas a1.data.toList = true
  · obtain ⟨hv, hx⟩ := hok
    obtain ⟨l, hl⟩ := ba (stB a0 a1.data.toList)
    obtain ⟨t, ht⟩ := ba (stB a0 a1.data.toList ++ [13, 10])
    have HP : Hid (prS a0 a1.data.toList = (t.data.toList, 0)) := by show _ = _; rw [ht]; exact prS_ok _ _ hv hx
    have hxl := (reas_is _ hx).2
    have hls : l.size ≤ 113 ∧ 13 ≤ l.size := by rw [← size_list, hl, stB_len]; omega
    obtain ⟨hls, hge⟩ := hls
    have htl : t.size = l.size + 2 := by rw [← size_list, ← size_list, ht, hl, List.length_append]; rfl
    have hts : (t ++ a2).size = t.size + a2.size := ByteArray.size_append
    have HL : Hid (l.data.toList = stB a0 a1.data.toList) := hl
    have HTR : Hid ((t ++ a2).data.toList = l.data.toList ++ 13 :: 10 :: a2.data.toList) := by
      show _ = _
      rw [ByteArray.data_append, Array.toList_append, ht, hl]; simp
    have HNO : Hid (∀ c ∈ l.data.toList, c ≠ 13) := by show ∀ c ∈ l.data.toList, c ≠ 13; rw [hl]; exact stB_no13 _ _ hv hx
    have HV : Hid (codeB a0 = true) := hv
    have HX : Hid (reas a1.data.toList = true) := hx
    have hsub : ((t ++ a2).size : Int) - (a2.size : Int) = (t.size : Int) := by omega
    have HSZ : Hid ((t ++ a2).size ≤ 281474976710656) := by show _ ≤ _; omega
    have HSB : Hid (a2.size ≤ (t ++ a2).size) := by show _ ≤ _; omega
    have HSUB : Hid (((t ++ a2).size : Int) - (a2.size : Int) = (t.size : Int)) := hsub
    have hts3 : t.size ≤ 300 := by omega
    clear hv hx hl ht hge hsub hts hxl
    go_enter Tryd.func5, Tryd.ntmps5
    go_wp2_with fail
    refine (printS_at a0 a1 t 0 HP.out _ H1.out HT.out).mono ?_
    rintro e w1 ⟨rfl, hb1⟩
    have HM1 : Hid (w1.cell? ⟨0, 0, none⟩ = some (.int .i64 m)) := cell_keep hb1 HM.out
    go_wp2_with fail
    refine (parseS_nil m _ HM1.out (HT.out.below hb1)).mono ?_
    rintro e w2 ⟨rfl, hb2⟩
    have hw2 := hb1.trans (hb2.mono hb1.size)
    have HM2 : Hid (w2.cell? ⟨0, 0, none⟩ = some (.int .i64 m)) := cell_keep hw2 HM.out
    clear hb1 hb2
    go_wp2_with fail
    refine (parseS_of (t ++ a2) l a2 a1 a0 HL.out HV.out HX.out HSZ.out HSB.out m _ HM2.out (HT.out.below hw2) (fun W hW => by subst hW; exact cutLine_of (t ++ a2) l a2 300 (by omega) _ fun W hW => by subst hW; exact scut_early (t ++ a2) l a2 HTR.out HNO.out m _ HM2.out HSZ.out)).mono ?_
    rintro e w3 ⟨rfl, hb3⟩
    rw [HSUB.out]
    have hb := hw2.trans (hb3.mono hw2.size)
    clear hw2 hb3
    go_wp2_with fail
    go_ret
    exact ⟨ret_bool (by simp), hb⟩
  · obtain ⟨c, hc, hp⟩ : ∃ c : Int, c ≠ 0 ∧ prS a0 a1.data.toList = ([], c) := by
      cases h1 : codeB a0
      · exact ⟨1, by decide, prS_arg _ _ h1⟩
      · cases h2 : reas a1.data.toList
        · exact ⟨3, by decide, prS_syn _ _ h1 h2⟩
        · exact absurd ⟨h1, h2⟩ hok
    have HP : Hid (prS a0 a1.data.toList = ((⟨#[]⟩ : ByteArray).data.toList, c)) := hp
    have hcb : (c != 0) = true := by simpa using hc
    clear hok hc hp
    go_enter Tryd.func5, Tryd.ntmps5
    go_wp2_with fail
    refine (printS_at a0 a1 ⟨#[]⟩ c HP.out _ H1.out HT.out).mono ?_
    rintro e w1 ⟨rfl, hb1⟩
    have HM1 : Hid (w1.cell? ⟨0, 0, none⟩ = some (.int .i64 m)) := cell_keep hb1 HM.out
    go_wp2_with fail
    refine (parseS_nil m _ HM1.out (HT.out.below hb1)).mono ?_
    rintro e w2 ⟨rfl, hb2⟩
    have hb := hb1.trans (hb2.mono hb1.size)
    clear hb1 hb2
    go_wp2_with fail
    go_ret
    exact ⟨ret_bool (by simp), hb⟩
end Go.Proofs.YtlfdbaggiimnjaaDoor
