/-
  The walk through BodyBack: it answers true and turns nothing that was there; the table that the library reads is laid, and the package variable that it reads holds some number.
-/
import Derived.Test.YtofafonppajfkaaDoorWBodyShort
import Derived.Test.YtofafonppajfkaaDoorWEnc
import Derived.Test.YtofafonppajfkaaDoorSpecBb
namespace Go.Proofs.YtofafonppajfkaaDoor
open Go.RowKit

theorem encE_no (l : List UInt8) (size : Int) : (∃ c, c ≠ 0 ∧ encE l size = ([], c)) ∨ (encE l size = (encS (size - 1).toNat l, 0) ∧ l.length ≤ 5000) := by
  unfold encE
  by_cases h1 : size < 1
  · rw [if_pos h1]; exact .inl ⟨1, by decide, rfl⟩
  · rw [if_neg h1]
    by_cases h2 : 5000 < l.length
    · rw [if_pos h2]; exact .inl ⟨2, by decide, rfl⟩
    · rw [if_neg h2]; exact .inr ⟨rfl, by omega⟩
set_option maxHeartbeats 2000000 in
set_option maxRecDepth 100000 in
theorem walkBodyBack (a0 : ByteArray) (a1 : Int) (a2 : ByteArray) (w : World) (_z0 : a0.size ≤ 140737488351232) (z1 : (Lit.int .i64 a1).wf = true) (z2 : a2.size ≤ 140737488351232) (hm : ∃ m, w.cell? ⟨0, 0, none⟩ = some (.int .i64 m)) (hh : HTab w) :
    Calls Tryd.prog 7 #[.string a0, .int .i64 a1, .string a2] w fun e w' => e = .returned (.bool true) ∧ Below w.heap.size w w' := by
  obtain ⟨m, hm⟩ := hm
  have hb : -9223372036854775808 ≤ a1 ∧ a1 ≤ 9223372036854775807 := by simpa [Lit.wf, IntKind.min, IntKind.max, IntKind.signed, IntKind.bits] using z1
  have HM : Hid (w.cell? ⟨0, 0, none⟩ = some (.int .i64 m)) := hm
  have HH : Hid (HTab w) := hh
  have HB : Hid (a1 ≤ 9223372036854775807) := hb.2
  clear hm hh hb z1
  rcases encE_no a0.data.toList a1 with ⟨c, hc, he⟩ | ⟨he, hl⟩
  · have HX : Hid (encE a0.data.toList a1 = ((⟨#[]⟩ : ByteArray).data.toList, c)) := he
    have hcb : (c != 0) = true := by simpa using hc
    clear hc he
    go_enter Tryd.func7, Tryd.ntmps7
    go_wp2_with fail
    refine (encode_at a0 ⟨#[]⟩ a1 c HX.out HB.out _ HH.out).mono ?_
    rintro e w1 ⟨rfl, hb1⟩
    have HM1 : Hid (w1.cell? ⟨0, 0, none⟩ = some (.int .i64 m)) := cell_keep hb1 HM.out
    go_wp2_with fail
    refine (decode_x m _ HM1.out).mono ?_
    rintro e w2 ⟨rfl, hb2⟩
    have hbb := hb1.trans (hb2.mono hb1.size)
    clear hb1 hb2
    go_wp2_with fail
    go_ret
    exact ⟨ret_bool (by simp), hbb⟩
  · obtain ⟨t, ht⟩ : ∃ t : ByteArray, t.data.toList = encS (a1 - 1).toNat a0.data.toList := ⟨⟨(encS (a1 - 1).toNat a0.data.toList).toArray⟩, rfl⟩
    have HX : Hid (encE a0.data.toList a1 = (t.data.toList, 0)) := by show _ = _; rw [he, ht]
    have htl : t.size ≤ 9 * a0.size + 5 := by rw [← size_list, ht, ← size_list a0]; exact encS_len _ _ _ (Nat.le_refl _) hl
    have hts : (t ++ a2).size = t.size + a2.size := ByteArray.size_append
    obtain ⟨e1, e2, e3, e4⟩ := enc_run (a1 - 1).toNat a2.data.toList a0.data.toList.length a0.data.toList [] 0 (Nat.le_refl _) (by simpa using hl)
    have HA : Hid (ans (runD start (t ++ a2).data.toList 0) = (a0.data.toList, t.size, 0)) := by
      show _ = _
      rw [ByteArray.data_append, Array.toList_append, ht, show start = D (.num 0 0) [] from rfl, ans_ok e1 e2, e3, e4, Nat.zero_add, ← ht, size_list]
      rfl
    rw [size_list] at hl
    have HSZ : Hid ((t ++ a2).size ≤ maxLen) := by show _ ≤ _; unfold maxLen; omega
    have hns : ¬ 9223372036854775807 < t.size + a2.size := by omega
    clear he ht htl hts e1 e2 e3 e4
    go_enter Tryd.func7, Tryd.ntmps7
    go_wp2_with fail
    refine (encode_at a0 t a1 0 HX.out HB.out _ HH.out).mono ?_
    rintro e w1 ⟨rfl, hb1⟩
    have HM1 : Hid (w1.cell? ⟨0, 0, none⟩ = some (.int .i64 m)) := cell_keep hb1 HM.out
    go_wp2_with fail
    refine (decode_x m _ HM1.out).mono ?_
    rintro e w2 ⟨rfl, hb2⟩
    have hbb := hb1.trans (hb2.mono hb1.size)
    have HM2 : Hid (w2.cell? ⟨0, 0, none⟩ = some (.int .i64 m)) := cell_keep hbb HM.out
    clear hb1 hb2
    go_wp2_with fail
    refine (decode_at (t ++ a2) a0 t.size 0 m HA.out _ HSZ.out HM2.out).mono ?_
    rintro e w3 ⟨rfl, hb3⟩
    have hbc := hbb.trans (hb3.mono hbb.size)
    clear hbb hb3
    go_wp2_with fail
    go_ret
    exact ⟨ret_bool (by simp), hbc⟩
end Go.Proofs.YtofafonppajfkaaDoor
