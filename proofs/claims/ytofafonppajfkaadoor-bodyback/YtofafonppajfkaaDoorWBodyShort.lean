/-
  The walk through BodyShort: it answers true and turns nothing that was there; the package variable that the library reads holds some number.
-/
import Derived.Test.YtofafonppajfkaaDoorWDd
import Derived.Test.YtofafonppajfkaaDoorWRestB
namespace Go.Proofs.YtofafonppajfkaaDoor
open Go.RowKit

theorem decode_x (m : Int) (w : World) (hm : w.cell? ⟨0, 0, none⟩ = some (.int .i64 m)) :
    Calls Tryd.prog 13 #[.string ⟨#[120]⟩] w fun e w' => e = .returned (.tuple #[.string ⟨#[]⟩, .int .i64 0, .int .i64 3]) ∧ Below w.heap.size w w' :=
  decode_at ⟨#[120]⟩ ⟨#[]⟩ 0 3 m (by decide) w (by decide) hm
theorem ans_cases (s : List UInt8) : (∃ c, c ≠ 0 ∧ ans (runD start s 0) = ([], 0, c)) ∨ (∃ t n, ans (runD start s 0) = (t, n, 0) ∧ 0 < n ∧ n ≤ s.length ∧ ∀ j, j < n → ans (runD start (s.take j) 0) = ([], 0, 8)) := by
  by_cases h0 : (runD start s 0).1 = 0
  · cases hd : (runD start s 0).2.2.done
    · exact .inl ⟨8, by decide, ans_short h0 hd⟩
    · have hl := run_done s start 0 rfl h0 hd
      refine .inr ⟨_, _, ans_ok h0 hd, hl.1, by omega, fun j hj => ?_⟩
      obtain ⟨h1, h2⟩ := run_short s start 0 j rfl h0 hd (by omega)
      exact ans_short h1 h2
  · exact .inl ⟨_, h0, ans_bad h0⟩

set_option maxHeartbeats 2000000 in
set_option maxRecDepth 100000 in
theorem walkBodyShort (a0 : ByteArray) (a1 : Int) (w : World) (z0 : a0.size ≤ 140737488351232) (z1 : (Lit.int .i64 a1).wf = true) (hm : ∃ m, w.cell? ⟨0, 0, none⟩ = some (.int .i64 m)) :
    Calls Tryd.prog 8 #[.string a0, .int .i64 a1] w fun e w' => e = .returned (.bool true) ∧ Below w.heap.size w w' := by
  obtain ⟨m, hm⟩ := hm
  have HM : Hid (w.cell? ⟨0, 0, none⟩ = some (.int .i64 m)) := hm
  have HX : Hid ((Lit.int .i64 a1).wf = true) := z1
  have HS : Hid (a0.size ≤ maxLen) := by show _ ≤ _; unfold maxLen; omega
  clear hm z1
  rcases ans_cases a0.data.toList with ⟨c, hc, ha⟩ | ⟨t', n, ha, hn0, hn1, hsh⟩
  · have HA : Hid (ans (runD start a0.data.toList 0) = ((⟨#[]⟩ : ByteArray).data.toList, 0, c)) := ha
    have hcb : (c != 0) = true := by simpa using hc
    clear hc ha
    go_enter Tryd.func8, Tryd.ntmps8
    go_wp2_with fail
    refine (decode_at a0 ⟨#[]⟩ 0 c m HA.out _ HS.out HM.out).mono ?_
    rintro e w1 ⟨rfl, hb1⟩
    have HM1 : Hid (w1.cell? ⟨0, 0, none⟩ = some (.int .i64 m)) := cell_keep hb1 HM.out
    go_wp2_with fail
    refine (decode_x m _ HM1.out).mono ?_
    rintro e w2 ⟨rfl, hb2⟩
    have hb := hb1.trans (hb2.mono hb1.size)
    clear hb1 hb2
    go_wp2_with fail
    go_ret
    exact ⟨ret_bool (by simp), hb⟩
  · obtain ⟨t, ht⟩ : ∃ t : ByteArray, t.data.toList = t' := ⟨⟨t'.toArray⟩, rfl⟩
    subst ht
    have HA : Hid (ans (runD start a0.data.toList 0) = (t.data.toList, n, 0)) := ha
    have HSH : Hid (∀ j, j < n → ans (runD start (a0.data.toList.take j) 0) = ([], 0, 8)) := hsh
    rw [size_list] at hn1
    have h1 : ¬ (n : Int) < 1 := by omega
    have h2 : ¬ (a0.size : Int) < (n : Int) := by omega
    clear ha hsh
    go_enter Tryd.func8, Tryd.ntmps8
    go_wp2_with fail
    refine (decode_at a0 t n 0 m HA.out _ HS.out HM.out).mono ?_
    rintro e w1 ⟨rfl, hb1⟩
    have HM1 : Hid (w1.cell? ⟨0, 0, none⟩ = some (.int .i64 m)) := cell_keep hb1 HM.out
    go_wp2_with fail
    refine (decode_x m _ HM1.out).mono ?_
    rintro e w2 ⟨rfl, hb2⟩
    have hb := hb1.trans (hb2.mono hb1.size)
    have HM2 : Hid (w2.cell? ⟨0, 0, none⟩ = some (.int .i64 m)) := cell_keep hb HM.out
    clear hb1 hb2
    go_wp2_with fail
    refine (rest_big a1 n (by omega) (by omega) HX.out _).mono ?_
    rintro e w4 ⟨k, hk, rfl, rfl⟩
    obtain ⟨s, hs⟩ : ∃ s : ByteArray, s = a0.extract 0 k := ⟨_, rfl⟩
    have HE : Hid (a0.extract 0 k = s) := hs.symm
    have hsd : s.data.toList = a0.data.toList.take k := by rw [hs, Lib.extract_data, List.drop_zero]; rfl
    have HSS : Hid (s.size ≤ maxLen) := by show _ ≤ _; rw [hs, ByteArray.size_extract]; unfold maxLen; omega
    have HPA : Hid (ans (runD start s.data.toList 0) = ((⟨#[]⟩ : ByteArray).data.toList, 0, 8)) := by show _ = _; rw [hsd]; exact HSH.out k hk
    have hki : (k : Int) ≤ (a0.size : Int) := by omega
    have hk0 : (0 : Int) ≤ (k : Int) := by omega
    clear hs hsd
    go_wp2_with fail
    rw [HE.out]
    refine (decode_at s ⟨#[]⟩ 0 8 m HPA.out _ HSS.out HM2.out).mono ?_
    rintro e w5 ⟨rfl, hb5⟩
    have hbb := hb.trans (hb5.mono hb.size)
    clear hb5 hb
    go_wp2_with fail
    go_ret
    exact ⟨ret_bool (by simp), hbb⟩
end Go.Proofs.YtofafonppajfkaaDoor
