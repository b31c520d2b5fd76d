/-
  What Parse of package field computes of fields that are printed, with whatever text behind them, of whatever size that Go allows; the package variable that the library reads holds some number.
-/
import Derived.Test.YtpkaajjkadillaaDoorWParse
import Derived.Test.YtpkaajjkadillaaDoorSpecBk
import Derived.Test.YtpkaajjkadillaaDoorWEarly
namespace Go.Proofs.YtpkaajjkadillaaDoor
open Go.RowKit

set_option maxHeartbeats 8000000 in
set_option maxRecDepth 100000 in
theorem parse_early (s u : ByteArray) (ls : List Fld) (hs : s.data.toList = prt ls ++ 13 :: 10 :: u.data.toList) (hls : ∀ x ∈ ls, chk1 x = 0) (hlen : ls.length ≤ 30) (hsz : s.size ≤ 281474976710656) (m : Int) (w : World) (hm : w.cell? ⟨0, 0, none⟩ = some (.int .i64 m)) :
    Calls Tryd.prog 7 #[.string s] w fun e w' => ∃ v, e = .returned (.tuple #[v, .int .i64 ((s.size : Int) - (u.size : Int)), .int .i64 0]) ∧
      w'.ownsRow w.heap.size 28 2 v ls.length (flds ls) ∧ Below w.heap.size w w' := by
  obtain ⟨i0, hi, hz0, hz1, hz2⟩ := info_parts infoF
  have HM : Hid (w.cell? ⟨0, 0, none⟩ = some (.int .i64 m)) := hm
  have HLS : Hid (∀ x ∈ ls, chk1 x = 0) := hls
  have HS : Hid (s.data.toList = prt ls ++ 13 :: 10 :: u.data.toList) := hs
  have hus : u.size ≤ s.size := by
    have e := size_list s
    rw [hs, List.length_append, List.length_cons, List.length_cons, size_list] at e; omega
  clear hm hls hs
  go_enter Tryd.func7, Tryd.ntmps7
  go_wp2_with fail
  go_loopw [5, 6] (fun v rv wr => ∃ (r : ByteArray) (ps qs : List Fld), rv = .string r ∧ ls = ps ++ qs ∧ r.data.toList = prt qs ++ 13 :: 10 :: u.data.toList ∧ r.size ≤ s.size ∧ wr.ownsRow w.heap.size 28 2 v ps.length (flds ps) ∧ Below w.heap.size w wr) (fun _ rv _ => lenV rv)
  case atStart => exact ⟨s, [], ls, rfl, rfl, HS.out, Nat.le_refl _, World.ownsRow_nil _ _ _ _, Below.refl _ _⟩
  case round =>
    obtain ⟨r, ps, qs, rfl, hpq, hrd, hrs, hown, hw⟩ := hrel
    have hsw := hw.size
    have HMr : Hid (wr.cell? ⟨0, 0, none⟩ = some (.int .i64 m)) := cell_keep hw HM.out
    obtain ⟨ad, cap, hv, hcm, hnc, hcx⟩ := own_form2 hown
    subst hv
    clear hcx
    unfold maxLen at hcm
    have hpl : ps.length + qs.length = ls.length := by rw [hpq, List.length_append]
    cases qs with
    | nil =>
      obtain rfl : ls = ps := by rw [hpq, List.append_nil]
      have HRD : Hid (r.data.toList = (⟨#[]⟩ : ByteArray).data.toList ++ 13 :: 10 :: u.data.toList) := hrd
      clear hpq hrd
      go_wp2_with fail
      refine (cutLine_of r ⟨#[]⟩ u 1100 (by decide) _ (fun W hW => by subst hW; exact scut_early r ⟨#[]⟩ u HRD.out (fun c hc => by cases hc) m _ HMr.out (by omega))).mono ?_
      rintro e w1 ⟨rfl, nd, rfl⟩
      go_wp2_with fail
      go_ret3
      exact ⟨_, rfl, own_below3 hown (drewN_below _ _ _), hw.trans (drewN_below _ _ _)⟩
    | cons x qs =>
      have hcx : chk1 x = 0 := HLS.out x (by rw [hpq]; simp)
      obtain ⟨c1, c2, c3, _, _⟩ := chk1_is x hcx
      obtain ⟨a, ha⟩ : ∃ a : ByteArray, a.data.toList = lnB x := ⟨⟨(lnB x).toArray⟩, rfl⟩
      obtain ⟨b, hb⟩ : ∃ b : ByteArray, b.data.toList = prt qs ++ 13 :: 10 :: u.data.toList := ⟨⟨(prt qs ++ 13 :: 10 :: u.data.toList).toArray⟩, rfl⟩
      obtain ⟨y, hy⟩ : ∃ y : ByteArray, y.data.toList = x.1 := ⟨⟨x.1.toArray⟩, rfl⟩
      obtain ⟨z, hz⟩ : ∃ z : ByteArray, z.data.toList = x.2 := ⟨⟨x.2.toArray⟩, rfl⟩
      have has : a.size ≤ 1100 := by rw [← size_list, ha, lnB_len]; omega
      have HRD : Hid (r.data.toList = a.data.toList ++ 13 :: 10 :: b.data.toList) := by
        show _ = _
        rw [hrd, prt_cons, ln_eq, ha, hb]; simp
      have hbs : b.size < r.size := by
        have e := size_list r
        rw [HRD.out, List.length_append, List.length_cons, List.length_cons, size_list, size_list] at e; omega
      have HNO : Hid (∀ c ∈ a.data.toList, c ≠ 13) := by show ∀ c ∈ a.data.toList, c ≠ 13; rw [ha]; exact lnB_no13 x hcx
      have HF : Hid (rdF a.data.toList = ((y.data.toList, z.data.toList), 0)) := by show _ = _; rw [ha, rdF_ln x hcx, hy, hz]
      have HB : Hid (b.data.toList = prt qs ++ 13 :: 10 :: u.data.toList) := hb
      have HX : Hid ((y.data.toList, z.data.toList) = x) := by show _ = _; rw [hy, hz]
      have HPQ : Hid (ls = (ps ++ [x]) ++ qs) := by show _ = _; rw [hpq]; simp
      have hl0 : ¬ a.size = 0 := by rw [← size_list, ha, lnB_len]; omega
      have hem : a.toList.isEmpty = false := by rw [ByteArray.toList_eq, isEmpty_size]; exact decide_eq_false hl0
      have hp30 : ps.length < 30 := by simp only [List.length_cons] at hpl; omega
      have hd2 : ((ps.length : Int) == 30) = false := by rw [beq_eq_false_iff_ne]; omega
      clear ha hb hy hz hrd hpq hcx c1 c2 c3 hl0 hpl
      go_wp2_with fail
      refine (cutLine_of r a b 1100 has _ (fun W hW => by subst hW; exact scut_early r a b HRD.out HNO.out m _ HMr.out (by omega))).mono ?_
      rintro e w1 ⟨rfl, nd, rfl⟩
      have hown1 := own_below3 hown (drewN_below wr.heap.size wr nd)
      have hw1 := hw.trans (drewN_below w.heap.size wr nd)
      have HM1 : Hid ((wr.drewN nd).cell? ⟨0, 0, none⟩ = some (.int .i64 m)) := cell_keep hw1 HM.out
      clear hown
      go_wp2_with fail
      refine (readField_at a y z 0 HF.out m _ HM1.out has).mono ?_
      rintro e w3 ⟨rfl, hb3⟩
      have hown3 := own_below3 hown1 hb3
      have hw3 := hw1.trans (hb3.mono hw1.size)
      have hsz3 := hw3.size
      clear hown1 hb3
      go_wp2_with (at_builtin; refine wpList_append_own _ rfl _ _ 22 rfl w.heap.size 28 i0 (.agg #[.string ⟨#[]⟩, .string ⟨#[]⟩]) 2 32 Tryd.underlying22 hi hz0 hz1 hz2 rfl (by decide) _ _ _ rfl ((hown3.alloc _).alloc _) ⟨w3.heap.size + 1, 0, none⟩ 1 1 [.string y, .string z] rfl rfl ?c1 ?c2 ?c3 ?c4 ?c5 ?_)
      case c1 =>
        intro j q h
        match j, h with
        | 0, h => simp at h; subst h; simp [Addr.add]
        | 1, h => simp at h; subst h; simp [Addr.add]
      case c2 => intro q hx; simp at hx; rcases hx with rfl | rfl <;> rfl
      case c3 => unfold maxLen; omega
      case c4 => omega
      case c5 => simp; omega
      · intro v' w4 hown' hgrow _
        have hB : Below w.heap.size w w4 := ((hw3.alloc (by omega) _).alloc (by simp; omega) _).grown hgrow (by simp; omega) (fun b hb => (((hown3.alloc (.cells #[.string y, .string z] 28)).alloc (.cells #[.string y, .string z] 28)).lt b hb).1)
        have hown4 : w4.ownsRow w.heap.size 28 2 v' (ps ++ [x]).length (flds (ps ++ [x])) := by
          rw [← HX.out, ← flds_snoc, List.length_append]; exact hown'
        clear hown' hgrow hown3 hw3
        go_wp2_with fail
        go_roundw
        case rel => exact ⟨b, ps ++ [x], qs, rfl, HPQ.out, HB.out, by omega, hown4, hB⟩
        case measure => simp [lenV]; omega
end Go.Proofs.YtpkaajjkadillaaDoor
