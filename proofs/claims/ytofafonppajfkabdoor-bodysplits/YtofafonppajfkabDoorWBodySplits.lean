/-
  The walk through BodySplits: it answers true and turns nothing that was there; the package variable that the library reads holds some number.
-/
import Derived.Test.YtofafonppajfkabDoorWDd
import Derived.Test.YtofafonppajfkabDoorWRestB
import Derived.Test.YtofafonppajfkabDoorSpecSp
import Derived.Test.YtofafonppajfkabDoorSpecI
namespace Go.Proofs.YtofafonppajfkabDoor
open Go.RowKit

theorem Live.cell {B : Nat} {w : World} {bd : Nat} {x : Ds} (h : Live B w bd x) : w.cell? ⟨bd, 3, none⟩ = some (.bool x.done) := by
  obtain ⟨f, hd, _⟩ := h
  exact hd.cells.2.1
theorem Dead.cell {w : World} {bd : Nat} (h : Dead w bd) : w.cell? ⟨bd, 3, none⟩ = some (.bool false) := (dec_cell h).2.2.2
theorem Live.body {B : Nat} {w : World} {bd : Nat} {x : Ds} (h : Live B w bd x) (hx : x.done = true) : Calls Tryd.prog 11 #[ptr bd] w fun e w' => e = .returned (.string ⟨x.body.toArray⟩) ∧ w' = w := by
  obtain ⟨f, hd, _⟩ := h
  exact body_yes B bd f x w hd hx
set_option maxHeartbeats 8000000 in
set_option maxRecDepth 100000 in
theorem walkBodySplits (a0 : ByteArray) (a1 : Option Addr) (n1 c1 : Nat) (l1 : List Int) (w : World) (z0 : a0.size ≤ 140737488351232) (z1 : IsInts w a1 n1 c1 l1) (y1 : n1 ≤ 17592186044416) (hm : ∃ m, w.cell? ⟨0, 0, none⟩ = some (.int .i64 m)) :
    Calls Tryd.prog 3 #[.string a0, .slice a1 n1 c1] w fun e w' => e = .returned (.bool true) ∧ Below w.heap.size w w' := by
  obtain ⟨m, hm⟩ := hm
  have hM := cell_in hm
  have HM : Hid (w.cell? ⟨0, 0, none⟩ = some (.int .i64 m)) := hm
  have HS : Hid (a0.size ≤ maxLen) := by show _ ≤ _; unfold maxLen; omega
  have HI : Hid (IsInts w a1 n1 c1 l1) := z1
  obtain ⟨t, n, c, ha⟩ : ∃ (t : ByteArray) (n : Nat) (c : Int), ans (runD start a0.data.toList 0) = (t.data.toList, n, c) := ⟨⟨(ans (runD start a0.data.toList 0)).1.toArray⟩, _, _, rfl⟩
  have HA : Hid (ans (runD start a0.data.toList 0) = (t.data.toList, n, c)) := ha
  clear hm z1 ha
  go_enter Tryd.func3, Tryd.ntmps3
  go_wp2_with fail
  refine (decode_at a0 t n c m HA.out _ HS.out HM.out).mono ?_
  rintro e w1 ⟨rfl, hb1⟩
  go_wp2_with fail
  refine (new_at _).mono ?_
  rintro e w2 ⟨bd, rfl, hl, hb2⟩
  have hs1 := hb1.size
  have HB2 : Hid (Below w.heap.size w w2) := hb1.trans (hb2.mono hs1)
  have HL : Hid (Live w1.heap.size w2 bd start) := hl
  have HC : Hid (w2.cell? ⟨bd, 3, none⟩ = some (.bool false)) := hl.cell
  have hs2 := hb2.size
  clear hl hb1 hb2
  go_wp2_with fail
  refine (done_at bd false _ HC.out).mono ?_
  rintro e w3 ⟨rfl, rfl⟩
  clear HC
  go_wp2_with fail
  go_loopw [9, 10] (fun al i wr => ∃ (k j : Nat) (y : Ds), k ≤ a0.size ∧ j ≤ n1 + 1 ∧ (n1 < j → k = a0.size) ∧ al = .int .i64 k ∧ i = .int .i64 j ∧ runD start a0.data.toList 0 = runD y (a0.data.toList.drop k) k ∧ Inv y ∧ Live w1.heap.size wr bd y ∧ Below w.heap.size w wr) (fun al i _ => (n1 - (intOf i).toNat) + (a0.size - (intOf al).toNat))
  case atStart => exact ⟨0, 0, start, Nat.zero_le _, Nat.zero_le _, fun h => absurd h (by omega), rfl, rfl, rfl, inv_start, HL.out, HB2.out⟩
  case round =>
    obtain ⟨k, j, y, hk, hj, hjk, rfl, rfl, hrun, hiy, hly, hwr⟩ := hrel
    have HRUN : Hid (runD start a0.data.toList 0 = runD y (a0.data.toList.drop k) k) := hrun
    have HIY : Hid (Inv y) := hiy
    have HLY : Hid (Live w1.heap.size wr bd y) := hly
    have HWR : Hid (Below w.heap.size w wr) := hwr
    have HMR : Hid (wr.cell? ⟨0, 0, none⟩ = some (.int .i64 m)) := cell_keep hwr HM.out
    clear hrun hiy hly
    by_cases hlt : k < a0.size
    · have hj1 : j ≤ n1 := by
        rcases Nat.lt_or_ge n1 j with h | h
        · have := hjk h; omega
        · exact h
      have hki : (k : Int) < (a0.size : Int) := by omega
      have HCOM : Hid (∀ q : Nat, k + q ≤ a0.size → ∃ sub : ByteArray, (∀ w, (Instr.slice 9 (.string a0) (some (.int .i64 (k : Int))) (some (.int .i64 ((k : Int) + (q : Int)))) none).run Tryd.prog w = .ok (.string sub) w) ∧ sub.data.toList = (a0.data.toList.drop k).take q ∧ sub.size ≤ maxLen) := by
        intro q hq
        refine ⟨a0.extract k (k + q), fun w => ?_, ?_, ?_⟩
        · rw [run_slice_string w 9 a0 .i64 .i64 _ _ Tryd.underlying9 (by omega) (by omega) (by omega), show ((k : Int)).toNat = k by omega, show ((k : Int) + (q : Int)).toNat = k + q by omega]
        · rw [Lib.extract_data]; congr 1; omega
        · rw [ByteArray.size_extract]; unfold maxLen; omega
      by_cases hjn : (j : Int) < (n1 : Int)
      · obtain ⟨b, off, z, rfl, hbs, hcz, hwf⟩ := HI.out.cell j (by omega)
        have hcz' : wr.cell? ⟨b, off + j, none⟩ = some (.int .i64 z) := (hwr.cell (p := ⟨b, off + j, none⟩) hbs).trans hcz
        have HWF : Hid ((Lit.int .i64 z).wf = true) := hwf
        obtain ⟨p, hp⟩ : ∃ p : Nat, (p : Int) = (a0.size : Int) - (k : Int) + 1 := ⟨a0.size - k + 1, by omega⟩
        have HP : Hid ((p : Int) = (a0.size : Int) - (k : Int) + 1) := hp
        have hp1 : 0 < p ∧ p ≤ 281474976710656 := by omega
        have hpe : (a0.size : Int) - (k : Int) + 1 = (p : Int) := hp.symm
        clear hwf hcz hwr hp
        go_wp2_with fail
        refine (rest_big z p hp1.1 hp1.2 HWF.out _).mono ?_
        rintro e w4 ⟨q, hq, rfl, rfl⟩
        have hq1 : k + q ≤ a0.size := by have := HP.out; omega
        obtain ⟨sub, hsl, hsub, hss⟩ := HCOM.out q hq1
        have HSUB : Hid (sub.data.toList = (a0.data.toList.drop k).take q) := hsub
        have HSS : Hid (sub.size ≤ maxLen) := hss
        clear hsub hss hpe hcz'
        go_wp2_with fail
        have hw := write_at w1.heap.size y sub bd m _ HLY.out HIY.out HSS.out HMR.out (by omega)
        obtain ⟨r, hr⟩ : ∃ r, runD y sub.data.toList 0 = r := ⟨_, rfl⟩
        rw [hr] at hw
        rw [HSUB.out] at hr
        refine hw.mono ?_
        clear hw
        rintro e w5 ⟨rfl, hb5, hbad, hok⟩
        have HB5 : Hid (Below w.heap.size w w5) := HWR.out.trans (hb5.mono hs1)
        clear hb5 hsl
        by_cases h0 : r.1 = 0
        · have hlive := hok h0
          have hC := hlive.cell
          cases hdn : r.2.2.done
          · obtain ⟨e1, e2, e3⟩ := split_go HRUN.out HIY.out (by rw [size_list]; exact hq1) (by rw [hr]; exact h0) (by rw [hr]; exact hdn)
            rw [hr] at e1 e2 e3
            rw [hdn] at hC
            have HC5 : Hid (w5.cell? ⟨bd, 3, none⟩ = some (.bool false)) := hC
            have HL5 : Hid (Live w1.heap.size w5 bd r.2.2) := hlive
            have HE2 : Hid (runD start a0.data.toList 0 = runD r.2.2 (a0.data.toList.drop (k + q)) (k + q)) := e2
            have HE3 : Hid (Inv r.2.2) := e3
            have hneq : ((r.2.1 : Int) != (q : Int)) = false := by rw [e1]; simp
            clear hr hbad hok hlive hC hdn e1 e2 e3
            go_wp2_with fail
            refine (done_at bd false _ HC5.out).mono ?_
            rintro e w6 ⟨rfl, rfl⟩
            go_wp2_with fail
            go_roundw
            case rel => exact ⟨k + q, j + 1, r.2.2, hq1, by omega, by omega, by go_num, by go_num, HE2.out, HE3.out, HL5.out, HB5.out⟩
            case measure => simp [intOf]; omega
          · have e1 := split_done q HRUN.out HIY.out (by rw [hr]; exact h0) (by rw [hr]; exact hdn)
            rw [hr, HA.out] at e1
            simp only [Prod.mk.injEq] at e1
            obtain ⟨e2, e3, e4⟩ := e1
            rw [hdn] at hC
            have HC5 : Hid (w5.cell? ⟨bd, 3, none⟩ = some (.bool true)) := hC
            have HBD : Hid (Calls Tryd.prog 11 #[ptr bd] w5 fun e w' => e = .returned (.string t) ∧ w' = w5) := by
              refine (hlive.body hdn).mono ?_
              rintro e w' ⟨rfl, rfl⟩
              refine ⟨ret_str ?_, rfl⟩
              rw [← e2]
            have hsum : ((k : Int) + (r.2.1 : Int) == (n : Int)) = true := by rw [beq_iff_eq]; omega
            subst e4
            have hrl : (k : Int) + (r.2.1 : Int) ≤ 281474976710656 := by
              have h9 := run_done ((a0.data.toList.drop k).take q) y 0 HIY.out.1 (by rw [hr]; exact h0) (by rw [hr]; exact hdn)
              rw [hr, List.length_take] at h9
              omega
            clear hr hbad hok hlive hC hdn e2 e3
            go_wp2_with fail
            refine (done_at bd true _ HC5.out).mono ?_
            rintro e w6 ⟨rfl, rfl⟩
            go_wp2_with fail
            refine HBD.out.mono ?_
            rintro e w7 ⟨rfl, rfl⟩
            go_wp2_with fail
            go_ret
            exact ⟨ret_bool (by simp), HB5.out⟩
        · obtain ⟨e1, e2⟩ := split_bad q HRUN.out HIY.out (by rw [hr]; exact h0)
          rw [hr] at e1 e2
          rw [HA.out] at e1
          simp only [Prod.mk.injEq] at e1
          obtain ⟨_, _, e4⟩ := e1
          have HC5 : Hid (w5.cell? ⟨bd, 3, none⟩ = some (.bool false)) := (hbad h0).cell
          have h0' : (r.1 != 0) = true := by simpa using h0
          have h4 : (r.1 == c) = true := by rw [e4]; simp
          have h5 : ((r.2.1 : Int) == 0) = true := by rw [e2]; rfl
          clear hr hbad hok e4 e2 h0
          go_wp2_with fail
          refine (done_at bd false _ HC5.out).mono ?_
          rintro e w6 ⟨rfl, rfl⟩
          go_wp2_with fail
          go_ret
          exact ⟨ret_bool (by simp), HB5.out⟩
      · obtain ⟨q, hq⟩ : ∃ q : Nat, (q : Int) = (a0.size : Int) - (k : Int) := ⟨a0.size - k, by omega⟩
        have hq1 : k + q ≤ a0.size := by omega
        have hq2 : k + q = a0.size := by omega
        have hqe : (a0.size : Int) - (k : Int) = (q : Int) := hq.symm
        have HQ2 : Hid (k + q = a0.size) := hq2
        obtain ⟨sub, hsl, hsub, hss⟩ := HCOM.out q hq1
        have HSUB : Hid (sub.data.toList = (a0.data.toList.drop k).take q) := hsub
        have HSS : Hid (sub.size ≤ maxLen) := hss
        clear hsub hss hwr hq hq2
        go_wp2_with fail
        have hw := write_at w1.heap.size y sub bd m _ HLY.out HIY.out HSS.out HMR.out (by omega)
        obtain ⟨r, hr⟩ : ∃ r, runD y sub.data.toList 0 = r := ⟨_, rfl⟩
        rw [hr] at hw
        rw [HSUB.out] at hr
        refine hw.mono ?_
        clear hw
        rintro e w5 ⟨rfl, hb5, hbad, hok⟩
        have HB5 : Hid (Below w.heap.size w w5) := HWR.out.trans (hb5.mono hs1)
        clear hb5 hsl hqe
        by_cases h0 : r.1 = 0
        · have hlive := hok h0
          have hC := hlive.cell
          cases hdn : r.2.2.done
          · obtain ⟨e1, e2, e3⟩ := split_go HRUN.out HIY.out (by rw [size_list]; exact hq1) (by rw [hr]; exact h0) (by rw [hr]; exact hdn)
            rw [hr] at e1 e2 e3
            rw [hdn] at hC
            have HC5 : Hid (w5.cell? ⟨bd, 3, none⟩ = some (.bool false)) := hC
            have HL5 : Hid (Live w1.heap.size w5 bd r.2.2) := hlive
            have HE2 : Hid (runD start a0.data.toList 0 = runD r.2.2 (a0.data.toList.drop (k + q)) (k + q)) := e2
            have HE3 : Hid (Inv r.2.2) := e3
            have hneq : ((r.2.1 : Int) != (q : Int)) = false := by rw [e1]; simp
            clear hr hbad hok hlive hC hdn e1 e2 e3
            go_wp2_with fail
            refine (done_at bd false _ HC5.out).mono ?_
            rintro e w6 ⟨rfl, rfl⟩
            go_wp2_with fail
            go_roundw
            case rel => exact ⟨k + q, j + 1, r.2.2, hq1, by omega, fun _ => HQ2.out, by go_num, by go_num, HE2.out, HE3.out, HL5.out, HB5.out⟩
            case measure => have := HQ2.out; simp [intOf]; omega
          · have e1 := split_done q HRUN.out HIY.out (by rw [hr]; exact h0) (by rw [hr]; exact hdn)
            rw [hr, HA.out] at e1
            simp only [Prod.mk.injEq] at e1
            obtain ⟨e2, e3, e4⟩ := e1
            rw [hdn] at hC
            have HC5 : Hid (w5.cell? ⟨bd, 3, none⟩ = some (.bool true)) := hC
            have HBD : Hid (Calls Tryd.prog 11 #[ptr bd] w5 fun e w' => e = .returned (.string t) ∧ w' = w5) := by
              refine (hlive.body hdn).mono ?_
              rintro e w' ⟨rfl, rfl⟩
              refine ⟨ret_str ?_, rfl⟩
              rw [← e2]
            have hsum : ((k : Int) + (r.2.1 : Int) == (n : Int)) = true := by rw [beq_iff_eq]; omega
            subst e4
            have hrl : (k : Int) + (r.2.1 : Int) ≤ 281474976710656 := by
              have h9 := run_done ((a0.data.toList.drop k).take q) y 0 HIY.out.1 (by rw [hr]; exact h0) (by rw [hr]; exact hdn)
              rw [hr, List.length_take] at h9
              omega
            clear hr hbad hok hlive hC hdn e2 e3
            go_wp2_with fail
            refine (done_at bd true _ HC5.out).mono ?_
            rintro e w6 ⟨rfl, rfl⟩
            go_wp2_with fail
            refine HBD.out.mono ?_
            rintro e w7 ⟨rfl, rfl⟩
            go_wp2_with fail
            go_ret
            exact ⟨ret_bool (by simp), HB5.out⟩
        · obtain ⟨e1, e2⟩ := split_bad q HRUN.out HIY.out (by rw [hr]; exact h0)
          rw [hr] at e1 e2
          rw [HA.out] at e1
          simp only [Prod.mk.injEq] at e1
          obtain ⟨_, _, e4⟩ := e1
          have HC5 : Hid (w5.cell? ⟨bd, 3, none⟩ = some (.bool false)) := (hbad h0).cell
          have h0' : (r.1 != 0) = true := by simpa using h0
          have h4 : (r.1 == c) = true := by rw [e4]; simp
          have h5 : ((r.2.1 : Int) == 0) = true := by rw [e2]; rfl
          clear hr hbad hok e4 e2 h0
          go_wp2_with fail
          refine (done_at bd false _ HC5.out).mono ?_
          rintro e w6 ⟨rfl, rfl⟩
          go_wp2_with fail
          go_ret
          exact ⟨ret_bool (by simp), HB5.out⟩
    · obtain rfl : k = a0.size := by omega
      have hr : runD start a0.data.toList 0 = (0, a0.size, y) := by rw [HRUN.out, List.drop_eq_nil_of_le (by rw [size_list]; exact Nat.le_refl _)]; rfl
      have e1 : ans (runD start a0.data.toList 0) = ([], 0, 8) := by rw [hr]; exact ans_short rfl HIY.out.1
      rw [HA.out] at e1
      simp only [Prod.mk.injEq] at e1
      obtain ⟨_, e3, e4⟩ := e1
      subst e3 e4
      have hC := HLY.out.cell
      rw [HIY.out.1] at hC
      have HC : Hid (wr.cell? ⟨bd, 3, none⟩ = some (.bool false)) := hC
      clear hC hr
      go_wp2_with fail
      refine (done_at bd false _ HC.out).mono ?_
      rintro e w6 ⟨rfl, rfl⟩
      go_wp2_with fail
      refine (body_no bd _ HC.out).mono ?_
      rintro e w7 ⟨rfl, rfl⟩
      go_wp2_with fail
      go_ret
      exact ⟨ret_bool (by simp), HWR.out⟩
end Go.Proofs.YtofafonppajfkabDoor
