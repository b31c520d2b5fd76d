/-
  The walk through BodyComes: it answers true and turns nothing that was there; the package variable that the library reads holds some number.
-/
import Derived.Test.YtofafonppajfkaaDoorWDd
import Derived.Test.YtofafonppajfkaaDoorWRCb
import Derived.Test.YtofafonppajfkaaDoorSpecB
namespace Go.Proofs.YtofafonppajfkaaDoor
open Go.RowKit

theorem come_bad {al s : List UInt8} {y : Ds} (h : runD start al 0 = (0, al.length, y)) (hy : Inv y) (h1 : (runD y s 0).1 ≠ 0) : ans (runD start (al ++ s) 0) = ([], 0, (runD y s 0).1) ∧ (runD y s 0).2.1 = 0 ∧ (runD y s 0).1 ≠ 8 := by
  obtain ⟨e1, _, _⟩ := run_shift s y 0 al.length
  rw [Nat.zero_add] at e1
  refine ⟨?_, run_bad _ _ _ h1, run_not8 _ _ _ hy⟩
  rw [rn_app al s start 0 (by rw [h]) (by rw [h]; exact hy.1), h]
  simp only
  rw [ans_bad (by rw [e1]; exact h1), e1]
theorem come_done {al s : List UInt8} {y : Ds} (h : runD start al 0 = (0, al.length, y)) (hy : Inv y) (h1 : (runD y s 0).1 = 0) (hd : (runD y s 0).2.2.done = true) : ans (runD start (al ++ s) 0) = ((runD y s 0).2.2.body, (runD y s 0).2.1 + al.length, 0) := by
  obtain ⟨e1, e2, e3⟩ := run_shift s y 0 al.length
  rw [Nat.zero_add] at e1 e2 e3
  rw [rn_app al s start 0 (by rw [h]) (by rw [h]; exact hy.1), h]
  simp only
  rw [ans_ok (by rw [e1]; exact h1) (by rw [e2]; exact hd), e2, e3 h1]
theorem come_go {al s : List UInt8} {y : Ds} (h : runD start al 0 = (0, al.length, y)) (hy : Inv y) (h1 : (runD y s 0).1 = 0) (hd : (runD y s 0).2.2.done = false) :
    ans (runD start (al ++ s) 0) = ([], 0, 8) ∧ (runD y s 0).2.1 = s.length ∧ runD start (al ++ s) 0 = (0, (al ++ s).length, (runD y s 0).2.2) ∧ Inv (runD y s 0).2.2 := by
  obtain ⟨e1, e2, e3⟩ := run_shift s y 0 al.length
  rw [Nat.zero_add] at e1 e2 e3
  have hl := run_len _ _ _ h1 hd
  rw [Nat.zero_add] at hl
  have hr : runD start (al ++ s) 0 = (0, (al ++ s).length, (runD y s 0).2.2) := by
    rw [rn_app al s start 0 (by rw [h]) (by rw [h]; exact hy.1), h]
    simp only
    apply Prod.ext
    · rw [e1]; exact h1
    · apply Prod.ext
      · simp only; rw [e3 h1, hl, List.length_append, Nat.add_comm]
      · exact e2
  refine ⟨?_, hl, hr, run_inv _ _ _ hy h1 hd⟩
  rw [hr]; exact ans_short rfl hd
theorem Live.below {B : Nat} {w w' : World} {bd : Nat} {x : Ds} (h : Live B w bd x) (hb : Below w.heap.size w w') : Live B w' bd x := by
  obtain ⟨f, h1, h2, h3⟩ := h
  exact ⟨f, h1.below hb, h2, fun hx => (h3 hx).keep (KeepC.below hb)⟩
theorem Live.cell' {B : Nat} {w : World} {bd : Nat} {x : Ds} (h : Live B w bd x) : w.cell? ⟨bd, 3, none⟩ = some (.bool x.done) := by
  obtain ⟨f, hd, _⟩ := h
  exact hd.cells.2.1
theorem Dead.below {w w' : World} {bd : Nat} (h : Dead w bd) (hb : Below w.heap.size w w') : Dead w' bd := (hb.block bd (Array.getElem?_eq_some_iff.1 h).1).trans h
/-- What stands between two pieces. -/
def Cs (B : Nat) (w : World) (bd : Nat) (al : List UInt8) (b o : Bool) : Prop :=
  (b = false ∧ o = false ∧ ∃ y, runD start al 0 = (0, al.length, y) ∧ Inv y ∧ Live B w bd y) ∨ (b = true ∧ o = false ∧ Dead w bd) ∨ (b = false ∧ o = true ∧ ∃ y, Live B w bd y ∧ y.done = true)
theorem Cs.cell {B : Nat} {w : World} {bd : Nat} {al : List UInt8} {b o : Bool} (h : Cs B w bd al b o) : w.cell? ⟨bd, 3, none⟩ = some (.bool o) := by
  rcases h with ⟨_, rfl, y, _, hi, hl⟩ | ⟨_, rfl, hd⟩ | ⟨_, rfl, y, hl, hy⟩
  · rw [hl.cell', hi.1]
  · exact (dec_cell hd).2.2.2
  · rw [hl.cell', hy]
theorem Cs.stop {B : Nat} {w : World} {bd : Nat} {al : List UInt8} {b o : Bool} (h : Cs B w bd al b o) (hb : b = true ∨ o = true) : w.cell? ⟨bd, 0, none⟩ = some .nilFunc := by
  rcases h with ⟨h1, h2, _⟩ | ⟨_, _, hd⟩ | ⟨_, _, y, ⟨f, hd, hn, _⟩, hy⟩
  · rw [h1, h2] at hb; simp at hb
  · exact (dec_cell hd).1
  · rw [hd.cells.1, hn hy]
theorem take_snocS (ss : List ByteArray) (k n : Nat) (hk : k < n) (h : n ≤ ss.length) : bulkS (ss.take (k + 1)) = bulkS (ss.take k) + (ss.getD k ByteArray.empty).size + 1 := by
  rw [List.take_succ_eq_append_getElem (by omega), bulkS_snoc, List.getD_eq_getElem?_getD, List.getElem?_eq_getElem (by omega)]; rfl

set_option maxHeartbeats 8000000 in
set_option maxRecDepth 100000 in
theorem walkBodyComes (a0 : Option Addr) (n0 c0 : Nat) (l0 : List ByteArray) (w : World) (z0 : IsStrs w a0 n0 c0 l0) (y0 : bulkS (l0.take n0) ≤ 1048576) (hm : ∃ m, w.cell? ⟨0, 0, none⟩ = some (.int .i64 m)) :
    Calls Tryd.prog 6 #[.slice a0 n0 c0] w fun e w' => e = .returned (.bool true) ∧ Below w.heap.size w w' := by
  obtain ⟨m, hm⟩ := hm
  have hM := cell_in hm
  have HM : Hid (w.cell? ⟨0, 0, none⟩ = some (.int .i64 m)) := hm
  have HI : Hid (IsStrs w a0 n0 c0 l0) := z0
  obtain ⟨hnc, hcm, hsl⟩ := z0.le
  have HSL : Hid (n0 ≤ l0.length) := by show _ ≤ _; omega
  have hn0 : n0 ≤ 1048576 := by
    have := bulkS_len (l0.take n0)
    rw [List.length_take] at this
    omega
  have HY0 : Hid (bulkS (l0.take n0) ≤ 1048576) := y0
  clear hm z0 hsl hcm y0
  go_enter Tryd.func6, Tryd.ntmps6
  go_wp2_with fail
  refine (new_at _).mono ?_
  rintro e w1 ⟨bd, rfl, hl, hb1⟩
  have HCS : Hid (Cs w.heap.size w1 bd [] false false) := .inl ⟨rfl, rfl, start, rfl, inv_start, hl⟩
  have HB1 : Hid (Below w.heap.size w w1) := hb1
  clear hl hb1
  go_wp2_with fail
  go_loopw [4, 5, 6, 22] (fun av bv ov iv wr => ∃ (i : Nat) (al : ByteArray) (b o : Bool), i ≤ n0 ∧ iv = .int .i64 i ∧ av = .string al ∧ bv = .bool b ∧ ov = .bool o ∧ al.size ≤ bulkS (l0.take i) ∧ Cs w.heap.size wr bd al.data.toList b o ∧ Below w.heap.size w wr) (fun _ _ _ iv _ => n0 - (intOf iv).toNat)
  case atStart => exact ⟨0, ⟨#[]⟩, false, false, Nat.zero_le _, rfl, rfl, rfl, rfl, Nat.zero_le _, HCS.out, HB1.out⟩
  case round =>
    obtain ⟨i, al, b, o, hi, rfl, rfl, rfl, rfl, hal, hcs, hwr⟩ := hrel
    have HC : Hid (Cs w.heap.size wr bd al.data.toList b o) := hcs
    have HWR : Hid (Below w.heap.size w wr) := hwr
    have HMR : Hid (wr.cell? ⟨0, 0, none⟩ = some (.int .i64 m)) := cell_keep hwr HM.out
    have hwz := hwr.size
    by_cases hlt : i < n0
    · obtain ⟨g, off, rfl, hgs, hce, hes⟩ := HI.out.cell i hlt
      have hbk := take_snocS l0 i n0 hlt HSL.out
      have hbk2 : bulkS (l0.take (i + 1)) ≤ 1048576 := by
        have h := bulkS_take (l0.take n0) (i + 1)
        rw [List.take_take, show min (i + 1) n0 = i + 1 by omega] at h
        exact Nat.le_trans h HY0.out
      obtain ⟨u, hu⟩ : ∃ u : ByteArray, u = l0.getD i ByteArray.empty := ⟨_, rfl⟩
      rw [← hu] at hce hes hbk
      have hcell : wr.cell? ⟨g, off + i, none⟩ = some (.string u) := (hwr.cell (p := ⟨g, off + i, none⟩) hgs).trans hce
      have HES : Hid (u.size ≤ maxLen) := hes
      have hii : (i : Int) < (n0 : Int) := by omega
      have hus : u.size ≤ 1048576 := by omega
      have hals : al.size ≤ 1048576 := by omega
      have HBK : Hid (al.size + u.size ≤ bulkS (l0.take (i + 1))) := by show _ ≤ _; omega
      have HSUM : Hid (al.size + u.size ≤ 1048576) := by show _ ≤ _; omega
      clear hce hu hes hwr hcs hbk hbk2 hal
      by_cases hbo : b = true ∨ o = true
      · have HN : Hid (wr.cell? ⟨bd, 0, none⟩ = some .nilFunc) := HC.out.stop hbo
        rcases (show b = true ∨ (b = false ∧ o = true) by cases b; exact .inr ⟨rfl, hbo.resolve_left (by simp)⟩; exact .inl rfl) with rfl | ⟨rfl, rfl⟩
        all_goals
          clear hbo
          go_wp2_with fail
          refine (write_dead bd u _ HN.out).mono ?_
          rintro e w2 ⟨rfl, rfl⟩
          go_wp2_with fail
          go_roundw
          case rel => exact ⟨i + 1, al, _, _, by omega, by go_num, rfl, rfl, rfl, by have := HBK.out; omega, HC.out, HWR.out⟩
          case measure => simp [intOf]; omega
      · obtain ⟨rfl, rfl⟩ : b = false ∧ o = false := by cases b <;> cases o <;> simp_all
        obtain ⟨y, hrun, hiy, hly⟩ : ∃ y, runD start al.data.toList 0 = (0, al.data.toList.length, y) ∧ Inv y ∧ Live w.heap.size wr bd y := by
          rcases HC.out with ⟨_, _, h⟩ | ⟨h, _⟩ | ⟨_, h, _⟩
          · exact h
          · cases h
          · cases h
        have HRUN : Hid (runD start al.data.toList 0 = (0, al.data.toList.length, y)) := hrun
        have HIY : Hid (Inv y) := hiy
        have hw := write_at w.heap.size y u bd m _ hly hiy HES.out HMR.out hM
        obtain ⟨r, hr⟩ : ∃ r, runD y u.data.toList 0 = r := ⟨_, rfl⟩
        rw [hr] at hw
        have HW : Hid (Calls Tryd.prog 16 #[ptr bd, .string u] wr fun e w' => WrQ w.heap.size wr w' bd r e) := hw
        have HR : Hid (runD y u.data.toList 0 = r) := hr
        obtain ⟨z, hz⟩ : ∃ z : ByteArray, z = al ++ u := ⟨_, rfl⟩
        have hzs : z.size = al.size + u.size := by rw [hz]; exact ByteArray.size_append
        have HZ : Hid (al ++ u = z) := hz.symm
        have HZD : Hid (z.data.toList = al.data.toList ++ u.data.toList) := by show _ = _; rw [hz, ByteArray.data_append, Array.toList_append]
        have HZS : Hid (z.size < 4294967281) := by show _ < _; have := HSUM.out; omega
        have HZB : Hid (z.size ≤ bulkS (l0.take (i + 1))) := by show _ ≤ _; rw [hzs]; exact HBK.out
        have hnz : ¬ 9223372036854775807 < al.size + u.size := by omega
        clear hbo hrun hiy hly hw hr hz hzs
        by_cases h0 : r.1 = 0
        · cases hdn : r.2.2.done
          · obtain ⟨e1, e2, e3, e4⟩ := come_go HRUN.out HIY.out (s := u.data.toList) (by rw [HR.out]; exact h0) (by rw [HR.out]; exact hdn)
            rw [HR.out] at e2 e3 e4
            have HA : Hid (ans (runD start z.data.toList 0) = ((⟨#[]⟩ : ByteArray).data.toList, 0, 8)) := by show _ = _; rw [HZD.out]; exact e1
            have HE3 : Hid (runD start z.data.toList 0 = (0, z.data.toList.length, r.2.2)) := by show _ = _; rw [HZD.out]; exact e3
            have HE4 : Hid (Inv r.2.2) := e4
            rw [size_list] at e2
            have hnn : ((r.2.1 : Int) != (u.size : Int)) = false := by rw [e2]; simp
            have H0 : Hid (r.1 = 0) := h0
            clear e1 e2 e3 e4 hdn
            go_wp2_with fail
            refine HW.out.mono ?_
            rintro e w2 ⟨rfl, hb2, _, hok⟩
            have HL2 : Hid (Live w.heap.size w2 bd r.2.2) := hok H0.out
            have HB2 : Hid (Below w.heap.size w w2) := HWR.out.trans hb2
            have HM2 : Hid (w2.cell? ⟨0, 0, none⟩ = some (.int .i64 m)) := cell_keep HB2.out HM.out
            clear hok hb2
            go_wp2_with fail
            rw [HZ.out]
            refine (rback_any z ⟨#[]⟩ 0 8 HA.out m _ HM2.out HZS.out).mono ?_
            rintro e w3 ⟨rfl, hb3⟩
            have HL3 : Hid (Live w.heap.size w3 bd r.2.2) := HL2.out.below hb3
            have HC3 : Hid (w3.cell? ⟨bd, 3, none⟩ = some (.bool false)) := by show _ = _; rw [HL3.out.cell', HE4.out.1]
            have HB3 : Hid (Below w.heap.size w w3) := HB2.out.trans (hb3.mono HB2.out.size)
            clear hb3
            go_wp2_with fail
            refine (done_at bd false _ HC3.out).mono ?_
            rintro e w4 ⟨rfl, rfl⟩
            go_wp2_with fail
            refine (body_no bd _ HC3.out).mono ?_
            rintro e w5 ⟨rfl, rfl⟩
            go_wp2_with fail
            go_roundw
            case rel => exact ⟨i + 1, z, false, false, by omega, by go_num, by first | rfl | rw [HZ.out], rfl, rfl, HZB.out, .inl ⟨rfl, rfl, r.2.2, HE3.out, HE4.out, HL3.out⟩, HB3.out⟩
            case measure => simp [intOf]; omega
          · have e1 := come_done HRUN.out HIY.out (s := u.data.toList) (by rw [HR.out]; exact h0) (by rw [HR.out]; exact hdn)
            rw [HR.out] at e1
            have HA : Hid (ans (runD start z.data.toList 0) = ((⟨r.2.2.body.toArray⟩ : ByteArray).data.toList, r.2.1 + al.size, 0)) := by show _ = _; rw [HZD.out, e1, size_list]
            have hnn : ((r.2.1 : Int) != ((r.2.1 + al.size : Nat) : Int) - (al.size : Int)) = false := by simp
            obtain ⟨N, hN⟩ : ∃ N : Nat, N = r.2.1 + al.size := ⟨_, rfl⟩
            have hNN : ((N : Int) - (al.size : Int)) = (r.2.1 : Int) := by omega
            rw [← hN] at HA
            have hNb : N ≤ 4294967296 := by
              have h9 := run_done u.data.toList y 0 HIY.out.1 (by rw [HR.out]; exact h0) (by rw [HR.out]; exact hdn)
              rw [HR.out, size_list] at h9
              omega
            have H0 : Hid (r.1 = 0) := h0
            have HDN : Hid (r.2.2.done = true) := hdn
            obtain ⟨t, ht⟩ : ∃ t : ByteArray, t = ⟨r.2.2.body.toArray⟩ := ⟨_, rfl⟩
            rw [← ht] at HA
            have HT : Hid (t = ⟨r.2.2.body.toArray⟩) := ht
            clear e1 hdn hnn hN ht
            go_wp2_with fail
            refine HW.out.mono ?_
            rintro e w2 ⟨rfl, hb2, _, hok⟩
            have HL2 : Hid (Live w.heap.size w2 bd r.2.2) := hok H0.out
            have HB2 : Hid (Below w.heap.size w w2) := HWR.out.trans hb2
            have HM2 : Hid (w2.cell? ⟨0, 0, none⟩ = some (.int .i64 m)) := cell_keep HB2.out HM.out
            clear hok hb2
            go_wp2_with fail
            rw [HZ.out]
            refine (rback_any z t N 0 HA.out m _ HM2.out HZS.out).mono ?_
            rintro e w3 ⟨rfl, hb3⟩
            have HL3 : Hid (Live w.heap.size w3 bd r.2.2) := HL2.out.below hb3
            have HC3 : Hid (w3.cell? ⟨bd, 3, none⟩ = some (.bool true)) := by show _ = _; rw [HL3.out.cell', HDN.out]
            have HB3 : Hid (Below w.heap.size w w3) := HB2.out.trans (hb3.mono HB2.out.size)
            have HBD : Hid (Calls Tryd.prog 18 #[ptr bd] w3 fun e w' => e = .returned (.string t) ∧ w' = w3) := by
              obtain ⟨f, hd, _⟩ := HL3.out
              refine (body_yes _ bd f r.2.2 w3 hd HDN.out).mono ?_
              rintro e w' ⟨rfl, rfl⟩
              exact ⟨ret_str HT.out.symm, rfl⟩
            clear hb3
            go_wp2_with fail
            refine (done_at bd true _ HC3.out).mono ?_
            rintro e w4 ⟨rfl, rfl⟩
            go_wp2_with fail
            refine HBD.out.mono ?_
            rintro e w5 ⟨rfl, rfl⟩
            go_wp2_with fail
            go_roundw
            case rel => exact ⟨i + 1, z, false, true, by omega, by go_num, by first | rfl | rw [HZ.out], rfl, rfl, HZB.out, .inr (.inr ⟨rfl, rfl, r.2.2, HL3.out, HDN.out⟩), HB3.out⟩
            case measure => simp [intOf]; omega
        · obtain ⟨e1, e2, e3⟩ := come_bad HRUN.out HIY.out (s := u.data.toList) (by rw [HR.out]; exact h0)
          rw [HR.out] at e1 e2 e3
          have HA : Hid (ans (runD start z.data.toList 0) = ((⟨#[]⟩ : ByteArray).data.toList, 0, r.1)) := by show _ = _; rw [HZD.out]; exact e1
          have hnn : ((r.2.1 : Int) != 0) = false := by rw [e2]; rfl
          have h8 : (r.1 == 8) = false := beq_eq_false_iff_ne.2 e3
          have h0' : (r.1 != 0) = true := by simpa using h0
          have H0 : Hid (r.1 ≠ 0) := h0
          clear e1 e2 e3 h0
          go_wp2_with fail
          refine HW.out.mono ?_
          rintro e w2 ⟨rfl, hb2, hbad, _⟩
          have HD2 : Hid (Dead w2 bd) := hbad H0.out
          have HB2 : Hid (Below w.heap.size w w2) := HWR.out.trans hb2
          have HM2 : Hid (w2.cell? ⟨0, 0, none⟩ = some (.int .i64 m)) := cell_keep HB2.out HM.out
          clear hbad hb2
          go_wp2_with fail
          rw [HZ.out]
          refine (rback_any z ⟨#[]⟩ 0 r.1 HA.out m _ HM2.out HZS.out).mono ?_
          rintro e w3 ⟨rfl, hb3⟩
          have HD3 : Hid (Dead w3 bd) := HD2.out.below hb3
          have HC3 : Hid (w3.cell? ⟨bd, 3, none⟩ = some (.bool false)) := (dec_cell HD3.out).2.2.2
          have HB3 : Hid (Below w.heap.size w w3) := HB2.out.trans (hb3.mono HB2.out.size)
          clear hb3
          go_wp2_with fail
          refine (done_at bd false _ HC3.out).mono ?_
          rintro e w4 ⟨rfl, rfl⟩
          go_wp2_with fail
          refine (body_no bd _ HC3.out).mono ?_
          rintro e w5 ⟨rfl, rfl⟩
          go_wp2_with fail
          go_roundw
          case rel => exact ⟨i + 1, z, true, false, by omega, by go_num, by first | rfl | rw [HZ.out], rfl, rfl, HZB.out, .inr (.inl ⟨rfl, rfl, HD3.out⟩), HB3.out⟩
          case measure => simp [intOf]; omega
    · have hii : ¬ (i : Int) < (n0 : Int) := by omega
      have HC3 : Hid (wr.cell? ⟨bd, 3, none⟩ = some (.bool o)) := HC.out.cell
      clear hwr hcs
      go_wp2_with fail
      refine (new_at _).mono ?_
      rintro e w2 ⟨bd2, rfl, hl2, hb2⟩
      have HM2 : Hid (w2.cell? ⟨0, 0, none⟩ = some (.int .i64 m)) := (hb2.cell (p := ⟨0, 0, none⟩) (by show 0 < wr.heap.size; omega)).trans HMR.out
      have hw := write_at wr.heap.size start ⟨#[120]⟩ bd2 m _ hl2 inv_start (by decide) HM2.out (by omega)
      rw [show runD start (⟨#[120]⟩ : ByteArray).data.toList 0 = (3, 0, start) by rfl] at hw
      have HW : Hid (Calls Tryd.prog 16 #[ptr bd2, .string ⟨#[120]⟩] w2 fun e w' => WrQ wr.heap.size w2 w' bd2 (3, 0, start) e) := hw
      have HB2 : Hid (Below wr.heap.size wr w2) := hb2
      clear hl2 hb2 hw
      go_wp2_with fail
      refine HW.out.mono ?_
      rintro e w3 ⟨rfl, hb3, _, _⟩
      have HB3 : Hid (Below wr.heap.size wr w3) := HB2.out.trans hb3
      have HC4 : Hid (w3.cell? ⟨bd, 3, none⟩ = some (.bool o)) := (HB3.out.cell (p := ⟨bd, 3, none⟩) (cell_in HC3.out)).trans HC3.out
      clear hb3
      go_wp2_with fail
      refine (done_at bd o _ HC4.out).mono ?_
      rintro e w4 ⟨rfl, rfl⟩
      go_wp2_with fail
      go_ret
      exact ⟨ret_bool (by simp), HWR.out.trans (HB3.out.mono HWR.out.size)⟩
end Go.Proofs.YtofafonppajfkaaDoor
