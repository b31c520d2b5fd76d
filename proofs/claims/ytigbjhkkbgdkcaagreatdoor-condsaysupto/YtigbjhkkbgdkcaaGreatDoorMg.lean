/-
  What meets, dateOf and Eval of the document's answers compute; a list of fields holds at most 2^20 letters and values, and the package variable that the library reads holds some number.
-/
import Derived.Test.YtigbjhkkbgdkcaaGreatDoorMf
import Derived.Deep.Cut
import Derived.Deep.DeepCutAuto
namespace Go.Proofs.YtigbjhkkbgdkcaaGreatDoor
open Go.RowKit

theorem ret_bb {a b c d : Bool} (h : (a, b) = (c, d)) : Ending.returned (.tuple #[.bool a, .bool b]) = .returned (.tuple #[.bool c, .bool d]) := by cases h; rfl
set_option maxHeartbeats 4000000 in
set_option maxRecDepth 100000 in
theorem rmeets_at (v : Value) (ls : List Fld) (s : ByteArray) (there : Bool) (tag : ByteArray) (weak : Bool) (a b : Bool) (h : mtE ls s.data.toList there tag.data.toList weak = (a, b)) (w : World) (hf : Fl w v ls) (hbk : bulkF ls ≤ 1048576) (hs : s.size ≤ 100) (ht : tag.size ≤ 140737488351232) :
    Calls Tryz.prog 20 #[v, .string s, .bool there, .string tag, .bool weak] w fun e w' => e = .returned (.tuple #[.bool a, .bool b]) ∧ Below w.heap.size w w' := by
  obtain ⟨x, hx⟩ : ∃ x : ByteArray, x.data.toList = jn (vals ls s.data.toList) := ⟨⟨(jn (vals ls s.data.toList)).toArray⟩, rfl⟩
  have HX : Hid (x.data.toList = jn (vals ls s.data.toList)) := hx
  obtain ⟨q, hq⟩ : ∃ q, q = (vals ls s.data.toList).isEmpty := ⟨_, rfl⟩
  have HQ : Hid ((!q) = !(vals ls s.data.toList).isEmpty) := by show _ = _; rw [hq]
  obtain ⟨ts, st, c, hl⟩ : ∃ ts st c, liE x.data.toList = ((ts, st), c) := ⟨_, _, _, rfl⟩
  have HL : Hid (liE x.data.toList = ((ts, st), c)) := hl
  have HF : Hid (Fl w v ls) := hf
  have HBK : Hid (bulkF ls ≤ 1048576) := hbk
  unfold mtE at h
  rw [← hx, hl, ← hq] at h
  simp only at h
  obtain ⟨ad, cap, hv, hnc, hcm, hcx⟩ := id hf
  subst hv
  unfold maxLen at hcm
  clear hcx
  clear hx hq hl hf hbk
  by_cases hbad : q = true ∨ c ≠ 0
  · rw [if_pos hbad] at h
    obtain ⟨rfl, rfl⟩ := Prod.mk.inj h
    have hcb : q = false → (c != 0) = true := fun h => by rcases hbad with h' | h'; · rw [h] at h'; cases h'
                                                          · simpa using h'
    clear hbad h
    cases q
    · replace hcb := hcb rfl
      go_enter Tryz.func20, Tryz.ntmps20
      go_wp2_with fail
      refine (rget_at _ ls s x true HX.out HQ.out _ HF.out HBK.out (by omega)).mono ?_
      rintro e w1 ⟨rfl, hb1⟩
      go_wp2_with fail
      refine (rtlist_any x _).mono ?_
      rintro e w2 ⟨v2, rfl, hown2, hb2⟩
      rw [HL.out]
      have HB2 : Hid (Below w.heap.size w w2) := hb1.trans (hb2.mono hb1.size)
      clear hown2 hb1 hb2
      go_wp2_with fail
      go_ret2
      exact ⟨rfl, HB2.out⟩
    · clear hcb
      go_enter Tryz.func20, Tryz.ntmps20
      go_wp2_with fail
      refine (rget_at _ ls s x false HX.out HQ.out _ HF.out HBK.out (by omega)).mono ?_
      rintro e w1 ⟨rfl, hb1⟩
      go_wp2_with fail
      refine (rtlist_any x _).mono ?_
      rintro e w2 ⟨v2, rfl, hown2, hb2⟩
      rw [HL.out]
      have HB2 : Hid (Below w.heap.size w w2) := hb1.trans (hb2.mono hb1.size)
      clear hown2 hb1 hb2
      go_wp2_with fail
      go_ret2
      exact ⟨rfl, HB2.out⟩
  · rw [if_neg hbad] at h
    obtain rfl : q = false := by cases q with | false => rfl | true => exact absurd (.inl rfl) hbad
    obtain rfl : c = 0 := Classical.byContradiction fun h => hbad (.inr h)
    clear hbad
    cases st
    · rw [if_neg (by decide)] at h
      obtain ⟨k, ot, oc, ho⟩ : ∃ (k : Bool) (x : ByteArray) (c : Int), paE tag.data.toList = ((k, x.data.toList), c) := ⟨(paE tag.data.toList).1.1, ⟨(paE tag.data.toList).1.2.toArray⟩, (paE tag.data.toList).2, rfl⟩
      have HO : Hid (paE tag.data.toList = ((k, ot.data.toList), oc)) := ho
      rw [ho] at h
      obtain ⟨ha, hb⟩ := Prod.mk.inj h
      obtain rfl : true = a := ha
      have HR : Hid (ts.any (hitT weak there ((k, ot.data.toList), oc)) = b) := hb
      clear h ho hb
      go_enter Tryz.func20, Tryz.ntmps20
      go_wp2_with fail
      refine (rget_at _ ls s x true HX.out HQ.out _ HF.out HBK.out (by omega)).mono ?_
      rintro e w1 ⟨rfl, hb1⟩
      go_wp2_with fail
      refine (rtlist_any x _).mono ?_
      rintro e w2 ⟨v2, rfl, hown2, hb2⟩
      rw [HL.out] at hown2 ⊢
      have HB2 : Hid (Below w.heap.size w w2) := hb1.trans (hb2.mono hb1.size)
      have HT2 : Hid (Tl w2 v2 ts) := Tl.own hown2
      clear hown2 hb1 hb2
      go_wp2_with fail
      refine (rtparse_at tag ot k oc HO.out _ ht).mono ?_
      rintro e w3 ⟨rfl, hb3⟩
      have hB3 := HB2.out.trans (hb3.mono HB2.out.size)
      obtain ⟨w4, hw4⟩ : ∃ w4, w4 = w3.alloc (.cells #[.bool k, .string ot] 30) := ⟨_, rfl⟩
      have hk0 : w4.cell? ⟨w3.heap.size, 0, none⟩ = some (.bool k) := by rw [hw4]; simp
      have hk1 : w4.cell? ⟨w3.heap.size, 1, none⟩ = some (.string ot) := by rw [hw4]; simp
      have hs4 : w3.heap.size < w4.heap.size := by rw [hw4]; simp
      have hB4 : Below w.heap.size w w4 := by rw [hw4]; exact hB3.alloc hB3.size _
      have hT4 : Tl w4 v2 ts := by rw [hw4]; exact (HT2.out.below hb3).below ((Below.refl _ _).alloc (Nat.le_refl _) _)
      obtain ⟨tad, tcap, htv, htn, htm, htc⟩ := hT4
      subst htv
      unfold maxLen at htm
      have HC : Hid (0 < ts.length → ∃ g off, tad = some ⟨g, off, none⟩ ∧ g < w4.heap.size ∧
        ∀ (k : Nat) (h : k < ts.length), w4.cell? ⟨g, off + k * 2, none⟩ = some (.bool (ts[k]).1) ∧ w4.cell? ⟨g, off + k * 2 + 1, none⟩ = some (.string ⟨(ts[k]).2.toArray⟩)) := htc
      have HB4 : Hid (Below w.heap.size w w4) := hB4
      have hs3w : w3.heap.size ≤ w4.heap.size := by omega
      clear htc hB4 hB3 hb3
      go_wp2_with fail
      rw [← hw4]
      clear hw4
      go_loopw [18, 48] (fun mv i wr => ∃ j : Nat, j ≤ ts.length ∧ i = .int .i64 j ∧ mv = .bool ((ts.take j).any (hitT weak there ((k, ot.data.toList), oc))) ∧ Below w4.heap.size w4 wr) (fun _ i _ => ts.length - (intOf i).toNat)
      case atStart => exact ⟨0, Nat.zero_le _, rfl, rfl, Below.refl _ _⟩
      case round =>
        obtain ⟨j, hj, rfl, rfl, hw⟩ := hrel
        have hsz := hw.size
        by_cases hlt : j < ts.length
        · obtain ⟨g, off, rfl, hgs, hce⟩ := HC.out (by omega)
          obtain ⟨hc0, hc1⟩ := hce j hlt
          have e0 := (hw.cell (p := ⟨g, off + j * 2, none⟩) hgs).trans hc0
          have e1 := (hw.cell (p := ⟨g, off + j * 2 + 1, none⟩) hgs).trans hc1
          have f0 := (hw.cell (p := ⟨w3.heap.size, 0, none⟩) hs4).trans hk0
          have f1 := (hw.cell (p := ⟨w3.heap.size, 1, none⟩) hs4).trans hk1
          obtain ⟨y, z, hyz⟩ : ∃ (y : Bool) (z : ByteArray), ts[j] = (y, z.data.toList) := ⟨(ts[j]).1, ⟨(ts[j]).2.toArray⟩, rfl⟩
          rw [hyz] at e0 e1
          replace e0 : wr.cell? ⟨g, off + j * 2, none⟩ = some (.bool y) := e0
          replace e1 : wr.cell? ⟨g, off + j * 2 + 1, none⟩ = some (.string z) := e1
          have hat := any_take ts (hitT weak there ((k, ot.data.toList), oc)) j hlt
          rw [hyz] at hat
          have hgr : g < wr.heap.size := Nat.lt_of_lt_of_le hgs hsz
          have hwr : w3.heap.size < wr.heap.size := by omega
          have hki : (j : Int) < (ts.length : Int) := by omega
          have hk00 : (0 : Int) ≤ (j : Int) := by omega
          have hcs := hit_cases weak there ((k, ot.data.toList), oc) (y, z.data.toList) ((ts.take j).any (hitT weak there ((k, ot.data.toList), oc)))
          simp only at hcs
          rw [← ByteArray.toList_eq, ← ByteArray.toList_eq] at hcs
          obtain ⟨m, hm⟩ : ∃ m, m = (ts.take j).any (hitT weak there ((k, ot.toList), oc)) := ⟨_, rfl⟩
          obtain ⟨hv, hhv⟩ : ∃ hv, hv = hitT weak there ((k, ot.toList), oc) (y, z.toList) := ⟨_, rfl⟩
          rw [← ByteArray.toList_eq, ← ByteArray.toList_eq] at hat
          rw [← hm, ← hhv] at hat hcs
          rw [← ByteArray.toList_eq, ← hm]
          have HAT : Hid ((ts.take (j + 1)).any (hitT weak there ((k, ot.toList), oc)) = (m || hv)) := hat
          clear hce hc0 hc1 hyz hat hm hhv
          rcases hcs with rfl | ⟨rfl, h1, rfl⟩ | ⟨rfl, h1, rfl, rfl⟩ | ⟨rfl, h1, rfl, h2, rfl⟩ | ⟨rfl, h1, rfl, h2, rfl, rfl⟩ | ⟨rfl, h1, rfl, h2, rfl, rfl, rfl⟩ | ⟨rfl, h1, rfl, h2, rfl, rfl, rfl⟩
          all_goals
            go_wp2_with fail
            go_roundw
            case rel => exact ⟨j + 1, by omega, by go_num, by rw [HAT.out]; simp, hw.alloc hsz _⟩
            case measure => simp [intOf]; omega
        · obtain rfl : j = ts.length := by omega
          have HW : Hid (Below w.heap.size w wr) := HB4.out.trans (hw.mono HB4.out.size)
          have HR2 : Hid ((ts.take ts.length).any (hitT weak there ((k, ot.data.toList), oc)) = b) := by show _ = _; rw [List.take_length]; exact HR.out
          rw [HR2.out]
          go_wp2_with fail
          go_ret2
          exact ⟨rfl, HW.out⟩
    · rw [if_pos rfl] at h
      obtain ⟨rfl, rfl⟩ := Prod.mk.inj h
      clear h
      go_enter Tryz.func20, Tryz.ntmps20
      go_wp2_with fail
      refine (rget_at _ ls s x true HX.out HQ.out _ HF.out HBK.out (by omega)).mono ?_
      rintro e w1 ⟨rfl, hb1⟩
      go_wp2_with fail
      refine (rtlist_any x _).mono ?_
      rintro e w2 ⟨v2, rfl, hown2, hb2⟩
      rw [HL.out]
      have HB2 : Hid (Below w.heap.size w w2) := hb1.trans (hb2.mono hb1.size)
      clear hown2 hb1 hb2
      go_wp2_with fail
      go_ret2
      exact ⟨rfl, HB2.out⟩
theorem ev_refuse {rd kn : Bool} {mo : Int} {inm : Bool × Bool} {n1 n2 : Int} {h1 h2 : Bool} : evE rd kn mo (true, false) inm n1 h1 n2 h2 = 412 := rfl
theorem ev_ius {rd kn : Bool} {mo : Int} {q : Bool} {inm : Bool × Bool} {n1 n2 : Int} {h1 h2 : Bool} (h : h1 = true) (hk : kn = true) (hd : decide (n1 < mo) = true) : evE rd kn mo (false, q) inm n1 h1 n2 h2 = 412 := by
  subst h hk; unfold evE; rw [hd]; rfl
theorem ev_on {rd kn : Bool} {mo : Int} {a q : Bool} {inm : Bool × Bool} {n1 n2 : Int} {h1 h2 : Bool} (h : (a = true ∧ q = true) ∨ (a = false ∧ (h1 = false ∨ kn = false ∨ decide (n1 < mo) = false))) : evE rd kn mo (a, q) inm n1 h1 n2 h2 = ev2 rd kn mo inm n2 h2 := by
  unfold evE
  rcases h with ⟨rfl, rfl⟩ | ⟨rfl, rfl | rfl | h⟩
  · rfl
  · rfl
  · cases h1 <;> rfl
  · rw [h]; cases h1 <;> cases kn <;> rfl
theorem mt_false (ls : List Fld) (name : List UInt8) (there : Bool) (tag : List UInt8) (weak : Bool) {a b : Bool} (h : mtE ls name there tag weak = (a, b)) (ha : a = false) : b = false := by
  unfold mtE at h
  subst ha
  split at h
  · exact (Prod.mk.inj h).2.symm
  · split at h
    · cases (Prod.mk.inj h).1
    · cases (Prod.mk.inj h).1
set_option maxHeartbeats 4000000 in
set_option maxRecDepth 100000 in
theorem reval_at (m : ByteArray) (v : Value) (ls : List Fld) (there : Bool) (tag : ByteArray) (mo : Int) (n1 c1 n2 c2 : Int) (p1 : PR (jn (vals ls sIUS)) n1 c1) (p2 : PR (jn (vals ls sIMS)) n2 c2) (r : Int)
    (h : evE (rdsB m.toList) (there && decide (0 ≤ mo)) mo (mtE ls sIM there tag.data.toList false) (mtE ls sINM there tag.data.toList true) n1 (!(vals ls sIUS).isEmpty && (c1 == 0)) n2 (!(vals ls sIMS).isEmpty && (c2 == 0)) = r)
    (w : World) (hf : Fl w v ls) (hbk : bulkF ls ≤ 1048576) (ht : tag.size ≤ 140737488351232) (hm : ∃ m, w.cell? ⟨2, 0, none⟩ = some (.int .i64 m)) :
    Calls Tryz.prog 10 #[.string m, v, .bool there, .string tag, .int .i64 mo] w fun e w' => e = .returned (.int .i64 r) ∧ Below w.heap.size w w' := by
  obtain ⟨rd, hrd⟩ : ∃ rd, rd = rdsB m.toList := ⟨_, rfl⟩
  obtain ⟨kn, hkn⟩ : ∃ kn, kn = (there && decide (0 ≤ mo)) := ⟨_, rfl⟩
  obtain ⟨a1, b1, hm1⟩ : ∃ a b, mtE ls sIM there tag.data.toList false = (a, b) := ⟨_, _, rfl⟩
  obtain ⟨a2, b2, hm2⟩ : ∃ a b, mtE ls sINM there tag.data.toList true = (a, b) := ⟨_, _, rfl⟩
  obtain ⟨h1, hh1⟩ : ∃ b, b = (!(vals ls sIUS).isEmpty && (c1 == 0)) := ⟨_, rfl⟩
  obtain ⟨h2, hh2⟩ : ∃ b, b = (!(vals ls sIMS).isEmpty && (c2 == 0)) := ⟨_, rfl⟩
  rw [← hrd, ← hkn, hm1, hm2, ← hh1, ← hh2] at h
  have hbf1 := mt_false ls _ _ _ _ hm1
  have hbf2 := mt_false ls _ _ _ _ hm2
  have HF : Hid (Fl w v ls) := hf
  have HBK : Hid (bulkF ls ≤ 1048576) := hbk
  obtain ⟨mm, hm⟩ := hm
  have HM : Hid (w.cell? ⟨2, 0, none⟩ = some (.int .i64 mm)) := hm
  have H1 : Hid (mtE ls (⟨#[73, 102, 45, 77, 97, 116, 99, 104]⟩ : ByteArray).data.toList there tag.data.toList false = (a1, b1)) := hm1
  have H2 : Hid (mtE ls (⟨#[73, 102, 45, 78, 111, 110, 101, 45, 77, 97, 116, 99, 104]⟩ : ByteArray).data.toList there tag.data.toList true = (a2, b2)) := hm2
  have P1 : Hid (PR (jn (vals ls (⟨#[73, 102, 45, 85, 110, 109, 111, 100, 105, 102, 105, 101, 100, 45, 83, 105, 110, 99, 101]⟩ : ByteArray).data.toList)) n1 c1) := p1
  have P2 : Hid (PR (jn (vals ls (⟨#[73, 102, 45, 77, 111, 100, 105, 102, 105, 101, 100, 45, 83, 105, 110, 99, 101]⟩ : ByteArray).data.toList)) n2 c2) := p2
  have Q1 : Hid (h1 = (!(vals ls (⟨#[73, 102, 45, 85, 110, 109, 111, 100, 105, 102, 105, 101, 100, 45, 83, 105, 110, 99, 101]⟩ : ByteArray).data.toList).isEmpty && (c1 == 0))) := hh1
  have Q2 : Hid (h2 = (!(vals ls (⟨#[73, 102, 45, 77, 111, 100, 105, 102, 105, 101, 100, 45, 83, 105, 110, 99, 101]⟩ : ByteArray).data.toList).isEmpty && (c2 == 0))) := hh2
  have HR : Hid (evE rd kn mo (a1, b1) (a2, b2) n1 h1 n2 h2 = r) := h
  obtain ⟨ad, cap, hv, hnc, hcm, hcx⟩ := id hf
  subst hv
  unfold maxLen at hcm
  clear hcx
  have hm3 : (rd = true ∧ (m.toList == [71, 69, 84]) = true) ∨ (rd = true ∧ (m.toList == [71, 69, 84]) = false ∧ (m.toList == [72, 69, 65, 68]) = true) ∨ (rd = false ∧ (m.toList == [71, 69, 84]) = false ∧ (m.toList == [72, 69, 65, 68]) = false) := by
    rw [hrd]; unfold rdsB
    cases (m.toList == [71, 69, 84]) <;> cases (m.toList == [72, 69, 65, 68]) <;> simp
  have hk3 : (kn = false ∧ there = false) ∨ (there = true ∧ kn = false ∧ ¬ (0 : Int) ≤ mo) ∨ (there = true ∧ kn = true ∧ (0 : Int) ≤ mo) := by
    rw [hkn]
    cases there
    · simp
    · by_cases h0 : 0 ≤ mo
      · simp [h0]
      · simp [h0]
  clear h hf hbk hm hm1 hm2 p1 p2 hh1 hh2 hrd hkn
  go_enter Tryz.func10, Tryz.ntmps10
  go_upto_region 1 with fail
  go_cut [11] (fun x wx => x = .bool rd ∧ wx = w)
  case first =>
    rcases hm3 with ⟨rfl, h3⟩ | ⟨rfl, h3, h4⟩ | ⟨rfl, h3, h4⟩
    all_goals
      go_wp2_with fail
      go_meet
      exact ⟨rfl, rfl⟩
  case rest =>
    obtain ⟨rfl, hwc⟩ := hcut
    replace hwc := hwc.symm
    subst hwc
    clear hm3
    go_upto_region 2 with fail
    go_cut [12] (fun x wx => x = .bool kn ∧ wx = w)
    case first =>
      rcases hk3 with ⟨rfl, rfl⟩ | ⟨rfl, rfl, h3⟩ | ⟨rfl, rfl, h3⟩
      all_goals
        go_wp2_with fail
        go_meet
        exact ⟨rfl, rfl⟩
    case rest =>
      obtain ⟨rfl, hwc⟩ := hcut
      replace hwc := hwc.symm
      subst hwc
      clear hk3
      go_wp2_with fail
      refine (rmeets_at _ ls ⟨#[73, 102, 45, 77, 97, 116, 99, 104]⟩ there tag false a1 b1 H1.out _ HF.out HBK.out (by decide) ht).mono ?_
      rintro e w1 ⟨rfl, hb1⟩
      have HM1 : Hid (w1.cell? ⟨2, 0, none⟩ = some (.int .i64 mm)) := cell_keep hb1 HM.out
      have HF1 : Hid (Fl w1 (.slice ad ls.length cap) ls) := HF.out.below hb1
      have hb1s := hb1.size
      by_cases hrf : a1 = true ∧ b1 = false
      · obtain ⟨rfl, rfl⟩ := hrf
        have HR2 : Hid (412 = r) := by show _ = _; rw [← HR.out]; rfl
        go_wp2_with fail
        go_ret
        exact ⟨ret_int HR2.out, hb1⟩
      · have hab : (a1 = true ∧ b1 = true) ∨ (a1 = false ∧ b1 = false) := by
          cases a1
          · exact .inr ⟨rfl, hbf1 rfl⟩
          · cases b1
            · exact absurd ⟨rfl, rfl⟩ hrf
            · exact .inl ⟨rfl, rfl⟩
        obtain ⟨c7, hc7⟩ : ∃ c, c = (!a1 && (h1 && (kn && decide (n1 < mo)))) := ⟨_, rfl⟩
        have h75 : (c7 = false ∧ a1 = true) ∨ (c7 = false ∧ a1 = false ∧ h1 = false) ∨ (c7 = false ∧ a1 = false ∧ h1 = true ∧ kn = false) ∨ (c7 = false ∧ a1 = false ∧ h1 = true ∧ kn = true ∧ ¬ n1 < mo) ∨ (c7 = true ∧ a1 = false ∧ h1 = true ∧ kn = true ∧ n1 < mo) := by
          rw [hc7]
          cases a1 <;> cases h1 <;> cases kn <;> simp
          by_cases h : n1 < mo <;> simp [h]
          omega
        have HR7 : Hid (c7 = true → 412 = r) := by
          intro h
          rw [h] at hc7
          rw [← HR.out]
          rcases hab with ⟨rfl, rfl⟩ | ⟨rfl, rfl⟩
          · cases hc7
          · unfold evE; simp only at hc7 ⊢; rw [← hc7]; rfl
        have HR8 : Hid (c7 = false → ev2 rd kn mo (a2, b2) n2 h2 = r) := by
          intro h
          rw [h] at hc7
          rw [← HR.out]
          rcases hab with ⟨rfl, rfl⟩ | ⟨rfl, rfl⟩
          · rfl
          · unfold evE; simp only at hc7 ⊢; rw [← hc7]; rfl
        clear hc7 hrf HR
        rcases hab with ⟨rfl, rfl⟩ | ⟨rfl, rfl⟩
        all_goals
          go_wp2_with fail
          refine (rdateOf_at _ ls ⟨#[73, 102, 45, 85, 110, 109, 111, 100, 105, 102, 105, 101, 100, 45, 83, 105, 110, 99, 101]⟩ n1 c1 P1.out h1 Q1.out _ HF1.out HBK.out (by decide) ⟨mm, HM1.out⟩).mono ?_
          rintro e w2 ⟨rfl, hb2⟩
          have HM2 : Hid (w2.cell? ⟨2, 0, none⟩ = some (.int .i64 mm)) := cell_keep hb2 HM1.out
          have HF2 : Hid (Fl w2 (.slice ad ls.length cap) ls) := HF1.out.below hb2
          have HB2 : Hid (Below w.heap.size w w2) := hb1.trans (hb2.mono hb1s)
          clear hb2
          go_upto_region 7 with fail
          go_cut [59] (fun x wx => x = .bool c7 ∧ wx = w2)
          case first =>
            rcases h75 with ⟨rfl, h3⟩ | ⟨rfl, h3, rfl⟩ | ⟨rfl, h3, rfl, rfl⟩ | ⟨rfl, h3, rfl, rfl, h4⟩ | ⟨rfl, h3, rfl, rfl, h4⟩
            all_goals first | (cases h3; done) | skip
            all_goals
              go_wp2_with fail
              go_meet
              exact ⟨by first | rfl | (simp; omega), rfl⟩
          case rest =>
            obtain ⟨rfl, hwc⟩ := hcut
            replace hwc := hwc.symm
            subst hwc
            clear h75
            cases c7
            · have HR2 : Hid (ev2 rd kn mo (a2, b2) n2 h2 = r) := HR8.out rfl
              clear HR7 HR8
              go_wp2_with fail
              refine (rmeets_at _ ls ⟨#[73, 102, 45, 78, 111, 110, 101, 45, 77, 97, 116, 99, 104]⟩ there tag true a2 b2 H2.out _ HF2.out HBK.out (by decide) ht).mono ?_
              rintro e w3 ⟨rfl, hb3⟩
              have HM3 : Hid (w3.cell? ⟨2, 0, none⟩ = some (.int .i64 mm)) := cell_keep hb3 HM2.out
              have HF3 : Hid (Fl w3 (.slice ad ls.length cap) ls) := HF2.out.below hb3
              have HB3 := HB2.out.trans (hb3.mono HB2.out.size)
              have HB3' : Hid (Below w.heap.size w w3) := HB3
              clear hb3 HB3
              obtain ⟨c15, hc15⟩ : ∃ c, c = (!a2 && (h2 && (kn && (rd && decide (mo ≤ n2))))) := ⟨_, rfl⟩
              have h156 : (c15 = false ∧ a2 = true) ∨ (c15 = false ∧ a2 = false ∧ h2 = false) ∨ (c15 = false ∧ a2 = false ∧ h2 = true ∧ kn = false) ∨ (c15 = false ∧ a2 = false ∧ h2 = true ∧ kn = true ∧ rd = false) ∨ (c15 = false ∧ a2 = false ∧ h2 = true ∧ kn = true ∧ rd = true ∧ ¬ mo ≤ n2) ∨ (c15 = true ∧ a2 = false ∧ h2 = true ∧ kn = true ∧ rd = true ∧ mo ≤ n2) := by
                rw [hc15]
                cases a2 <;> cases h2 <;> cases kn <;> cases rd <;> simp
                by_cases h : mo ≤ n2 <;> simp [h]
                omega
              have HRT : Hid (a2 = true ∧ b2 = true → (if rd = true then 304 else 412) = r) := by
                rintro ⟨h1', h2'⟩
                rw [← HR2.out, h1', h2']; rfl
              have HRF : Hid (b2 = false → (if c15 = true then 304 else 0) = r) := by
                intro h
                rw [← HR2.out, h, hc15]
                unfold ev2
                rw [Bool.and_false]; rfl
              clear hc15 HR2
              by_cases htt : a2 = true ∧ b2 = true
              · have HRT2 : Hid ((if rd = true then 304 else 412) = r) := HRT.out htt
                obtain ⟨rfl, rfl⟩ := htt
                clear HRT HRF h156
                cases rd
                · go_wp2_with fail
                  go_ret
                  exact ⟨ret_int HRT2.out, HB3'.out⟩
                · go_wp2_with fail
                  go_ret
                  exact ⟨ret_int HRT2.out, HB3'.out⟩
              · have hab2 : b2 = false ∧ (a2 = true ∨ a2 = false) := by
                  cases a2
                  · exact ⟨hbf2 rfl, .inr rfl⟩
                  · cases b2
                    · exact ⟨rfl, .inl rfl⟩
                    · exact absurd ⟨rfl, rfl⟩ htt
                obtain ⟨rfl, hab2⟩ := hab2
                have HRF2 : Hid ((if c15 = true then 304 else 0) = r) := HRF.out rfl
                clear HRT HRF htt
                rcases hab2 with rfl | rfl
                all_goals
                  go_wp2_with fail
                  refine (rdateOf_at _ ls ⟨#[73, 102, 45, 77, 111, 100, 105, 102, 105, 101, 100, 45, 83, 105, 110, 99, 101]⟩ n2 c2 P2.out h2 Q2.out _ HF3.out HBK.out (by decide) ⟨mm, HM3.out⟩).mono ?_
                  rintro e w4 ⟨rfl, hb4⟩
                  have HB4 : Hid (Below w.heap.size w w4) := HB3'.out.trans (hb4.mono HB3'.out.size)
                  clear hb4
                  go_upto_region 15 with fail
                  go_cut [92] (fun x wx => x = .bool c15 ∧ wx = w4)
                  case first =>
                    rcases h156 with ⟨rfl, h3⟩ | ⟨rfl, h3, rfl⟩ | ⟨rfl, h3, rfl, rfl⟩ | ⟨rfl, h3, rfl, rfl, rfl⟩ | ⟨rfl, h3, rfl, rfl, rfl, h4⟩ | ⟨rfl, h3, rfl, rfl, rfl, h4⟩
                    all_goals first | (cases h3; done) | skip
                    all_goals
                      go_wp2_with fail
                      go_meet
                      exact ⟨by first | rfl | (simp; omega), rfl⟩
                  case rest =>
                    obtain ⟨rfl, hwc⟩ := hcut
                    replace hwc := hwc.symm
                    subst hwc
                    clear h156
                    cases c15
                    · go_wp2_with fail
                      go_ret
                      exact ⟨ret_int HRF2.out, HB4.out⟩
                    · go_wp2_with fail
                      go_ret
                      exact ⟨ret_int HRF2.out, HB4.out⟩
            · have HR2 : Hid (412 = r) := HR7.out rfl
              clear HR7 HR8
              go_wp2_with fail
              go_ret
              exact ⟨ret_int HR2.out, HB2.out⟩
end Go.Proofs.YtigbjhkkbgdkcaaGreatDoor

/-
  The walk through CondSays: it answers true and turns nothing that was there; what comes in is of bulk at most 1048576, and the listed variables hold what their text lays.
-/
namespace Go.Proofs.YtigbjhkkbgdkcaaGreatDoor
open Go.RowKit

set_option maxHeartbeats 1000000 in
set_option maxRecDepth 100000 in
theorem walkCondSays (a0 : ByteArray) (a1 : Value) (l1 : List Fld) (a2 : Bool) (a3 : ByteArray) (a4 : Int) (w : World) (_z0 : a0.size ≤ 1048576) (z1 : Fl w a1 l1) (b1 : bulkF l1 ≤ 1048576) (z3 : a3.size ≤ 1048576) (_z4 : (Lit.int .i64 a4).wf = true) (hm : ∃ m, w.cell? ⟨2, 0, none⟩ = some (.int .i64 m)) (ht : DTabs w) :
    Calls Tryz.prog 3 #[.string a0, a1, .bool a2, .string a3, .int .i64 a4] w fun e w' => e = .returned (.bool true) ∧ Below w.heap.size w w' := by
  have HT : Hid (CoT w) := ⟨ht, hm⟩
  have HF : Hid (Fl w a1 l1) := z1
  have HBK : Hid (bulkF l1 ≤ 1048576) := b1
  obtain ⟨r, hr⟩ := EvR.ex a0.data.toList l1 a2 a3.data.toList a4
  have HR : Hid (EvR a0.data.toList l1 a2 a3.data.toList a4 r) := hr
  obtain ⟨n1, c1, n2, c2, p1, p2, he⟩ := hr
  have P1 : Hid (PR (jn (vals l1 sIUS)) n1 c1) := p1
  have P2 : Hid (PR (jn (vals l1 sIMS)) n2 c2) := p2
  rw [← ByteArray.toList_eq] at he
  have HE : Hid (evE (rdsB a0.toList) (a2 && decide (0 ≤ a4)) a4 (mtE l1 sIM a2 a3.data.toList false) (mtE l1 sINM a2 a3.data.toList true) n1 (!(vals l1 sIUS).isEmpty && (c1 == 0)) n2 (!(vals l1 sIMS).isEmpty && (c2 == 0)) = r) := he
  obtain ⟨ad, cap, hv, hnc, hcm, hcx⟩ := id z1
  subst hv
  unfold maxLen at hcm
  clear hcx ht hm z1 b1 p1 p2 he
  go_enter Tryz.func3, Tryz.ntmps3
  go_wp2_with fail
  refine (eval_at a0 _ l1 a2 a3 a4 r HR.out _ HF.out (evsz_bulk (by have := HBK.out; omega)) (by omega) HT.out).mono ?_
  rintro e w1 ⟨rfl, hb1⟩
  have HB1 : Hid (Below w.heap.size w w1) := hb1
  clear hb1
  go_wp2_with fail
  refine (reval_at a0 _ l1 a2 a3 a4 n1 c1 n2 c2 P1.out P2.out r HE.out _ (HF.out.below HB1.out) HBK.out (by omega) (HT.out.below HB1.out).2).mono ?_
  rintro e w2 ⟨rfl, hb2⟩
  have HB2 : Hid (Below w.heap.size w w2) := HB1.out.trans (hb2.mono HB1.out.size)
  clear hb2
  go_wp2_with fail
  go_ret
  exact ⟨by first | rfl | simp, HB2.out⟩
end Go.Proofs.YtigbjhkkbgdkcaaGreatDoor
