/-
  What the document's Unbundle answers; a text has fewer than 2^32 - 15 bytes.
-/
import Derived.Test.YtkmbhgbmdeoppabDoorMd
import Derived.Laws.IdiomStrings
import Derived.Shelf.RegionOpenPlain
import Derived.Deep.RegionHeld3
import Derived.Test.YtkmbhgbmdeoppabDoorShelf
import Derived.Test.YtkmbhgbmdeoppabDoorRows
import Derived.BigQuiet
import Derived.Deep.QuietTactic
import Derived.RangeFuncWrites
import Derived.RangeFuncBox
import Derived.RangeFuncBound
import Derived.RangeFuncCalls
import Derived.RangeFuncLeaves
import Derived.Below
import Derived.Lib.IndexLaws
namespace Go.Proofs.YtkmbhgbmdeoppabDoor
open Go.RowKit

set_option maxRecDepth 100000 in
theorem unone_at (w : World) :
    Calls Tryd.prog 15 #[] w fun e w' => e = .returned (.tuple #[.slice none 0 0, .slice none 0 0, .int .i64 3]) ∧ w' = w := by
  go_enter Tryd.func15, Tryd.ntmps15
  go_wp2_with fail
  go_ret3
  exact ⟨rfl, rfl⟩
theorem rpaC_small {s : List UInt8} {p q n e : Int} (h : paC s = (((p, q), n), e)) : 0 ≤ p ∧ p ≤ 99999 ∧ 0 ≤ q ∧ q ≤ 99999 ∧ p ≤ q := by
  rcases paC_two s with ⟨x, size, h2⟩ | h2
  · rw [h2] at h
    obtain ⟨h3, _⟩ := Prod.mk.inj h
    obtain ⟨h4, _⟩ := Prod.mk.inj h3
    have := okC_is (paC_ok h2).1
    rw [h4] at this
    simp only at this
    omega
  · rw [h2] at h
    obtain ⟨h3, _⟩ := Prod.mk.inj h
    obtain ⟨h4, _⟩ := Prod.mk.inj h3
    obtain ⟨h6, h7⟩ := Prod.mk.inj h4
    omega
def strSz : Value → Nat | .string s => s.size | _ => 0
set_option maxHeartbeats 4000000 in
set_option maxRecDepth 100000 in
theorem runbundle_at (b s : ByteArray) (size : Int) (m : Int) (w : World) (hm : w.cell? ⟨0, 0, none⟩ = some (.int .i64 m)) (hs : s.size < 4294967281) (hb : b.size ≤ 140737488351232) :
    Calls Tryd.prog 6 #[.string b, .string s, .int .i64 size] w fun e w' => ∃ (l : List Wn) (ts : List (List UInt8)) (c : Int) (v1 v2 : Value), e = .returned (.tuple #[v1, v2, .int .i64 c]) ∧ UnbR b.data.toList s.data.toList size l ts c ∧
      w'.ownsRow w.heap.size 29 2 v1 l.length (wns l) ∧ w'.ownsRow w.heap.size 9 1 v2 ts.length (strsV ts) ∧ Below w.heap.size w w' := by
  obtain ⟨i9, hi9, hz90, hz91, hz92⟩ := info_parts info9
  obtain ⟨ic, hic, hzc0, hzc1, hzc2⟩ := info_parts infoSc
  have HM : Hid (w.cell? ⟨0, 0, none⟩ = some (.int .i64 m)) := hm
  have HB : Hid (b.size ≤ maxLen) := by show _ ≤ _; unfold maxLen; omega
  have HS : Hid (s.size < 4294967281) := hs
  obtain ⟨tk, htk⟩ : ∃ tk, token b.data.toList = tk := ⟨_, rfl⟩
  have HTK : Hid (token b.data.toList = tk) := htk
  have hokb : okBn b.data.toList = (tk && decide (b.size ≤ 30)) := by unfold okBn; rw [htk, size_list]
  have BAD : Hid ((okBn b.data.toList = false ∨ size < 1 ∨ 99999 < size) → ∃ (l : List Wn) (ts : List (List UInt8)) (c : Int) (v1 v2 : Value), Ending.returned (.tuple #[.slice none 0 0, .slice none 0 0, .int .i64 3]) = .returned (.tuple #[v1, v2, .int .i64 c]) ∧ UnbR b.data.toList s.data.toList size l ts c ∧
      w.ownsRow w.heap.size 29 2 v1 l.length (wns l) ∧ w.ownsRow w.heap.size 9 1 v2 ts.length (strsV ts) ∧ Below w.heap.size w w) :=
    fun h => ⟨[], [], 3, _, _, rfl, UnbR.bad h, World.ownsRow_nil _ _ _ _, World.ownsRow_nil _ _ _ _, Below.refl _ _⟩
  clear hm hb hs htk
  cases tk
  · have HBAD : Hid (okBn b.data.toList = false) := by show _ = _; rw [hokb]; rfl
    clear hokb
    go_enter Tryd.func6, Tryd.ntmps6
    go_wp2_with fail
    refine (rtoken_any b _ HB.out).mono ?_
    rintro e w1 ⟨rfl, hww⟩
    rw [hww, HTK.out]
    clear hww w1
    go_wp2_with fail
    refine (unone_at _).mono ?_
    rintro e w1 ⟨rfl, hww⟩
    rw [hww]
    clear hww w1
    go_wp2_with fail
    go_ret3
    exact BAD.out (.inl HBAD.out)
  · by_cases h30 : b.size ≤ 30
    · have g30 : decide ((b.size : Int) > 30) = false := decide_eq_false (by omega)
      have H30 : Hid (b.size ≤ 30) := h30
      by_cases hout : size < 1 ∨ 99999 < size
      · have HO : Hid (decide (size < 1 ∨ 99999 < size) = true) := decide_eq_true hout
        have HOUT : Hid (size < 1 ∨ 99999 < size) := hout
        clear h30 hokb hout
        go_enter Tryd.func6, Tryd.ntmps6
        go_wp2_with fail
        refine (rtoken_any b _ HB.out).mono ?_
        rintro e w1 ⟨rfl, hww⟩
        rw [hww, HTK.out]
        clear hww w1
        go_wp2_with fail
        refine (outside_any size 1 99999 _).mono ?_
        rintro e w1 ⟨rfl, hww⟩
        rw [hww, HO.out]
        clear hww w1
        go_wp2_with fail
        refine (unone_at _).mono ?_
        rintro e w1 ⟨rfl, hww⟩
        rw [hww]
        clear hww w1
        go_wp2_with fail
        go_ret3
        exact BAD.out (.inr HOUT.out)
      · have HO : Hid (decide (size < 1 ∨ 99999 < size) = false) := decide_eq_false hout
        obtain ⟨n, rfl⟩ : ∃ n : Nat, size = (n : Int) := ⟨size.toNat, by omega⟩
        have HN : Hid (1 ≤ n ∧ n ≤ 99999) := by constructor <;> omega
        obtain ⟨hd, hhd⟩ : ∃ hd : ByteArray, (⟨#[45, 45]⟩ : ByteArray) ++ b ++ ⟨#[13, 10, 67, 111, 110, 116, 101, 110, 116, 45, 82, 97, 110, 103, 101, 58, 32]⟩ = hd := ⟨_, rfl⟩
        have HHD : Hid (hd.data.toList = hdB b.data.toList) := by
          show _ = _
          rw [← hhd]; unfold hdB; simp
        have hhs : hd.size = b.size + 19 := by rw [← size_list, HHD.out, hd_len, size_list]
        have HHS : Hid (hd.size = b.size + 19) := hhs
        have HCH : Hid (∀ W, Calls Tryd.prog 19 #[.int .i64 0] W fun e w' => e = .returned (.string ⟨#[0]⟩) ∧ Below W.heap.size W w') := fun W => rchr_any 0 (by decide) W
        obtain ⟨z, hz⟩ : ∃ z : ByteArray, (⟨(Lib.repeatL (⟨#[0]⟩ : ByteArray).data.toList n).toArray⟩ : ByteArray) = z := ⟨_, rfl⟩
        have HZ : Hid ((⟨(Lib.repeatL (⟨#[0]⟩ : ByteArray).data.toList n).toArray⟩ : ByteArray) = z) := hz
        have hzs : z.size = n := by
          rw [← size_list, ← hz]
          show (Lib.repeatL _ n).length = n
          rw [Lib.repeatL_length]; simp
        have HZS : Hid (z.size = n) := hzs
        clear h30 hokb hout hhs hz hzs
        go_enter Tryd.func6, Tryd.ntmps6
        go_wp2_with fail
        refine (rtoken_any b _ HB.out).mono ?_
        rintro e w1 ⟨rfl, hww⟩
        rw [hww, HTK.out]
        clear hww w1
        go_wp2_with fail
        refine (outside_any (n : Int) 1 99999 _).mono ?_
        rintro e w1 ⟨rfl, hww⟩
        rw [hww, HO.out]
        clear hww w1
        have hb30 := H30.out
        go_wp2_with fail
        refine (HCH.out _).mono ?_
        rintro e w1 ⟨rfl, hb1⟩
        have HW1 : Hid (Below w.heap.size w w1) := hb1
        clear hb1
        go_wp2_with fail
        refine (Tryd.strings_Repeat ⟨#[0]⟩ n _ (by have := HN.out; omega) (by have := HN.out; show 1 * n ≤ _; omega)).mono ?_
        rintro e w2 ⟨rfl, hb2⟩
        have HW2 : Hid (Below w.heap.size w w2) := HW1.out.trans (hb2.mono HW1.out.size)
        clear hb2
        rw [HZ.out]
        obtain ⟨cp, hcp⟩ : ∃ cp, grownCap w2 z.size 0 5 = cp := ⟨_, rfl⟩
        have hcp1 : z.size ≤ cp := by rw [← hcp]; exact grownCap_ge _ _ _ _
        have hcp2 : cp ≤ maxLen := by rw [← hcp]; exact grownCap_le_maxLen _ _ _ _ (by rw [HZS.out]; unfold maxLen; have := HN.out; omega)
        obtain ⟨w3, hw3⟩ : ∃ w3, Lib.bytesWorld w2 5 z = w3 := ⟨_, rfl⟩
        have hcv : (convert 9 44 (.string z)).run Tryd.prog w2 = .ok (.slice (some ⟨w2.heap.size, 0, none⟩) z.size cp) w3 := by
          rw [← hcp, ← hw3]; exact Lib.run_convert_string_bytes w2 9 44 5 z Tryd.underlying9 Tryd.underlying44 Tryd.underlying5
        have HF : Hid (BodyAt w2.heap.size z.data.toList w3 ∧ Below w2.heap.size w2 w3) := by rw [← hw3]; exact BodyAt.fresh w2 z
        have HCP : Hid (z.size ≤ cp ∧ cp ≤ maxLen) := ⟨hcp1, hcp2⟩
        clear hcp hw3 hcp1 hcp2
        go_wp2_with fail
        clear hcv
        go_loopw [12, 13, 14] (fun v1 v2 rv wr => ∃ (l : List Wn) (ts : List (List UInt8)) (bd : List UInt8) (rest : ByteArray), rv = .string rest ∧ UI b.data.toList (n : Int) s.data.toList l ts bd rest.data.toList ∧
          wr.ownsRow w2.heap.size 29 2 v1 l.length (wns l) ∧ wr.ownsRow w2.heap.size 9 1 v2 ts.length (strsV ts) ∧ BodyAt w2.heap.size bd wr ∧ l.length + rest.size ≤ s.size ∧ Below w2.heap.size w2 wr) (fun _ _ rv _ => strSz rv)
        case atStart => exact ⟨[], [], z.data.toList, s, rfl, UI.start _ n _ _ (by rw [size_list]; exact HZS.out), World.ownsRow_nil _ _ _ _, World.ownsRow_nil _ _ _ _, HF.out.1, by simp, HF.out.2⟩
        case round =>
          obtain ⟨l, ts, bd, rest, rfl, hui, hownA, hownB, hbody, hsz, hw⟩ := hrel
          obtain ⟨ta, tc, htv, htm, htnc, _⟩ := own_form2 hownA
          obtain ⟨wa, wc, hwv, hwm, hwnc, _⟩ := own_form2 hownB
          subst htv hwv
          have HUI : Hid (UI b.data.toList (n : Int) s.data.toList l ts bd rest.data.toList) := hui
          have HOA : Hid (wr.ownsRow w2.heap.size 29 2 (.slice ta l.length tc) l.length (wns l)) := hownA
          have HOB : Hid (wr.ownsRow w2.heap.size 9 1 (.slice wa ts.length wc) ts.length (strsV ts)) := hownB
          have HBODY : Hid (BodyAt w2.heap.size bd wr) := hbody
          have HSZ : Hid (l.length + rest.size ≤ s.size) := hsz
          have HW : Hid (Below w2.heap.size w2 wr) := hw
          have HWW : Hid (Below w.heap.size w wr) := HW2.out.trans (hw.mono HW2.out.size)
          unfold maxLen at htm hwm
          obtain ⟨pf, hpf⟩ : ∃ pf, Lib.hasPrefix rest.data.toList hd.data.toList = pf := ⟨_, rfl⟩
          have HPF : Hid (Lib.hasPrefix rest.data.toList hd.data.toList = pf) := hpf
          clear hui hownA hownB hbody hsz hw
          cases pf
          · clear hpf
            go_wp2_with fail
            refine (Tryd.strings_HasPrefix rest hd _).mono ?_
            rintro e w4 ⟨rfl, hww⟩
            rw [hww, HPF.out]
            clear hww w4
            have HBL : Hid (bd.length = n) := by have := HUI.out.len; show _ = _; omega
            obtain ⟨bb, hbb⟩ : ∃ bb : ByteArray, bb.data.toList = bd := ⟨⟨bd.toArray⟩, rfl⟩
            have HBB : Hid (bb.data.toList = bd) := hbb
            have hcv : (convert 44 9 (.slice (some ⟨w2.heap.size, 0, none⟩) z.size cp)).run Tryd.prog wr = .ok (.string bb) wr := by
              have h := run_convert_bytes_back (P := Tryd.prog) wr 44 9 5 ⟨w2.heap.size, 0, none⟩ cp bb.data.toList Tryd.underlying44 Tryd.underlying5 Tryd.underlying9 (by
                intro j hj
                have hj2 : j < bd.length := by rw [← hbb]; exact hj
                have e1 : (⟨w2.heap.size, 0, none⟩ : Addr).add j = ⟨w2.heap.size, j, none⟩ := by
                  by_cases h0 : j = 0
                  · subst h0; simp [Addr.add]
                  · simp [Addr.add, h0]
                rw [e1, (HBODY.out.2 j hj2).1]
                simp only [hbb])
              have hlen : bb.data.toList.length = z.size := by rw [hbb, HBL.out, HZS.out]
              rw [hlen] at h
              exact h
            have HFAIL : Hid (bdl b.data.toList bb.data.toList l ≠ (s.data.toList, 0) → UnbR b.data.toList s.data.toList (n : Int) [] [] 3) := by
              intro h
              rw [HBB.out] at h
              exact HUI.out.fail (by rw [← HHD.out]; exact HPF.out) h
            have HDONE : Hid (bdl b.data.toList bb.data.toList l = (s.data.toList, 0) → UnbR b.data.toList s.data.toList (n : Int) l ts 0) := by
              intro h
              rw [HBB.out] at h
              exact HUI.out.done h
            have HWL : Hid (Wl wr (.slice ta l.length tc) l) := Wl.own HOA.out
            clear hbb
            obtain ⟨t, c, ht⟩ := pair_bi (bdl b.data.toList bb.data.toList l)
            have HT2 : Hid (bdl b.data.toList bb.data.toList l = (t.data.toList, c)) := ht
            clear ht
            go_wp2_with fail
            refine (rbundle_at b bb (.slice ta l.length tc) l t c HT2.out _ HWL.out HB.out).mono ?_
            rintro e w4 ⟨rfl, hb4⟩
            have HOA4 : Hid (w4.ownsRow w2.heap.size 29 2 (.slice ta l.length tc) l.length (wns l)) := own_below3 HOA.out hb4
            have HOB4 : Hid (w4.ownsRow w2.heap.size 9 1 (.slice wa ts.length wc) ts.length (strsV ts)) := own_below3 HOB.out hb4
            have HW4 : Hid (Below w.heap.size w w4) := HWW.out.trans (hb4.mono HWW.out.size)
            have HLOW : Hid (w.heap.size ≤ w2.heap.size) := HW2.out.size
            clear hb4
            by_cases hc : c = 0
            · subst hc
              by_cases hts : t = s
              · have hte : (t.toList == s.toList) = true := by rw [hts]; exact beq_self_eq_true _
                have HY : Hid (UnbR b.data.toList s.data.toList (n : Int) l ts 0) := HDONE.out (by rw [HT2.out, hts])
                clear hts HDONE HFAIL
                go_wp2_with fail
                go_ret3
                exact ⟨l, ts, 0, _, _, rfl, HY.out, own_low HOA4.out HLOW.out, own_low HOB4.out HLOW.out, HW4.out⟩
              · have hte : (t.toList == s.toList) = false := by
                  rw [beq_eq_false_iff_ne, ByteArray.toList_eq, ByteArray.toList_eq]
                  intro e; apply hts; apply ByteArray.ext; apply Array.ext'; exact e
                have HU : Hid (UnbR b.data.toList s.data.toList (n : Int) [] [] 3) := HFAIL.out (by
                  rw [HT2.out]; intro e; exact hts (by apply ByteArray.ext; apply Array.ext'; exact (Prod.mk.inj e).1))
                clear hts HDONE HFAIL
                go_wp2_with fail
                refine (unone_at _).mono ?_
                rintro e wn ⟨rfl, hww⟩
                rw [hww]
                clear hww wn
                go_wp2_with fail
                go_ret3
                exact ⟨[], [], 3, _, _, rfl, HU.out, World.ownsRow_nil _ _ _ _, World.ownsRow_nil _ _ _ _, HW4.out⟩
            · have hcb : (c != 0) = true := by simpa using hc
              have HU : Hid (UnbR b.data.toList s.data.toList (n : Int) [] [] 3) := HFAIL.out (by
                rw [HT2.out]; intro e; exact hc (Prod.mk.inj e).2)
              clear hc HDONE HFAIL
              go_wp2_with fail
              refine (unone_at _).mono ?_
              rintro e wn ⟨rfl, hww⟩
              rw [hww]
              clear hww wn
              go_wp2_with fail
              go_ret3
              exact ⟨[], [], 3, _, _, rfl, HU.out, World.ownsRow_nil _ _ _ _, World.ownsRow_nil _ _ _ _, HW4.out⟩
          · have hle : hd.size ≤ rest.size := by
              unfold Lib.hasPrefix at hpf
              have := (List.isPrefixOf_iff_prefix.1 hpf).length_le
              rwa [size_list, size_list] at this
            have HP : Hid (Lib.hasPrefix rest.data.toList (hdB b.data.toList) = true) := by
              show _ = _
              rw [← HHD.out]; exact hpf
            obtain ⟨r1, hr1⟩ : ∃ r1, rest.extract hd.size rest.size = r1 := ⟨_, rfl⟩
            have HR1 : Hid (r1.data.toList = rest.data.toList.drop (hdB b.data.toList).length) := by
              show _ = _
              rw [← hr1, extract_seg, ← HHD.out, size_list]
              simp only
              rw [List.take_of_length_le (by rw [List.length_drop, size_list]; exact Nat.le_refl _)]
            have hr1s : r1.size + hd.size = rest.size := by rw [← size_list, HR1.out, List.length_drop, size_list, ← HHD.out, size_list]; omega
            have HR1S : Hid (r1.size + hd.size = rest.size ∧ r1.size < 4294967281) := ⟨hr1s, by have := HSZ.out; have := HS.out; omega⟩
            have hhi : (hd.size : Int) ≤ (rest.size : Int) := by omega
            have hrm : (rest.size : Int) ≤ 9223372036854775807 := by have := HSZ.out; have := HS.out; omega
            obtain ⟨ix, hix⟩ : ∃ ix, Lib.index r1.data.toList (⟨#[13, 10, 13, 10]⟩ : ByteArray).data.toList = ix := ⟨_, rfl⟩
            have HIX : Hid (Lib.index r1.data.toList (⟨#[13, 10, 13, 10]⟩ : ByteArray).data.toList = ix) := hix
            clear hpf hle hr1s hix
            by_cases hneg : ix < 0
            · have gneg : decide (ix < 0) = true := decide_eq_true hneg
              have HU : Hid (UnbR b.data.toList s.data.toList (n : Int) [] [] 3) := HUI.out.bad HP.out (.inl (by rw [← HR1.out]; show Lib.index _ (⟨#[13, 10, 13, 10]⟩ : ByteArray).data.toList < 0; rw [HIX.out]; exact hneg))
              clear hneg
              go_wp2_with fail
              refine (Tryd.strings_HasPrefix rest hd _).mono ?_
              rintro e w4 ⟨rfl, hww⟩
              rw [hww, HPF.out]
              clear hww w4
              go_wp2_with fail
              refine (Tryd.strings_Index r1 ⟨#[13, 10, 13, 10]⟩ m _ HR1S.out.2 (cell_keep HWW.out HM.out)).mono ?_
              rintro e w4 ⟨rfl, hww⟩
              rw [hww, HIX.out]
              clear hww w4
              go_wp2_with fail
              refine (unone_at _).mono ?_
              rintro e wn ⟨rfl, hww⟩
              rw [hww]
              clear hww wn
              go_wp2_with fail
              go_ret3
              exact ⟨[], [], 3, _, _, rfl, HU.out, World.ownsRow_nil _ _ _ _, World.ownsRow_nil _ _ _ _, HWW.out⟩
            · have gneg : decide (ix < 0) = false := decide_eq_false hneg
              obtain ⟨k, hk⟩ : ∃ k : Nat, ix = (k : Int) := ⟨ix.toNat, by omega⟩
              subst hk
              have hkl : k + 4 ≤ r1.size := by
                rcases index_two' r1.data.toList (⟨#[13, 10, 13, 10]⟩ : ByteArray).data.toList with h | ⟨k', h1, h2⟩
                · rw [HIX.out] at h; omega
                · rw [HIX.out] at h1
                  rw [size_list] at h2
                  have h2 : k' + 4 ≤ r1.size := h2
                  omega
              obtain ⟨x, hx⟩ : ∃ x, r1.extract 0 k = x := ⟨_, rfl⟩
              have HX : Hid (x.data.toList = r1.data.toList.take k) := by
                show _ = _
                rw [← hx, extract_seg]; simp
              have HXS : Hid (x.size ≤ maxLen) := by
                show _ ≤ _
                rw [← size_list, HX.out, List.length_take, size_list]; have := HR1S.out.2; unfold maxLen; omega
              obtain ⟨p, q, zz, c, hpc⟩ : ∃ p q zz c, paC x.data.toList = (((p, q), zz), c) := ⟨_, _, _, _, rfl⟩
              have HPC : Hid (paC x.data.toList = (((p, q), zz), c)) := hpc
              obtain ⟨d0, d1, d2, d3, d4⟩ := rpaC_small hpc
              obtain ⟨i, rfl⟩ : ∃ i : Nat, p = (i : Int) := ⟨p.toNat, by omega⟩
              obtain ⟨j, rfl⟩ : ∃ j : Nat, q = (j : Int) := ⟨q.toNat, by omega⟩
              obtain ⟨d, hd0⟩ : ∃ d : Nat, (j : Int) - (i : Int) = (d : Int) := ⟨j - i, by omega⟩
              have e1 : IntKind.i64.wrap ((j : Int) - (i : Int)) = (d : Int) := by rw [IntKind.wrap_i64]; omega
              have hks : (k : Int) ≤ (r1.size : Int) := by omega
              have hk0 : (0 : Int) ≤ (k : Int) := by omega
              have hr1m : r1.size < 4294967281 := HR1S.out.2
              obtain ⟨k4, hk4⟩ : ∃ k4, k + 4 = k4 := ⟨_, rfl⟩
              obtain ⟨k6, hk6⟩ : ∃ k6, k + 6 = k6 := ⟨_, rfl⟩
              obtain ⟨kd4, hkd4⟩ : ∃ kd4, k + 4 + d = kd4 := ⟨_, rfl⟩
              obtain ⟨kd, hkd⟩ : ∃ kd, k + 6 + d = kd := ⟨_, rfl⟩
              have HKS : Hid (k + 4 = k4 ∧ k + 6 = k6 ∧ k + 4 + d = kd4 ∧ k + 6 + d = kd) := ⟨hk4, hk6, hkd4, hkd⟩
              have e2 : IntKind.i64.wrap ((k : Int) + 6) = (k6 : Int) := by rw [IntKind.wrap_i64]; omega
              have e3 : IntKind.i64.wrap ((k6 : Int) + (d : Int)) = (kd : Int) := by rw [IntKind.wrap_i64]; omega
              have e4 : IntKind.i64.wrap ((k : Int) + 4) = (k4 : Int) := by rw [IntKind.wrap_i64]; omega
              have e5 : IntKind.i64.wrap ((k4 : Int) + (d : Int)) = (kd4 : Int) := by rw [IntKind.wrap_i64]; omega
              have HDJ : Hid (j = i + d ∧ i ≤ 99999 ∧ j ≤ 99999 ∧ k + 4 ≤ r1.size) := ⟨by omega, by omega, by omega, hkl⟩
              have HBADK : Hid (c ≠ 0 ∨ (r1.size : Int) < (kd : Int) ∨ (n : Int) < (j : Int) → UnbR b.data.toList s.data.toList (n : Int) [] [] 3) := by
                intro h
                refine HUI.out.bad HP.out (.inr ⟨k, by rw [← HR1.out]; exact HIX.out, ((i : Int), (j : Int)), zz, c, by rw [← HR1.out, ← HX.out]; exact HPC.out, ?_⟩)
                rw [← HR1.out, size_list]
                simp only
                omega
              clear hneg hpc d0 d1 d2 d3 d4 hd0 hkl hk4 hk6 hkd4 hkd
              go_wp2_with fail
              refine (Tryd.strings_HasPrefix rest hd _).mono ?_
              rintro e w4 ⟨rfl, hww⟩
              rw [hww, HPF.out]
              clear hww w4
              go_wp2_with fail
              refine (Tryd.strings_Index r1 ⟨#[13, 10, 13, 10]⟩ m _ HR1S.out.2 (cell_keep HWW.out HM.out)).mono ?_
              rintro e w4 ⟨rfl, hww⟩
              rw [hww, HIX.out]
              clear hww w4
              go_wp2_with fail
              refine (rcparse_at x (i : Int) (j : Int) zz c HPC.out _ HXS.out).mono ?_
              rintro e w4 ⟨rfl, hb4⟩
              have HOA4 : Hid (w4.ownsRow w2.heap.size 29 2 (.slice ta l.length tc) l.length (wns l)) := own_below3 HOA.out hb4
              have HOB4 : Hid (w4.ownsRow w2.heap.size 9 1 (.slice wa ts.length wc) ts.length (strsV ts)) := own_below3 HOB.out hb4
              have HBODY4 : Hid (BodyAt w2.heap.size bd w4) := HBODY.out.below hb4
              have HW4 : Hid (Below w2.heap.size w2 w4) := HW.out.trans (hb4.mono HW.out.size)
              have HW4A : Hid (Below w.heap.size w (w4.alloc (.cells #[.int .i64 (i : Int), .int .i64 (j : Int)] 29))) := by
                have h := HW2.out.trans (HW4.out.mono HW2.out.size)
                exact h.alloc h.size _
              clear hb4
              by_cases hc : c = 0
              · subst hc
                by_cases hl : (r1.size : Int) < (kd : Int)
                · have gl : decide ((r1.size : Int) < (kd : Int)) = true := decide_eq_true hl
                  have gl' : decide (r1.size < kd) = true := decide_eq_true (by omega)
                  have HU : Hid (UnbR b.data.toList s.data.toList (n : Int) [] [] 3) := HBADK.out (.inr (.inl hl))
                  clear HBADK
                  go_wp2_with fail
                  refine (unone_at _).mono ?_
                  rintro e wn ⟨rfl, hww⟩
                  rw [hww]
                  clear hww wn
                  go_wp2_with fail
                  go_ret3
                  exact ⟨[], [], 3, _, _, rfl, HU.out, World.ownsRow_nil _ _ _ _, World.ownsRow_nil _ _ _ _, HW4A.out⟩
                · have gl : decide ((r1.size : Int) < (kd : Int)) = false := decide_eq_false hl
                  have gl' : decide (r1.size < kd) = false := decide_eq_false (by omega)
                  by_cases hj : (n : Int) < (j : Int)
                  · have gj : decide ((j : Int) > (n : Int)) = true := decide_eq_true hj
                    have gj' : decide (n < j) = true := decide_eq_true (by omega)
                    have HU : Hid (UnbR b.data.toList s.data.toList (n : Int) [] [] 3) := HBADK.out (.inr (.inr hj))
                    clear HBADK
                    go_wp2_with fail
                    refine (unone_at _).mono ?_
                    rintro e wn ⟨rfl, hww⟩
                    rw [hww]
                    clear hww wn
                    go_wp2_with fail
                    go_ret3
                    exact ⟨[], [], 3, _, _, rfl, HU.out, World.ownsRow_nil _ _ _ _, World.ownsRow_nil _ _ _ _, HW4A.out⟩
                  · have gj : decide ((j : Int) > (n : Int)) = false := decide_eq_false hj
                    have gj' : decide (n < j) = false := decide_eq_false (by omega)
                    clear HBADK
                    have HIJ : Hid (i < j ∧ j ≤ n ∧ kd ≤ r1.size) := by
                      have h1 := (paC_ok (by rw [HPC.out] : paC x.data.toList = ((((i : Int), (j : Int)), zz), 0))).1
                      have h2 := okC_is h1
                      simp only at h2
                      refine ⟨by omega, by omega, by omega⟩
                    obtain ⟨tx, htx⟩ : ∃ tx, r1.extract k4 kd4 = tx := ⟨_, rfl⟩
                    have hk4a : (k4 : Int) ≤ (kd4 : Int) := by have := HKS.out; omega
                    have hk4b : (kd4 : Int) ≤ (r1.size : Int) := by have := HKS.out; have := HIJ.out; omega
                    have hk4c : (0 : Int) ≤ (k4 : Int) := by omega
                    have HTX : Hid (tx.data.toList = (r1.data.toList.drop (k + 4)).take (j - i) ∧ tx.size = j - i) := by
                      have h1 := HKS.out
                      have h2 := HIJ.out
                      have h3 := HDJ.out
                      have e : tx.data.toList = (r1.data.toList.drop (k + 4)).take (j - i) := by
                        rw [← htx, extract_seg]
                        simp only
                        rw [h1.1.symm, show kd4 - (k + 4) = j - i by omega]
                      refine ⟨e, ?_⟩
                      rw [← size_list, e, List.length_take, List.length_drop, size_list]; omega
                    have hlb : l.length + 1 ≤ 4294967281 := by have := HSZ.out; have := HS.out; omega
                    have hlb2 : ts.length + 1 ≤ 4294967281 := by have := HUI.out.both; omega
                    have hw4l : w2.heap.size ≤ w4.heap.size := HW4.out.size
                    have hAlt : ∀ q, (Value.slice ta l.length tc).ownBlock = some q → q < w4.heap.size := fun q hq => (HOA4.out.lt q hq).2
                    have hBlt : ∀ q, (Value.slice wa ts.length wc).ownBlock = some q → q < w4.heap.size := fun q hq => (HOB4.out.lt q hq).2
                    obtain ⟨w5, hw5⟩ : ∃ w5, w4.alloc (.cells #[.int .i64 (i : Int), .int .i64 (j : Int)] 29) = w5 := ⟨_, rfl⟩
                    have hs5 : w5.heap.size = w4.heap.size + 1 := by rw [← hw5]; simp
                    have t0 : w5.cell? ⟨w4.heap.size, 0, none⟩ = some (.int .i64 (i : Int)) := by rw [← hw5]; simp
                    have t1 : w5.cell? ⟨w4.heap.size, 1, none⟩ = some (.int .i64 (j : Int)) := by rw [← hw5]; simp
                    have HALL : Hid (∀ W, Below w5.heap.size w5 W → W.ownsRow w2.heap.size 29 2 (.slice ta l.length tc) l.length (wns l) ∧ W.ownsRow w2.heap.size 9 1 (.slice wa ts.length wc) ts.length (strsV ts) ∧
                        W.cell? ⟨w4.heap.size, 0, none⟩ = some (.int .i64 (i : Int)) ∧ W.cell? ⟨w4.heap.size, 1, none⟩ = some (.int .i64 (j : Int)) ∧ Below w2.heap.size w2 W ∧ w5.heap.size ≤ W.heap.size ∧ BodyAt w2.heap.size bd W) := by
                      intro W h
                      have h4 : Below w4.heap.size w4 W := by
                        rw [← hw5] at h
                        exact (below_alloc w4 _).trans (h.mono (by simp))
                      exact ⟨own_below3 HOA4.out h4, own_below3 HOB4.out h4, (h.cell (p := ⟨w4.heap.size, 0, none⟩) (show w4.heap.size < w5.heap.size by omega)).trans t0, (h.cell (p := ⟨w4.heap.size, 1, none⟩) (show w4.heap.size < w5.heap.size by omega)).trans t1,
                        HW4.out.trans (h4.mono hw4l), h.size, HBODY4.out.below h4⟩
                    obtain ⟨r2, hr2⟩ : ∃ r2, r1.extract kd r1.size = r2 := ⟨_, rfl⟩
                    have HR2 : Hid (r2.data.toList = r1.data.toList.drop (k + 6 + (j - i)) ∧ r2.size + 6 ≤ r1.size) := by
                      have h1 := HKS.out
                      have h2 := HIJ.out
                      have h3 := HDJ.out
                      have e : r2.data.toList = r1.data.toList.drop (k + 6 + (j - i)) := by
                        rw [← hr2, extract_seg]
                        simp only
                        rw [List.take_of_length_le (by rw [List.length_drop, size_list]; exact Nat.le_refl _), show kd = k + 6 + (j - i) by omega]
                      refine ⟨e, ?_⟩
                      rw [← size_list, e, List.length_drop, size_list]; omega
                    have HSTEP : Hid (UI b.data.toList (n : Int) s.data.toList (l ++ [((i : Int), (j : Int))]) (ts ++ [tx.data.toList]) (ovl bd i tx.data.toList) r2.data.toList) := by
                      have h := HUI.out.step HP.out k ((i : Int), (j : Int)) zz (by rw [← HR1.out]; exact HIX.out) (by rw [← HR1.out, ← HX.out]; exact HPC.out) (by
                        have h1 := HKS.out
                        have h2 := HIJ.out
                        have h3 := HDJ.out
                        rw [← HR1.out, size_list]; simp only; omega) (by have h2 := HIJ.out; simp only; omega)
                      rw [← HR1.out] at h
                      simp only [Int.toNat_natCast] at h
                      rw [HTX.out.1, HR2.out.1]
                      exact h
                    have hsl : ∀ W : World, (Instr.slice 44 (.slice (some ⟨w2.heap.size, 0, none⟩) z.size cp) (some (.int .i64 (i : Int))) none none).run Tryd.prog W = .ok (.slice (some ⟨w2.heap.size, i, none⟩) (z.size - i) (cp - i)) W :=
                      fun W => run_slice_low W 44 5 Tryd.underlying44 Tryd.sizeOf5 w2.heap.size z.size cp i (by have := HIJ.out; have := HZS.out; omega) HCP.out.1
                    have hkd : (kd : Int) ≤ (r1.size : Int) := by have := HIJ.out; omega
                    have hkd0 : (0 : Int) ≤ (kd : Int) := by omega
                    have hne5 : w4.heap.size < w5.heap.size := by omega
                    have hne25 : w2.heap.size ≤ w5.heap.size := by omega
                    clear hs5
                    go_wp2_with fail
                    clear hw5 hl hj gl gl' gj gj'
                    go_region_held3 (fun W => W.cell? ⟨w4.heap.size, 0, none⟩ = some (.int .i64 (i : Int)) ∧ W.cell? ⟨w4.heap.size, 1, none⟩ = some (.int .i64 (j : Int))) (go_keep) (first
                      | (
                      obtain ⟨ra, rb, q0', q1', hbW, hsW, hbdW⟩ := HALL.out _ ((Below.refl _ w5).alloc (Nat.le_refl _) (.cells #[.int .i64 (i : Int), .int .i64 (j : Int)] 29)).drew
                      refine step_append_lies _ (by rfl) _ _ _ (by rfl) w2.heap.size 29 ic (.agg #[.int .i64 0, .int .i64 0]) 2 16 Tryd.underlying22 hic hzc0 hzc1 hzc2 rfl (by decide) (.slice ta l.length tc) l.length (wns l) (by rfl) ra ⟨w5.heap.size, 0, none⟩ 1 1 [.int .i64 (i : Int), .int .i64 (j : Int)] (by rfl) (by rfl) (two_news (by simp) (by simp)) (by simp [Value.oneCell']) (by omega) (by unfold maxLen; omega) (by omega) (by simp; omega) (w5.heap.size + 1) (by simp) ?_
                      intro ga ca w6 hownA6 hgr6 hat6 hlt6
                      have hownB6 := own_kept rb hgr6 (sep_types ra rb (by decide))
                      have hbd6 := hbdW.grown ra (by decide) hgr6
                      have q0 := cell_kept_by hgr6 q0' hAlt
                      have q1 := cell_kept_by hgr6 q1' hAlt
                      have hw6 := hbW.grown hgr6 (by omega) (fun q hq => (ra.lt q hq).1)
                      have hs6 : w5.heap.size + 1 ≤ w6.heap.size := by have := hgr6.size; simp at this; omega
                      skip
                      clear ra rb q0' q1' hbW hsW hgr6 hat6 hbdW)
                      | (
                      obtain ⟨ra, rb, q0', q1', hbW, hsW, hbdW⟩ := HALL.out _ (((Below.refl _ w5).alloc (Nat.le_refl _) (.cells #[.int .i64 (i : Int), .int .i64 (j : Int)] 29)).alloc (by simp) (.cells #[.string tx] 9)).drew
                      refine step_append_lies _ (by rfl) _ _ _ (by rfl) w2.heap.size 29 ic (.agg #[.int .i64 0, .int .i64 0]) 2 16 Tryd.underlying22 hic hzc0 hzc1 hzc2 rfl (by decide) (.slice ta l.length tc) l.length (wns l) (by rfl) ra ⟨w5.heap.size, 0, none⟩ 1 1 [.int .i64 (i : Int), .int .i64 (j : Int)] (by rfl) (by rfl) (two_news (by simp) (by simp)) (by simp [Value.oneCell']) (by omega) (by unfold maxLen; omega) (by omega) (by simp; omega) (w5.heap.size + 2) (by simp) ?_
                      intro ga ca w6 hownA6 hgr6 hat6 hlt6
                      have hownB6 := own_kept rb hgr6 (sep_types ra rb (by decide))
                      have hbd6 := hbdW.grown ra (by decide) hgr6
                      have q0 := cell_kept_by hgr6 q0' hAlt
                      have q1 := cell_kept_by hgr6 q1' hAlt
                      have hw6 := hbW.grown hgr6 (by omega) (fun q hq => (ra.lt q hq).1)
                      have hs6 : w5.heap.size + 1 ≤ w6.heap.size := by have := hgr6.size; simp at this; omega
                      have y0 : w6.cell? ⟨w5.heap.size + 1, 0, none⟩ = some (.string tx) := cell_kept_by hgr6 (by simp) (fun q hq => by have := hAlt q hq; omega)
                      clear ra rb q0' q1' hbW hsW hgr6 hat6 hbdW)
                      | (
                      obtain ⟨ra, rb, q0', q1', hbW, hsW, hbdW⟩ := HALL.out _ (((Below.refl _ w5).alloc (Nat.le_refl _) (.cells #[.string tx] 9)).alloc (by simp) (.cells #[.int .i64 (i : Int), .int .i64 (j : Int)] 29)).drew
                      refine step_append_lies _ (by rfl) _ _ _ (by rfl) w2.heap.size 29 ic (.agg #[.int .i64 0, .int .i64 0]) 2 16 Tryd.underlying22 hic hzc0 hzc1 hzc2 rfl (by decide) (.slice ta l.length tc) l.length (wns l) (by rfl) ra ⟨w5.heap.size + 1, 0, none⟩ 1 1 [.int .i64 (i : Int), .int .i64 (j : Int)] (by rfl) (by rfl) (two_news (by simp) (by simp)) (by simp [Value.oneCell']) (by omega) (by unfold maxLen; omega) (by omega) (by simp; omega) (w5.heap.size + 2) (by simp) ?_
                      intro ga ca w6 hownA6 hgr6 hat6 hlt6
                      have hownB6 := own_kept rb hgr6 (sep_types ra rb (by decide))
                      have hbd6 := hbdW.grown ra (by decide) hgr6
                      have q0 := cell_kept_by hgr6 q0' hAlt
                      have q1 := cell_kept_by hgr6 q1' hAlt
                      have hw6 := hbW.grown hgr6 (by omega) (fun q hq => (ra.lt q hq).1)
                      have hs6 : w5.heap.size + 1 ≤ w6.heap.size := by have := hgr6.size; simp at this; omega
                      have y0 : w6.cell? ⟨w5.heap.size, 0, none⟩ = some (.string tx) := cell_kept_by hgr6 (by simp) (fun q hq => by have := hAlt q hq; omega)
                      clear ra rb q0' q1' hbW hsW hgr6 hat6 hbdW)
                      | (
                      refine step_append_lies _ (by rfl) _ _ _ (by rfl) w2.heap.size 9 i9 (.string ⟨#[]⟩) 1 16 Tryd.underlying23 hi9 hz90 hz91 hz92 rfl (by decide) (.slice wa ts.length wc) ts.length (strsV ts) (by rfl) (hownB6.alloc _) ⟨w6.heap.size, 0, none⟩ 1 1 [.string tx] (by rfl) (by rfl) (one_news (by simp)) (by simp [Value.oneCell']) (by omega) (by unfold maxLen; omega) (by omega) (by simp; omega) (w6.heap.size + 1) (by simp) ?_
                      intro gb cb w7 hownB7 hgr7 hat7 hlt7
                      have hownA7 := own_kept (hownA6.alloc _) hgr7 (sep_types hownB6 hownA6 (by decide))
                      have hbd7 := (hbd6.below (below_alloc _ _)).grown (hownB6.alloc _) (by decide) hgr7
                      have p0 := cell_kept_by hgr7 ((World.cell?_alloc_lt _ _ ⟨w4.heap.size, 0, none⟩ (show w4.heap.size < w6.heap.size by omega)).trans q0) hBlt
                      have p1 := cell_kept_by hgr7 ((World.cell?_alloc_lt _ _ ⟨w4.heap.size, 1, none⟩ (show w4.heap.size < w6.heap.size by omega)).trans q1) hBlt
                      have hw7 := (hw6.alloc (by omega) _).grown hgr7 (by simp; omega) (fun q hq => (hownB6.lt q hq).1)
                      clear hgr7 hat7)
                      | (
                      refine step_append_lies _ (by rfl) _ _ _ (by rfl) w2.heap.size 9 i9 (.string ⟨#[]⟩) 1 16 Tryd.underlying23 hi9 hz90 hz91 hz92 rfl (by decide) (.slice wa ts.length wc) ts.length (strsV ts) (by rfl) hownB6 ⟨w5.heap.size + 1, 0, none⟩ 1 1 [.string tx] (by rfl) (by rfl) (one_news y0) (by simp [Value.oneCell']) (by omega) (by unfold maxLen; omega) (by omega) (by omega) (w6.heap.size) (by rfl) ?_
                      intro gb cb w7 hownB7 hgr7 hat7 hlt7
                      have hownA7 := own_kept hownA6 hgr7 (sep_types hownB6 hownA6 (by decide))
                      have hbd7 := hbd6.grown hownB6 (by decide) hgr7
                      have p0 := cell_kept_by hgr7 q0 hBlt
                      have p1 := cell_kept_by hgr7 q1 hBlt
                      have hw7 := hw6.grown hgr7 (by omega) (fun q hq => (hownB6.lt q hq).1)
                      clear hgr7 hat7)
                      | (
                      refine step_append_lies _ (by rfl) _ _ _ (by rfl) w2.heap.size 9 i9 (.string ⟨#[]⟩) 1 16 Tryd.underlying23 hi9 hz90 hz91 hz92 rfl (by decide) (.slice wa ts.length wc) ts.length (strsV ts) (by rfl) hownB6 ⟨w5.heap.size, 0, none⟩ 1 1 [.string tx] (by rfl) (by rfl) (one_news y0) (by simp [Value.oneCell']) (by omega) (by unfold maxLen; omega) (by omega) (by omega) (w6.heap.size) (by rfl) ?_
                      intro gb cb w7 hownB7 hgr7 hat7 hlt7
                      have hownA7 := own_kept hownA6 hgr7 (sep_types hownB6 hownA6 (by decide))
                      have hbd7 := hbd6.grown hownB6 (by decide) hgr7
                      have p0 := cell_kept_by hgr7 q0 hBlt
                      have p1 := cell_kept_by hgr7 q1 hBlt
                      have hw7 := hw6.grown hgr7 (by omega) (fun q hq => (hownB6.lt q hq).1)
                      clear hgr7 hat7))
                    all_goals
                      have hA7 : w7.ownsRow w2.heap.size 29 2 (.slice (some ⟨ga, 0, none⟩) (l.length + 1) ca) (l ++ [((i : Int), (j : Int))]).length (wns (l ++ [((i : Int), (j : Int))])) := by
                        rw [← wns_snoc, List.length_append]; exact hownA7
                      have hB7 : w7.ownsRow w2.heap.size 9 1 (.slice (some ⟨gb, 0, none⟩) (ts.length + 1) cb) (ts ++ [tx.data.toList]).length (strsV (ts ++ [tx.data.toList])) := by
                        have e : strsV (ts ++ [tx.data.toList]) = strsV ts ++ [.string tx] := by unfold strsV; rw [List.map_append]; rfl
                        rw [e, List.length_append]; exact hownB7
                      have HBD8 : Hid (BodyAt w2.heap.size bd w7.drew) := hbd7.below (Below.refl _ _).drew
                      have HA8 : Hid (w7.drew.ownsRow w2.heap.size 29 2 (.slice (some ⟨ga, 0, none⟩) (l.length + 1) ca) (l ++ [((i : Int), (j : Int))]).length (wns (l ++ [((i : Int), (j : Int))]))) := own_below3 hA7 (Below.refl _ _).drew
                      have HB8 : Hid (w7.drew.ownsRow w2.heap.size 9 1 (.slice (some ⟨gb, 0, none⟩) (ts.length + 1) cb) (ts ++ [tx.data.toList]).length (strsV (ts ++ [tx.data.toList]))) := own_below3 hB7 (Below.refl _ _).drew
                      have HW8 : Hid (Below w2.heap.size w2 w7.drew) := hw7.drew
                      have HFIT : Hid (i + tx.data.toList.length ≤ bd.length ∧ tx.size ≤ z.size - i) := by
                        have h1 := HIJ.out
                        have h2 := HTX.out.2
                        have h3 := HUI.out.len
                        have h4 := HZS.out
                        rw [size_list]
                        constructor <;> omega
                      clear hA7 hB7 hownA7 hownB7 hbd7 hw7 hownA6 hownB6 hbd6 HALL
                      have mixed : Tryd.prog.follows Departure.mixedOrders = true := by kernel_rfl
                      go_wp2_with fail
                      go_region_law_o (refine step_copy_string rfl _ _ 44 9 rfl 5 Tryd.underlying44 Tryd.sizeOf5 w2.heap.size i (z.size - i) (cp - i) (by simp [Act.eval, Act.put]) tx (by simp [Act.eval, Act.put]) HFIT.out.2 (fun q hq => by rw [(HBD8.out.2 (i + q) (by have := HFIT.out.1; rw [size_list] at this; omega)).1]; rfl) (fun q hq => (HBD8.out.2 (i + q) (by have := HFIT.out.1; rw [size_list] at this; omega)).2) ?_)
                    all_goals
                      have HBD9 : Hid (BodyAt w2.heap.size (ovl bd i tx.data.toList) (w7.drew.setCells w2.heap.size i (tx.data.toList.map fun x => Value.int .u8 (x.toNat : Int)))) := HBD8.out.put HFIT.out.1
                      have HA9 : Hid _ := HBD8.out.row HA8.out (by decide) i (tx.data.toList.map fun x => Value.int .u8 (x.toNat : Int))
                      have HB9 : Hid _ := HBD8.out.row HB8.out (by decide) i (tx.data.toList.map fun x => Value.int .u8 (x.toNat : Int))
                      have HW9 : Hid (Below w2.heap.size w2 (w7.drew.setCells w2.heap.size i (tx.data.toList.map fun x => Value.int .u8 (x.toNat : Int)))) := HW8.out.grown (grown_setCells _ _ _) HW8.out.size (fun q hq => by cases hq; exact Nat.le_refl _)
                      generalize (w7.drew.setCells w2.heap.size i (tx.data.toList.map fun x => Value.int .u8 (x.toNat : Int))) = w9 at HBD9 HA9 HB9 HW9 ⊢
                      go_wp2_with fail
                      go_roundw
                      case rel => exact ⟨_, _, _, _, rfl, HSTEP.out, HA9.out, HB9.out, HBD9.out, by have h1 := HSZ.out; have h2 := HR2.out.2; have h3 := HR1S.out.1; simp; omega, HW9.out⟩
                      case measure => have h2 := HR2.out.2; have h3 := HR1S.out.1; simp [strSz]; omega
              · have hcb : (c != 0) = true := by simpa using hc
                have HU : Hid (UnbR b.data.toList s.data.toList (n : Int) [] [] 3) := HBADK.out (.inl hc)
                clear hc HBADK
                go_wp2_with fail
                refine (unone_at _).mono ?_
                rintro e wn ⟨rfl, hww⟩
                rw [hww]
                clear hww wn
                go_wp2_with fail
                go_ret3
                exact ⟨[], [], 3, _, _, rfl, HU.out, World.ownsRow_nil _ _ _ _, World.ownsRow_nil _ _ _ _, HW4A.out⟩
    · have g30 : decide ((b.size : Int) > 30) = true := decide_eq_true (by omega)
      have HBAD : Hid (okBn b.data.toList = false) := by show _ = _; rw [hokb, decide_eq_false h30]; rfl
      clear hokb h30
      go_enter Tryd.func6, Tryd.ntmps6
      go_wp2_with fail
      refine (rtoken_any b _ HB.out).mono ?_
      rintro e w1 ⟨rfl, hww⟩
      rw [hww, HTK.out]
      clear hww w1
      go_wp2_with fail
      refine (unone_at _).mono ?_
      rintro e w1 ⟨rfl, hww⟩
      rw [hww]
      clear hww w1
      go_wp2_with fail
      go_ret3
      exact BAD.out (.inl HBAD.out)
end Go.Proofs.YtkmbhgbmdeoppabDoor

/-
  Eq of the document's answers on two lists of the same slices of a body answers true and turns nothing that was there.
-/
namespace Go.Proofs.YtkmbhgbmdeoppabDoor
open Go.RowKit

set_option maxHeartbeats 1000000 in
set_option maxRecDepth 100000 in
theorem eqC_same (v v' : Value) (ts : List Wn) (w : World) (h : Wl w v ts) (h' : Wl w v' ts) :
    Calls Tryd.prog 7 #[v, v'] w fun e w' => e = .returned (.bool true) ∧ Below w.heap.size w w' := by
  obtain ⟨ad, cap, hv, hnc, hcm, hc⟩ := h
  obtain ⟨ad', cap', hv', hnc', hcm', hc'⟩ := h'
  subst hv hv'
  unfold maxLen at hcm hcm'
  have HC : Hid (0 < ts.length → ∃ g off, ad = some ⟨g, off, none⟩ ∧ g < w.heap.size ∧
    ∀ (k : Nat) (h : k < ts.length), w.cell? ⟨g, off + k * 2, none⟩ = some (.int .i64 (ts[k]).1) ∧ w.cell? ⟨g, off + k * 2 + 1, none⟩ = some (.int .i64 (ts[k]).2)) := hc
  have HC' : Hid (0 < ts.length → ∃ g off, ad' = some ⟨g, off, none⟩ ∧ g < w.heap.size ∧
    ∀ (k : Nat) (h : k < ts.length), w.cell? ⟨g, off + k * 2, none⟩ = some (.int .i64 (ts[k]).1) ∧ w.cell? ⟨g, off + k * 2 + 1, none⟩ = some (.int .i64 (ts[k]).2)) := hc'
  clear hc hc'
  go_enter Tryd.func7, Tryd.ntmps7
  go_wp2_with fail
  go_loopw [14] (fun i wr => ∃ k : Nat, k ≤ ts.length ∧ i = .int .i64 k ∧ Below w.heap.size w wr) (fun i _ => ts.length - (intOf i).toNat)
  case atStart => exact ⟨0, Nat.zero_le _, rfl, Below.refl _ _⟩
  case round =>
    obtain ⟨k, hk, rfl, hw⟩ := hrel
    by_cases hlt : k < ts.length
    · obtain ⟨g, off, rfl, hgs, hce⟩ := HC.out (by omega)
      obtain ⟨g', off', rfl, hgs', hce'⟩ := HC'.out (by omega)
      obtain ⟨p1, p2⟩ := hce k hlt
      obtain ⟨q1, q2⟩ := hce' k hlt
      have c1 : wr.cell? ⟨g, off + k * 2, none⟩ = some (.int .i64 (ts[k]).1) := by rw [hw.cell (p := ⟨g, off + k * 2, none⟩) hgs]; exact p1
      have c2 : wr.cell? ⟨g, off + k * 2 + 1, none⟩ = some (.int .i64 (ts[k]).2) := by rw [hw.cell (p := ⟨g, off + k * 2 + 1, none⟩) hgs]; exact p2
      have d1 : wr.cell? ⟨g', off' + k * 2, none⟩ = some (.int .i64 (ts[k]).1) := by rw [hw.cell (p := ⟨g', off' + k * 2, none⟩) hgs']; exact q1
      have d2 : wr.cell? ⟨g', off' + k * 2 + 1, none⟩ = some (.int .i64 (ts[k]).2) := by rw [hw.cell (p := ⟨g', off' + k * 2 + 1, none⟩) hgs']; exact q2
      generalize (ts[k]).1 = x at c1 d1
      generalize (ts[k]).2 = y at c2 d2
      have hsz := hw.size
      have hgr : g < wr.heap.size := by omega
      have hgr' : g' < wr.heap.size := by omega
      clear hce hce' p1 p2 q1 q2
      have hki : (k : Int) < (ts.length : Int) := by omega
      have hk0 : (0 : Int) ≤ (k : Int) := by omega
      go_wp2_with fail
      go_quiet (fail)
      go_wp2_with fail
      go_roundw
      case rel => exact ⟨k + 1, by omega, by go_num, (hw.alloc (by omega) _).trans (drewN_below _ _ _)⟩
      case measure => simp [intOf]; omega
    · go_wp2_with fail
      go_ret
      exact ⟨rfl, hw⟩
end Go.Proofs.YtkmbhgbmdeoppabDoor

/-
  Small laws on rows of memory that a call made itself; no program is named here.
-/
namespace Go.Proofs.YtkmbhgbmdeoppabDoor
open Go.RowKit

theorem own_nil {w : World} {B : Nat} {e : TypeId} {v : Value} {xs : List Value} (h : w.ownsRow B e 1 v 0 xs) : xs = [] := by
  have := h.1
  simpa using this

theorem own_cell {w : World} {B : Nat} {v : Value} {n : Nat} {ps : List (List UInt8)} (h : w.ownsRow B 9 1 v n (strs ps)) : n = ps.length := by
  have := h.1
  rw [strs_length] at this
  omega

theorem own_slice {w : World} {B : Nat} {e : TypeId} {v : Value} {n : Nat} {xs : List Value} (h : w.ownsRow B e 1 v n xs) : ∃ ad cap, v = .slice ad n cap ∧ cap ≤ maxLen ∧ n ≤ cap ∧ (0 < n → ∃ g, ad = some ⟨g, 0, none⟩ ∧ B ≤ g ∧ g < w.heap.size ∧ ∀ j, j < n → w.cell? ⟨g, j, none⟩ = xs[j]?) := by
  rcases h.2 with ⟨rfl, rfl⟩ | ⟨g, cap, cur, hv, hb, hg, hnc, hcm, _, _⟩
  · exact ⟨none, 0, rfl, by unfold maxLen; omega, Nat.le_refl _, fun h => absurd h (by omega)⟩
  · refine ⟨some ⟨g, 0, none⟩, cap, hv, hcm, hnc, fun _ => ⟨g, rfl, hb, (Array.getElem?_eq_some_iff.1 hg).1, fun j hj => ?_⟩⟩
    subst hv
    exact h.cellAt j (by omega)

theorem own_below2 {w w1 : World} {B : Nat} {e : TypeId} {v : Value} {n : Nat} {xs : List Value} (h : w.ownsRow B e 1 v n xs) (hb : Below w.heap.size w w1) : w1.ownsRow B e 1 v n xs := by
  refine ⟨h.1, ?_⟩
  rcases h.2 with h0 | ⟨g, cap, cur, hv, hB, hg, h3⟩
  · exact .inl h0
  · exact .inr ⟨g, cap, cur, hv, hB, (hb.block g (Array.getElem?_eq_some_iff.1 hg).1).trans hg, h3⟩
theorem ownsRow_le' {w : World} {B B' : Nat} {e : TypeId} {v : Value} {n : Nat} {xs : List Value} (h : w.ownsRow B e 1 v n xs) (hb : B' ≤ B) : w.ownsRow B' e 1 v n xs := by
  refine ⟨h.1, ?_⟩
  rcases h.2 with h0 | ⟨g, cap, cur, hv, hB, h3⟩
  · exact .inl h0
  · exact .inr ⟨g, cap, cur, hv, Nat.le_trans hb hB, h3⟩
end Go.Proofs.YtkmbhgbmdeoppabDoor

/-
  Eq of the document's answers on two lists of the same strings answers true and turns nothing.
-/
namespace Go.Proofs.YtkmbhgbmdeoppabDoor
open Go.RowKit

set_option maxHeartbeats 1000000 in
set_option maxRecDepth 100000 in
theorem eqS_same (v v' : Value) (ps : List (List UInt8)) (n B B' : Nat) (w : World) (hn : n ≤ 100000) (h : w.ownsRow B 9 1 v n (strs ps)) (h' : w.ownsRow B' 9 1 v' n (strs ps)) :
    Calls Tryd.prog 8 #[v, v'] w fun e w' => e = .returned (.bool true) ∧ w' = w := by
  have hl := own_cell h
  obtain ⟨ad, cap, hv, hcm, hnc, hc⟩ := own_slice h
  obtain ⟨ad', cap', hv', hcm', hnc', hc'⟩ := own_slice h'
  subst hv hv'
  unfold maxLen at hcm hcm'
  have HC : Hid (0 < n → ∃ g, ad = some ⟨g, 0, none⟩ ∧ B ≤ g ∧ g < w.heap.size ∧ ∀ j, j < n → w.cell? ⟨g, j, none⟩ = (strs ps)[j]?) := hc
  have HC' : Hid (0 < n → ∃ g, ad' = some ⟨g, 0, none⟩ ∧ B' ≤ g ∧ g < w.heap.size ∧ ∀ j, j < n → w.cell? ⟨g, j, none⟩ = (strs ps)[j]?) := hc'
  have HL : Hid (n = ps.length) := hl
  clear h h' hc hc' hl
  go_enter Tryd.func8, Tryd.ntmps8
  go_wp2_with fail
  go_loop [14] (fun i => ∃ k : Nat, k ≤ n ∧ i = .int .i64 k) (fun i => n - (intOf i).toNat)
  case atStart => exact ⟨0, Nat.zero_le _, rfl⟩
  case round =>
    obtain ⟨k, hk, rfl⟩ := hrel
    by_cases hlt : k < n
    · obtain ⟨g, rfl, _, _, hce⟩ := HC.out (by omega)
      obtain ⟨g', rfl, _, _, hce'⟩ := HC'.out (by omega)
      have hkl : k < ps.length := by rw [← HL.out]; exact hlt
      have c1 : w.cell? ⟨g, k, none⟩ = some (.string ⟨(ps[k]).toArray⟩) := by rw [hce k hlt]; exact strs_get ps k hkl
      have c2 : w.cell? ⟨g', k, none⟩ = some (.string ⟨(ps[k]).toArray⟩) := by rw [hce' k hlt]; exact strs_get ps k hkl
      generalize (⟨(ps[k]).toArray⟩ : ByteArray) = u at c1 c2
      clear hce hce'
      go_wp2
      go_round
      case rel => exact ⟨k + 1, by omega, by go_num⟩
      case measure => simp [intOf]; omega
    · go_wp2
      go_ret
      exact ⟨rfl, rfl⟩
end Go.Proofs.YtkmbhgbmdeoppabDoor

/-
  The walk through SpanUnbundles: it answers true and turns nothing that was there.
-/
namespace Go.Proofs.YtkmbhgbmdeoppabDoor
open Go.RowKit

theorem strs_V (ts : List (List UInt8)) : strsV ts = strs ts := by unfold strsV strs; rfl
theorem unb_len {b s : List UInt8} {size : Int} {l : List Wn} {ts : List (List UInt8)} {c : Int} (h : UnbR b s size l ts c) : ts.length ≤ 100000 := by
  rcases h with ⟨_, body, _, h2, rfl⟩ | ⟨_, _, rfl, _⟩
  · have := (bdl_is h2).2.2.1
    rw [List.length_map]; omega
  · simp
set_option maxHeartbeats 2000000 in
set_option maxRecDepth 100000 in
theorem walkSpanUnbundles (a0 a1 : ByteArray) (a2 : Int) (w : World) (z0 : a0.size ≤ 1048576) (z1 : a1.size ≤ 1048576) (_z2 : (Lit.int .i64 a2).wf = true) (hm : ∃ m, w.cell? ⟨0, 0, none⟩ = some (.int .i64 m)) (ht : STabs w) :
    Calls Tryd.prog 3 #[.string a0, .string a1, .int .i64 a2] w fun e w' => e = .returned (.bool true) ∧ Below w.heap.size w w' := by
  obtain ⟨m, hm⟩ := hm
  have HT : Hid (STabs w) := ht
  have HM : Hid (w.cell? ⟨0, 0, none⟩ = some (.int .i64 m)) := hm
  have HZ : Hid (a1.size < 4294967281 ∧ a0.size ≤ 140737488351232) := by constructor <;> omega
  clear hm ht z0 z1
  go_enter Tryd.func3, Tryd.ntmps3
  go_wp2_with fail
  refine (sunbundle_at a0 a1 a2 m w HM.out HZ.out.1 HZ.out.2 HT.out).mono ?_
  rintro e w1 ⟨l, ts, c, v1, v2, rfl, hu, ho1, ho2, hb1⟩
  have HU : Hid (UnbR a0.data.toList a1.data.toList a2 l ts c) := hu
  have HO1 : Hid (Wl w1 v1 l) := Wl.own ho1
  have HO2 : Hid (w1.ownsRow w.heap.size 9 1 v2 ts.length (strsV ts)) := ho2
  have HB1 : Hid (Below w.heap.size w w1) := hb1
  clear hu ho1 ho2 hb1
  go_wp2_with fail
  refine (runbundle_at a0 a1 a2 m w1 (cell_keep HB1.out HM.out) HZ.out.1 HZ.out.2).mono ?_
  rintro e w2 ⟨l', ts', c', v3, v4, rfl, hu, ho3, ho4, hb2⟩
  obtain ⟨rfl, rfl, rfl⟩ := HU.out.one hu
  have HO3 : Hid (Wl w2 v3 l) := Wl.own ho3
  have HO4 : Hid (w2.ownsRow w1.heap.size 9 1 v4 ts.length (strsV ts)) := ho4
  have HO1b : Hid (Wl w2 v1 l) := HO1.out.below hb2
  have HO2b : Hid (w2.ownsRow w.heap.size 9 1 v2 ts.length (strsV ts)) := own_below3 HO2.out hb2
  have HB2 : Hid (Below w.heap.size w w2) := HB1.out.trans (hb2.mono HB1.out.size)
  clear hu ho3 ho4 hb2
  go_wp2_with fail
  refine (eqC_same v1 v3 _ w2 HO1b.out HO3.out).mono ?_
  rintro e w3 ⟨rfl, hb3⟩
  have HO4b : Hid (w3.ownsRow w1.heap.size 9 1 v4 ts.length (strsV ts)) := own_below3 HO4.out hb3
  have HO2c : Hid (w3.ownsRow w.heap.size 9 1 v2 ts.length (strsV ts)) := own_below3 HO2b.out hb3
  have HB3 : Hid (Below w.heap.size w w3) := HB2.out.trans (hb3.mono HB2.out.size)
  clear hb3
  go_wp2_with fail
  refine (eqS_same v2 v4 ts ts.length w.heap.size w1.heap.size w3 (unb_len HU.out) (by rw [← strs_V]; exact HO2c.out) (by rw [← strs_V]; exact HO4b.out)).mono ?_
  rintro e w4 ⟨rfl, hww⟩
  rw [hww]
  clear hww w4
  go_wp2_with fail
  go_ret
  exact ⟨by first | rfl | simp, HB3.out⟩
end Go.Proofs.YtkmbhgbmdeoppabDoor

/-
  What printNumber and printWant of package span answer.
-/
namespace Go.Proofs.YtkmbhgbmdeoppabDoor
open Go.RowKit

set_option maxRecDepth 100000 in
theorem spnum_at (n : Int) (h1 : -1 ≤ n) (h2 : n ≤ 99999) (t : ByteArray) (ht : t.data.toList = sgn n) (w : World) (hT : PowT w) :
    Calls Tryd.prog 48 #[.int .i64 n] w fun e w' => e = .returned (.string t) ∧ Below w.heap.size w w' := by
  have HT : Hid (PowT w) := hT
  clear hT
  by_cases h : n = -1
  · have HE : Hid (t = ⟨#[]⟩) := by
      rw [sgn_neg (by omega)] at ht
      apply ByteArray.ext; apply Array.ext'; exact ht
    subst h
    clear ht
    go_enter Tryd.func48, Tryd.ntmps48
    go_wp2_with fail
    go_ret
    exact ⟨ret_str HE.out.symm, Below.refl _ _⟩
  · have hb : (n == -1) = false := beq_eq_false_iff_ne.2 h
    have HD : Hid (t.data.toList = Lib.decDigits n.toNat) := by rw [sgn_pos (by omega)] at ht; exact ht
    have HL : Hid (0 ≤ n ∧ n ≤ 9223372036854775807) := ⟨by omega, by omega⟩
    clear ht h
    go_enter Tryd.func48, Tryd.ntmps48
    go_wp2_with fail
    refine (pitoa_at n t HL.out.1 HL.out.2 HD.out _ HT.out).mono ?_
    rintro e w1 ⟨rfl, hb1⟩
    go_wp2_with fail
    go_ret
    exact ⟨rfl, hb1⟩
set_option maxHeartbeats 1000000 in
set_option maxRecDepth 100000 in
theorem spwant_at (a b : Int) (hok : okW (a, b) = true) (t : ByteArray) (ht : t.data.toList = prW (a, b)) (w : World) (hT : PowT w) :
    Calls Tryd.prog 25 #[.agg #[.int .i64 a, .int .i64 b]] w fun e w' => e = .returned (.string t) ∧ Below w.heap.size w w' := by
  obtain ⟨o1, o2, o3, o4, _⟩ := okW_is hok
  simp only at o1 o2 o3 o4
  obtain ⟨x, hx⟩ : ∃ x : ByteArray, x.data.toList = sgn a := ⟨⟨(sgn a).toArray⟩, rfl⟩
  obtain ⟨y, hy⟩ : ∃ y : ByteArray, y.data.toList = sgn b := ⟨⟨(sgn b).toArray⟩, rfl⟩
  have hxs : x.size ≤ 5 := by rw [← size_list, hx]; exact sgn_len o2
  have hys : y.size ≤ 5 := by rw [← size_list, hy]; exact sgn_len o4
  have HTT : Hid (x ++ ⟨#[45]⟩ ++ y = t) := by
    show _ = _
    apply ByteArray.ext; apply Array.ext'
    rw [ht]
    unfold prW
    simp [hx, hy]
  have hp : ∀ W : World, Below w.heap.size w W → PowT W := fun W h => hT.below h
  have HA : Hid (∀ W : World, Below w.heap.size w W → Calls Tryd.prog 48 #[.int .i64 a] W fun e w' => e = .returned (.string x) ∧ Below W.heap.size W w') := fun W h => spnum_at a o1 o2 x hx W (hp W h)
  have HB : Hid (∀ W : World, Below w.heap.size w W → Calls Tryd.prog 48 #[.int .i64 b] W fun e w' => e = .returned (.string y) ∧ Below W.heap.size W w') := fun W h => spnum_at b o3 o4 y hy W (hp W h)
  clear hok o1 o2 o3 o4 hx hy hp hT
  obtain ⟨T, G, x0, hG, HG1, HG2, HG3⟩ := below_class (w.alloc (.cells #[.int .i64 a, .int .i64 b] 40))
  haveI : Nonempty T := ⟨x0⟩
  have HWK : Hid (w.alloc (.cells #[.int .i64 a, .int .i64 b] 40) = G x0) := hG
  have hall : ∀ x, (G x).cell? ⟨w.heap.size, 0, none⟩ = some (.int .i64 a) ∧ (G x).cell? ⟨w.heap.size, 1, none⟩ = some (.int .i64 b) ∧ Below w.heap.size w (G x) := by
    intro x
    have h1 := HG1.out x
    rw [← hG] at h1
    exact ⟨new_cell h1 0, new_cell h1 1, below_new h1⟩
  have hc0 : ∀ x, (G x).cell? ⟨w.heap.size, 0, none⟩ = some (.int .i64 a) := fun x => (hall x).1
  have hc1 : ∀ x, (G x).cell? ⟨w.heap.size, 1, none⟩ = some (.int .i64 b) := fun x => (hall x).2.1
  have HBW : Hid (∀ x, Below w.heap.size w (G x)) := fun x => (hall x).2.2
  clear hall hG
  go_enter Tryd.func25, Tryd.ntmps25
  go_wp2_with fail
  rw [HWK.out]
  refine region_in G (by kernel_rfl) (by kernel_rfl) (HG3.out _) ?_
  repeat (go_big_quiet_step (first | (go_at_call 48; with_reducible first | exact (HA.out _ (HBW.out _)).mono fun e W h => ⟨h.1, HG2.out _ W h.2⟩ | exact (HB.out _ (HBW.out _)).mono fun e W h => ⟨h.1, HG2.out _ W h.2⟩)))
  refine wpQuiet_nil ?_
  rintro _ ⟨x1, rfl⟩
  go_wp2_with fail
  go_ret
  exact ⟨ret_str HTT.out, HBW.out _⟩
end Go.Proofs.YtkmbhgbmdeoppabDoor

/-
  What isWant, checkWants and hasBytes of package span compute; all numbers fit.
-/
namespace Go.Proofs.YtkmbhgbmdeoppabDoor
open Go.RowKit

set_option maxHeartbeats 1000000 in
set_option maxRecDepth 100000 in
theorem swant_any (a b : Int) (w : World) :
    Calls Tryd.prog 47 #[.agg #[.int .i64 a, .int .i64 b]] w fun e w' => e = .returned (.bool (okW (a, b))) ∧ Below w.heap.size w w' := by
  have hw0 : Below w.heap.size w (w.alloc (.cells #[.int .i64 a, .int .i64 b] 40)) := (Below.refl _ w).alloc (Nat.le_refl _) _
  by_cases h1 : 99999 < a
  · have HO : Hid (false = okW (a, b)) := by
      show _ = _
      symm; unfold okW; rw [if_neg (show ¬ a = -1 by omega)]; simp; omega
    go_enter Tryd.func47, Tryd.ntmps47
    go_wp2_with fail
    go_ret
    exact ⟨ret_bool HO.out, hw0⟩
  · by_cases h2 : 99999 < b
    · have HO : Hid (false = okW (a, b)) := by
        show _ = _
        symm; unfold okW
        by_cases h : a = -1
        · rw [if_pos (show (a, b).1 = -1 from h)]; simp; omega
        · rw [if_neg (show ¬ (a, b).1 = -1 from h)]; simp; omega
      go_enter Tryd.func47, Tryd.ntmps47
      go_wp2_with fail
      go_ret
      exact ⟨ret_bool HO.out, hw0⟩
    · by_cases h3 : a = -1
      · have HO : Hid (decide (0 ≤ b) = okW (a, b)) := by
          show _ = _
          unfold okW
          rw [if_pos (show (a, b).1 = -1 from h3)]
          exact decide_eq_decide.2 ⟨fun h => ⟨h, by omega⟩, fun h => h.1⟩
        subst h3
        go_enter Tryd.func47, Tryd.ntmps47
        go_wp2_with fail
        go_ret
        exact ⟨ret_bool HO.out, hw0⟩
      · have h3b : (a == -1) = false := beq_eq_false_iff_ne.2 h3
        by_cases h4 : b = -1
        · have HO : Hid (decide (0 ≤ a) = okW (a, b)) := by
            show _ = _
            unfold okW
            rw [if_neg (show ¬ (a, b).1 = -1 from h3)]
            rw [decide_eq_true (show (a, b).2 = -1 from h4), Bool.true_or, Bool.and_true]
            exact decide_eq_decide.2 ⟨fun h => ⟨h, by omega⟩, fun h => h.1⟩
          subst h4
          clear h3
          go_enter Tryd.func47, Tryd.ntmps47
          go_wp2_with fail
          go_ret
          exact ⟨ret_bool HO.out, hw0⟩
        · have h4b : (b == -1) = false := beq_eq_false_iff_ne.2 h4
          have HO : Hid ((decide (0 ≤ a) && decide (a ≤ b)) = okW (a, b)) := by
            show _ = _
            unfold okW
            rw [if_neg (show ¬ (a, b).1 = -1 from h3), decide_eq_false (show ¬ (a, b).2 = -1 from h4), Bool.false_or]
            rw [Bool.eq_iff_iff]; simp; omega
          clear h3 h4
          by_cases h5 : 0 ≤ a
          · go_enter Tryd.func47, Tryd.ntmps47
            go_wp2_with fail
            go_ret
            exact ⟨ret_bool (by rw [← HO.out, decide_eq_true h5]; first | rfl | simp), hw0⟩
          · go_enter Tryd.func47, Tryd.ntmps47
            go_wp2_with fail
            go_ret
            exact ⟨ret_bool (by rw [← HO.out, decide_eq_false (show ¬ 0 ≤ a by omega)]; first | rfl | simp), hw0⟩
theorem alls_take (ls : List Wn) (k : Nat) (h : k < ls.length) (h0 : (ls.take k).all okW = true) (h1 : okW ls[k] = true) : (ls.take (k + 1)).all okW = true := by
  rw [List.take_succ_eq_append_getElem h, List.all_append, h0, List.all_cons, h1]; rfl
theorem alls_dead (ls : List Wn) (k : Nat) (h : k < ls.length) (h1 : okW ls[k] = false) : ls.all okW = false := by
  rw [List.all_eq_false]
  exact ⟨ls[k], List.getElem_mem h, by rw [h1]; simp⟩
set_option maxHeartbeats 1000000 in
set_option maxRecDepth 100000 in
theorem scheck_any (v : Value) (ls : List Wn) (w : World) (hf : Wl w v ls) :
    Calls Tryd.prog 24 #[v] w fun e w' => e = .returned (.int .i64 (chkW ls)) ∧ Below w.heap.size w w' := by
  have HF : Hid (Wl w v ls) := hf
  obtain ⟨ad, cap, rfl, hcap, hcm, _⟩ := id hf
  unfold maxLen at hcm
  clear hf
  go_enter Tryd.func24, Tryd.ntmps24
  go_wp2_with fail
  go_loopw [7] (fun i wr => ∃ k : Nat, k ≤ ls.length ∧ i = .int .i64 k ∧ (ls.take k).all okW = true ∧ Below w.heap.size w wr) (fun i _ => ls.length - (intOf i).toNat)
  case atStart => exact ⟨0, Nat.zero_le _, rfl, rfl, Below.refl _ _⟩
  case round =>
    obtain ⟨k, hk, rfl, hall, hw⟩ := hrel
    have HA : Hid ((ls.take k).all okW = true) := hall
    have hsz := hw.size
    clear hall
    by_cases hlt : k < ls.length
    · obtain ⟨ad', cap', hv', _, _, hc'⟩ := HF.out
      simp only [Value.slice.injEq] at hv'
      obtain ⟨rfl, _, rfl⟩ := hv'
      obtain ⟨g, off, rfl, hgs, hce⟩ := hc' (by omega)
      obtain ⟨c1, c2⟩ := hce k hlt
      obtain ⟨a, ha⟩ : ∃ a, a = (ls[k]).1 := ⟨_, rfl⟩
      obtain ⟨b, hb⟩ : ∃ b, b = (ls[k]).2 := ⟨_, rfl⟩
      have HE : Hid (ls[k] = (a, b)) := by show _ = _; rw [ha, hb]
      have d1 : wr.cell? ⟨g, off + k * 2, none⟩ = some (.int .i64 a) := by rw [hw.cell (p := ⟨g, off + k * 2, none⟩) hgs, ha]; exact c1
      have d2 : wr.cell? ⟨g, off + k * 2 + 1, none⟩ = some (.int .i64 b) := by rw [hw.cell (p := ⟨g, off + k * 2 + 1, none⟩) hgs, hb]; exact c2
      have hgr : g < wr.heap.size := by omega
      have hki : (k : Int) < (ls.length : Int) := by omega
      have hk0 : (0 : Int) ≤ (k : Int) := by omega
      clear hce c1 c2 ha hb hc'
      obtain ⟨r, hr⟩ : ∃ r, okW (a, b) = r := ⟨_, rfl⟩
      have HR : Hid (okW (a, b) = r) := hr
      clear hr
      have hw0 := hw.alloc hsz (.cells #[.int .i64 a, .int .i64 b] 40)
      cases r
      · have HD : Hid (chkW ls = 1) := by
          show _ = _
          unfold chkW
          rw [if_pos (alls_dead ls k hlt (by rw [HE.out, HR.out]))]
        go_wp2_with fail
        refine (swant_any a b _).mono ?_
        rintro e w1 ⟨rfl, hb1⟩
        rw [HR.out]
        have hw1 := hw0.trans (hb1.mono hw0.size)
        go_wp2_with fail
        go_ret
        exact ⟨ret_int HD.out.symm, hw1⟩
      · have HN : Hid ((ls.take (k + 1)).all okW = true) := alls_take ls k hlt HA.out (by rw [HE.out, HR.out])
        go_wp2_with fail
        refine (swant_any a b _).mono ?_
        rintro e w1 ⟨rfl, hb1⟩
        rw [HR.out]
        have hw1 := hw0.trans (hb1.mono hw0.size)
        go_wp2_with fail
        go_roundw
        case rel => exact ⟨k + 1, by omega, by go_num, HN.out, hw1⟩
        case measure => simp [intOf]; omega
    · have HAL : Hid (ls.all okW = true) := by
        show _ = _
        have := HA.out
        rwa [List.take_of_length_le (by omega)] at this
      by_cases h0 : ls.length = 0
      · have h0i : ((ls.length : Int) == 0) = true := by simp [h0]
        have HD : Hid (chkW ls = 1) := by
          show _ = _
          unfold chkW
          rw [if_neg (by rw [HAL.out]; simp), if_pos h0]
        clear h0
        go_wp2_with fail
        go_ret
        exact ⟨ret_int HD.out.symm, hw⟩
      · have h0i : ((ls.length : Int) == 0) = false := beq_eq_false_iff_ne.2 (by omega)
        by_cases h20 : 20 < ls.length
        · have h20i : (20 : Int) < (ls.length : Int) := by omega
          have HD : Hid (chkW ls = 2) := by
            show _ = _
            unfold chkW
            rw [if_neg (by rw [HAL.out]; simp), if_neg h0, if_pos h20]
          go_wp2_with fail
          go_ret
          exact ⟨ret_int HD.out.symm, hw⟩
        · have h20i : ¬ (20 : Int) < (ls.length : Int) := by omega
          have HD : Hid (chkW ls = 0) := by
            show _ = _
            unfold chkW
            rw [if_neg (by rw [HAL.out]; simp), if_neg h0, if_neg h20]
          go_wp2_with fail
          go_ret
          exact ⟨ret_int HD.out.symm, hw⟩
end Go.Proofs.YtkmbhgbmdeoppabDoor

/-
  What strings.Join computes, of a row of texts of the call's own.
-/
namespace Go.Proofs.YtkmbhgbmdeoppabDoor
open Go.RowKit

def bas (ps : List (List UInt8)) : List ByteArray := ps.map fun p => ⟨p.toArray⟩
theorem bas_len (ps : List (List UInt8)) : (bas ps).length = ps.length := by simp [bas]
theorem bas_map (ps : List (List UInt8)) : (bas ps).map (·.data.toList) = ps := by
  induction ps with
  | nil => rfl
  | cons p ps ih => simp [bas] at ih ⊢; exact ih
theorem bas_get (ps : List (List UInt8)) (j : Nat) (x : ByteArray) (h : (bas ps)[j]? = some x) : (strs ps)[j]? = some (.string x) := by
  unfold bas at h
  unfold strs
  rw [List.getElem?_map] at h ⊢
  cases hp : ps[j]? with
  | none => rw [hp] at h; cases h
  | some p => rw [hp] at h; simp at h ⊢; exact h

theorem join_at (v : Value) (ps : List (List UInt8)) (B : Nat) (sep t : ByteArray) (ht : t.data.toList = Lib.join ps sep.data.toList) (w : World) (hown : w.ownsRow B 9 1 v ps.length (strs ps)) (hl : ps.length ≤ 140737488355328) (hj : t.size ≤ 140737488355328) :
    Calls Tryd.prog 26 #[v, .string sep] w fun e w' => e = .returned (.string t) ∧ Below w.heap.size w w' := by
  obtain ⟨ad, cap, hv, hcm, hnc, hc⟩ := own_slice hown
  subst hv
  by_cases h0 : ps.length = 0
  · have hp := List.eq_nil_of_length_eq_zero h0
    subst hp
    refine (Tryd.strings_Join_none ad cap sep w).mono ?_
    rintro e w' ⟨rfl, rfl⟩
    refine ⟨ret_str ?_, Below.refl _ _⟩
    apply ByteArray.ext; apply Array.ext'
    rw [ht]; rfl
  · obtain ⟨g, rfl, hgB, hgs, hce⟩ := hc (by omega)
    have c := Tryd.strings_Join g 0 cap (bas ps) sep w (fun j x hx => by
      have hjl : j < ps.length := by
        rw [← bas_len]
        rcases Nat.lt_or_ge j (bas ps).length with h | h
        · exact h
        · rw [List.getElem?_eq_none h] at hx; cases hx
      rw [Nat.zero_add, hce j hjl]
      exact bas_get ps j x hx) hgs (by rw [bas_len]; omega) (by rw [bas_len]; exact hnc) (by rw [bas_map, ← ht, size_list]; omega)
    rw [bas_len, bas_map] at c
    refine c.mono ?_
    rintro e w' ⟨rfl, hb⟩
    refine ⟨ret_str ?_, hb⟩
    apply ByteArray.ext; apply Array.ext'
    rw [ht]
end Go.Proofs.YtkmbhgbmdeoppabDoor

/-
  What Print of package span answers; the listed variables of package strconv hold what their text lays.
-/
namespace Go.Proofs.YtkmbhgbmdeoppabDoor
open Go.RowKit

theorem sjoin_small (ls : List Wn) (h : ls.all okW = true) : (Lib.join (ls.map prW) [44]).length ≤ 12 * ls.length := by
  induction ls with
  | nil => simp [Lib.join]
  | cons w ls ih =>
    rw [List.all_cons, Bool.and_eq_true] at h
    have h1 := ih h.2
    have h2 := prW_len h.1
    rw [List.map_cons]
    cases ls with
    | nil => rw [List.map_nil, Lib.join_one]; simp; omega
    | cons x xs =>
      have e : Lib.join (prW w :: (x :: xs).map prW) [44] = prW w ++ 44 :: Lib.join ((x :: xs).map prW) [44] := by
        simp [Lib.join, List.intercalate]
      rw [e, List.length_append, List.length_cons]
      simp only [List.length_cons] at h1 ⊢
      omega
set_option maxHeartbeats 2000000 in
set_option maxRecDepth 100000 in
theorem sprint_at (v : Value) (ls : List Wn) (t : ByteArray) (c : Int) (h : prSp ls = (t.data.toList, c)) (w : World) (hf : Wl w v ls) (hT : PowT w) :
    Calls Tryd.prog 9 #[v] w fun e w' => e = .returned (.tuple #[.string t, .int .i64 c]) ∧ Below w.heap.size w w' := by
  obtain ⟨i0, hi, hz0, hz1, hz2⟩ := info_parts info9
  have HF : Hid (Wl w v ls) := hf
  have HP : Hid (prSp ls = (t.data.toList, c)) := h
  have HT : Hid (PowT w) := hT
  have hcc : chkW ls = c := by rw [← prSp_code, h]
  have HC : Hid (chkW ls = c) := hcc
  clear hf h hT
  by_cases hc : c = 0
  · subst hc
    obtain ⟨hall, hl1, hl20⟩ := chkW_zero hcc
    have HAL : Hid (ls.all okW = true) := hall
    obtain ⟨u, hu⟩ : ∃ u : ByteArray, u.data.toList = Lib.join (ls.map prW) [44] := ⟨⟨(Lib.join (ls.map prW) [44]).toArray⟩, rfl⟩
    have HU : Hid (u.data.toList = Lib.join (ls.map prW) (⟨#[44]⟩ : ByteArray).data.toList) := hu
    have hus : u.size ≤ 240 := by rw [← size_list, hu]; have := sjoin_small ls hall; omega
    have HTT : Hid ((⟨#[98, 121, 116, 101, 115, 61]⟩ : ByteArray) ++ u = t) := by
      have := HP.out
      rw [prSp_ok hcc] at this
      show _ = _
      apply ByteArray.ext; apply Array.ext'
      rw [← (Prod.mk.inj this).1]
      simp [hu, bytesB]
    obtain ⟨ad, cap, hv, hcap, hcm, _⟩ := HF.out
    subst hv
    unfold maxLen at hcm
    obtain ⟨P, hP⟩ : ∃ P, ls.map prW = P := ⟨_, rfl⟩
    have HPL : Hid (P.length = ls.length) := by show _ = _; rw [← hP, List.length_map]
    have HPG : Hid (∀ (k : Nat) (h : k < ls.length) (h2 : k < P.length), P[k] = prW ls[k]) := by intro k h h2; subst hP; rw [List.getElem_map]
    rw [hP] at HU
    clear hcc hall hu hP
    go_enter Tryd.func9, Tryd.ntmps9
    go_wp2_with fail
    refine (scheck_any _ ls _ HF.out).mono ?_
    rintro e w1 ⟨rfl, hb1⟩
    have HF1 : Hid (Wl w1 (.slice ad ls.length cap) ls) := HF.out.below hb1
    have HT1 : Hid (PowT w1) := HT.out.below hb1
    have HB1 : Hid (Below w.heap.size w w1) := hb1
    have hsz1 := hb1.size
    rw [HC.out]
    clear hb1
    go_wp2_with fail
    go_loopw [5, 15] (fun o i wr => ∃ k : Nat, k ≤ ls.length ∧ i = .int .i64 k ∧ wr.ownsRow w1.heap.size 9 1 o (P.take k).length (strs (P.take k)) ∧ Below w1.heap.size w1 wr) (fun _ i _ => ls.length - (intOf i).toNat)
    case atStart => exact ⟨0, Nat.zero_le _, rfl, World.ownsRow_nil _ _ _ _, Below.refl _ _⟩
    case round =>
      obtain ⟨k, hk, rfl, hown, hw1⟩ := hrel
      have hszr := hw1.size
      have hrl : (P.take k).length ≤ 20 := by
        have h2 := List.length_take_le' k P
        have := HPL.out
        omega
      by_cases hlt : k < ls.length
      · obtain ⟨ad', cap', hv', _, _, hc'⟩ := HF1.out
        simp only [Value.slice.injEq] at hv'
        obtain ⟨rfl, hx, rfl⟩ := hv'
        clear hx
        obtain ⟨g, off, rfl, hgs, hce⟩ := hc' (by omega)
        obtain ⟨c1, c2⟩ := hce k hlt
        have hok := List.all_eq_true.1 HAL.out ls[k] (List.getElem_mem hlt)
        obtain ⟨a, ha⟩ : ∃ a, a = (ls[k]).1 := ⟨_, rfl⟩
        obtain ⟨b, hb⟩ : ∃ b, b = (ls[k]).2 := ⟨_, rfl⟩
        have he : ls[k] = (a, b) := by rw [ha, hb]
        rw [he] at hok
        rw [← ha] at c1
        rw [← hb] at c2
        obtain ⟨x, hx⟩ : ∃ x : ByteArray, x.data.toList = prW (a, b) := ⟨⟨(prW (a, b)).toArray⟩, rfl⟩
        have HX : Hid (x.data.toList = prW (a, b)) := hx
        have HOK : Hid (okW (a, b) = true) := hok
        have HXA : Hid (x = ⟨(prW (a, b)).toArray⟩) := by show _ = _; apply ByteArray.ext; apply Array.ext'; exact hx
        have d1 : wr.cell? ⟨g, off + k * 2, none⟩ = some (.int .i64 a) := (hw1.cell (p := ⟨g, off + k * 2, none⟩) hgs).trans c1
        have d2 : wr.cell? ⟨g, off + k * 2 + 1, none⟩ = some (.int .i64 b) := (hw1.cell (p := ⟨g, off + k * 2 + 1, none⟩) hgs).trans c2
        have hgr : g < wr.heap.size := by omega
        have hki : (k : Int) < (ls.length : Int) := by omega
        have hk0 : (0 : Int) ≤ (k : Int) := by omega
        have hw10 := hw1.alloc hszr (.cells #[.int .i64 a, .int .i64 b] 40)
        have hown0 := hown.alloc (.cells #[.int .i64 a, .int .i64 b] 40)
        have HTW : Hid (PowT (wr.alloc (.cells #[.int .i64 a, .int .i64 b] 40))) := HT1.out.below hw10
        have HN : Hid (P.take (k + 1) = P.take k ++ [prW (a, b)]) := by
          show _ = _
          rw [List.take_succ_eq_append_getElem (by rw [HPL.out]; exact hlt), HPG.out k hlt, he]
        clear hce c1 c2 ha hb hc' hown hw1 hok he hx
        go_wp2_with fail
        refine (spwant_at a b HOK.out x HX.out _ HTW.out).mono ?_
        rintro e w4 ⟨rfl, hb4⟩
        have hown := own_below3 hown0 hb4
        have hw1 := hw10.trans (hb4.mono hw10.size)
        have hszq1 := hw1.size
        clear hown0 hw10 hb4
        go_wp2_with (at_builtin; refine wpList_append_own _ rfl _ _ 23 rfl w1.heap.size 9 i0 (.string ⟨#[]⟩) 1 16 Tryd.underlying23 hi hz0 hz1 hz2 rfl (by decide) _ _ _ rfl (hown.alloc _) ⟨w4.heap.size, 0, none⟩ 1 1 [.string x] rfl rfl ?c1 ?c2 ?c3 ?c4 ?c5 ?_)
        case c1 => exact one_cell _ _ _
        case c2 => intro z hx; simp at hx; subst hx; rfl
        case c3 => unfold maxLen; omega
        case c4 => omega
        case c5 => simp; omega
        · intro v' w5 hown' hgrow _
          have hB1 : Below w1.heap.size w1 w5 := (hw1.alloc hszq1 _).grown hgrow (by simp; omega) (fun bb hb => ((hown.alloc (.cells #[.string x] 9)).lt bb hb).1)
          have HOWN : Hid (w5.ownsRow w1.heap.size 9 1 v' (P.take (k + 1)).length (strs (P.take (k + 1)))) := by
            show World.ownsRow _ _ _ _ _ _ _
            rw [HN.out, List.length_append, List.length_singleton, List.length_take, ← strs_snoc, ← HXA.out]; exact hown'
          clear hown' hgrow
          go_wp2_with fail
          go_roundw
          case rel => exact ⟨k + 1, by omega, by go_num, HOWN.out, hB1⟩
          case measure => simp [intOf]; omega
      · rw [List.take_of_length_le (by rw [HPL.out]; omega)] at hown hrl
        have HBF : Hid (Below w.heap.size w wr) := HB1.out.trans (hw1.mono hsz1)
        have HOWN : Hid (wr.ownsRow w1.heap.size 9 1 _ P.length (strs P)) := hown
        clear hown hw1
        go_wp2_with fail
        refine (join_at _ P w1.heap.size ⟨#[44]⟩ u HU.out _ HOWN.out (by omega) (by omega)).mono ?_
        rintro e w6 ⟨rfl, hb6⟩
        have hbf := HBF.out.trans (hb6.mono HBF.out.size)
        go_wp2_with fail
        go_ret2
        exact ⟨by rw [← HTT.out]; try rfl, hbf⟩
  · have hcb : (c != 0) = true := by simpa using hc
    have HE : Hid (t = ⟨#[]⟩) := by
      have := HP.out
      rw [prSp_bad (by rw [hcc]; exact hc)] at this
      apply ByteArray.ext; apply Array.ext'; exact (Prod.mk.inj this).1.symm
    clear hcc
    go_enter Tryd.func9, Tryd.ntmps9
    go_wp2_with fail
    refine (scheck_any _ ls _ HF.out).mono ?_
    rintro e w1 ⟨rfl, hb1⟩
    rw [HC.out]
    go_wp2_with fail
    go_ret2
    exact ⟨by rw [HE.out]; try rfl, hb1⟩
end Go.Proofs.YtkmbhgbmdeoppabDoor

/-
  A loop over a function that keeps what it does next in a cell of its own: the law of the walk, for an iterator that writes that one cell between two rounds and reads some blocks that the loop's body leaves alone; no program is named here.
-/
namespace Go.Proofs.YtkmbhgbmdeoppabDoor
open Go.RowKit

/-- These blocks are as they were. -/
def KeepB (bs : List Nat) (W W' : World) : Prop := ∀ b ∈ bs, W'.heap[b]? = W.heap[b]?
theorem KeepB.refl (bs : List Nat) (W : World) : KeepB bs W W := fun _ _ => rfl
theorem KeepB.trans {bs : List Nat} {A B C : World} (h : KeepB bs A B) (k : KeepB bs B C) : KeepB bs A C := fun b hb => (k b hb).trans (h b hb)
theorem KeepB.put {bs : List Nat} {W : World} {l : Nat} (o : Obj) (h : ∀ b ∈ bs, b < l) : KeepB bs W (W.putObj l o) := fun b hb => World.putObj_heap_other (by have := h b hb; omega)
theorem KeepB.below {bs : List Nat} {n : Nat} {A B : World} (hb : Below n A B) (h : ∀ b ∈ bs, b < n) : KeepB bs A B := fun b hbm => hb.block b (h b hbm)
/-- What does not hang on one cell. -/
def Spared {β : Type} (b : Nat) (I : β → World → Prop) : Prop := ∀ s W v, I s W → I s (W.setCell ⟨b, 0, none⟩ v)
/-- What is asked of an iterator that writes the cell b0 alone and hands out the values xs, one behind the other. -/
def Hands {α : Type} (F : Fence) (m : Nat) (P : Program) (gf : Nat) (lb : Array Value) (encs : α → Array Value) (b0 : Nat) (keep : List Nat) (xs : List α) (w : World) : Prop :=
  ∀ (l : Nat) (J Jx : List α → World → Prop) (W : World), Below w.heap.size w W → Spared b0 J → Spared b0 Jx →
    (∀ pre x rest W1, xs = pre ++ x :: rest → J pre W1 → YieldAt F (m - 1) P l (encs x) W1 fun e W' =>
      (e = .returned (.bool true) ∧ J (pre ++ [x]) W' ∧ KeepB keep W1 W') ∨ (e = .returned (.bool false) ∧ Jx (pre ++ [x]) W')) →
    J [] W →
    CallsIn F m P gf (#[.func (.yield l) #[] #[]] ++ lb) W fun e W' => (∃ v, e = .returned v) ∧ (J xs W' ∨ ∃ pre rest, xs = pre ++ rest ∧ Jx pre W')

theorem range_hands {F : Fence} {n : Nat} {P : Program} {α : Type} {g : Operand} {ps : Array Tmp} {assign body : Code} {Q : Exit → Act → World → Prop} {a : Act} {w : World}
    (hro : F.round = none) (h1 : 1 ≤ n) {gf : Nat} {lb : Array Value} (hg : a.eval g = .func (.func gf) #[] lb) (hF : F.fn gf) (eg : ∀ args w, (callFunc gf args).run P w = .ok (.enter gf args) w)
    {encs : α → Array Value} (hps : ∀ x, (encs x).size = ps.size) {b0 : Nat} {keep : List Nat} {xs : List α} (hb0 : b0 < w.heap.size) (hkp : ∀ b ∈ keep, b < w.heap.size)
    (hit : Hands F (n - 1) P gf lb encs b0 keep xs w)
    (I : List α → World → Prop) (Ix : Code → List α → World → Prop) (hI : OwnFrom w.heap.size I) (hIx : ∀ c, OwnFrom w.heap.size (Ix c)) (sI : Spared b0 I) (sIx : ∀ c, Spared b0 (Ix c)) (h0 : I [] w) (a₁ : α → Act)
    (hassign : ∀ (l : Nat) (x : α) (W : World) (K : Act → World → Prop), K (a₁ x) W →
      assign.wpIn (F.inRound l) (n - 1 - 1) P (Exit.then K (fun _ _ _ => False)) { tmps := (ps.zip (encs x)).foldl (fun t (p, v) => t.setIfInBounds p v) a.tmps, defers := [] } W)
    (hbody : ∀ (l : Nat) (pre : List α) (x : α) (rest : List α) (W : World), xs = pre ++ x :: rest → w.heap.size ≤ W.heap.size → I pre W → body.wpIn (F.inRound l) (n - 1 - 1) P (ownPostG w.heap.size (KeepB keep) I Ix (pre ++ [x]) W) (a₁ x) W)
    (hdone : ∀ (D : Nat) (W : World), w.heap.size ≤ D → I xs W → W.heap[D]? = some (.deferred (some [])) → Q .normal { a with defers := { target := .collected D, args := #[] } :: a.defers } W)
    (hstop : ∀ (D : Nat) (c : Code) (pre rest : List α) (W : World), w.heap.size ≤ D → xs = pre ++ rest → Ix c pre W → W.heap[D]? = some (.deferred (some [])) → c.wpIn F n P Q { a with defers := { target := .collected D, args := #[] } :: a.defers } W) :
    (Code.rangeFunc g ps assign body).wpIn F n P Q a w := by
  refine wpIn_rangeFunc fun fn hfn => ?_
  rw [hro]
  obtain ⟨D, hD⟩ : ∃ D, D = w.heap.size := ⟨_, rfl⟩
  obtain ⟨R, hR⟩ : ∃ R : LoopState → Option Code → Obj, R = fun st pe => .loop { state := st, pending := pe, fn, tmps := a.tmps, params := ps, assign, body, defers := D } := ⟨_, rfl⟩
  have hnc : ∀ st pe, (R st pe).isCells = false := fun st pe => by rw [hR]; rfl
  have hw1 : Below w.heap.size w ((w.alloc (.deferred (some []))).alloc (R .ready none)) := ((Below.refl _ w).alloc (Nat.le_refl _) _).alloc (by simp) _
  have hat : ((w.alloc (.deferred (some []))).alloc (R .ready none)).heap[D]? = some (.deferred (some [])) ∧ ((w.alloc (.deferred (some []))).alloc (R .ready none)).heap[D + 1]? = some (R .ready none) := by
    subst hD
    refine ⟨(Below.heap_alloc _ _ _ (by simp)).trans (World.alloc_heap_new w _), ?_⟩
    have := World.alloc_heap_new (w.alloc (.deferred (some []))) (R .ready none)
    rwa [World.size_alloc] at this
  have hi1 : I [] ((w.alloc (.deferred (some []))).alloc (R .ready none)) := hI.alloc _ (hI.alloc _ h0)
  refine ⟨D + 1, [{ target := .collected D, args := #[] }], (w.alloc (.deferred (some []))).alloc (R .ready none), { target := .fn (.func gf) lb, args := #[.func (.yield (D + 1)) #[] #[]] }, (w.alloc (.deferred (some []))).alloc (R .ready none), gf,
    #[.func (.yield (D + 1)) #[] #[]] ++ lb, (w.alloc (.deferred (some []))).alloc (R .ready none), ?_, ?_, ?_, ?_, fun _ => h1, ?_⟩
  · subst hD; rw [hR]; exact run_enterLoop_outer _ _ _ _ _
  · simp only [resolve, hg]
    simp [go_sem]
  · intro f' hf'; simp [Target.leads] at hf'; subst hf'; exact hF
  · simp [invoke, go_sem, eg]
  -- what holds between two rounds: the caller's word, and the two blocks of book-keeping
  have set_at : ∀ (W : World) (v : Value) (k : Nat), D ≤ k → (W.setCell ⟨b0, 0, none⟩ v).heap[k]? = W.heap[k]? := fun W v k hk => Below.heap_setCell W ⟨b0, 0, none⟩ v k (by show k ≠ b0; omega)
  refine (hit (D + 1) (fun pre W => I pre W ∧ W.heap[D + 1]? = some (R .ready none) ∧ W.heap[D]? = some (.deferred (some [])))
    (fun pre W => ∃ c, Ix c pre W ∧ W.heap[D + 1]? = some (R .done (some c)) ∧ W.heap[D]? = some (.deferred (some []))) _ hw1
    (fun s W v h => ⟨sI s W v h.1, (set_at W v _ (by omega)).trans h.2.1, (set_at W v _ (by omega)).trans h.2.2⟩)
    (fun s W v h => h.elim fun c h => ⟨c, sIx c s W v h.1, (set_at W v _ (by omega)).trans h.2.1, (set_at W v _ (by omega)).trans h.2.2⟩) ?_ ⟨hi1, hat.2, hat.1⟩).mono ?_
  · -- one round
    rintro pre x rest W hxs ⟨hi, hl, hk⟩
    have hlt : D + 1 < W.heap.size := (Array.getElem?_eq_some_iff.1 hl).1
    have hy := run_yield (P := P) (args := encs x) (by rw [hR] at hl; exact hl) (hps x)
    refine ⟨fn, _, assign, body, hy, roundIn_of_wpIn hfn (hassign _ x W _ ⟨W.putObj (D + 1) (R .busy none), ?_, ?_⟩)⟩
    · rw [hR] at hl ⊢; exact run_beginRound hl rfl
    have kb : ∀ b ∈ keep, b < D + 1 := fun b hb => by have := hkp b hb; omega
    refine wpIn_mono (hbody _ pre x rest _ hxs (by simp; omega) (hI.putObj _ hi (by omega) hl (hnc _ _))) ?_
    -- however the body was left, the record is there, and is closed
    have fin : ∀ (jump : Option Code) (st : LoopState) (W3 : World), (st = if jump.isNone then .ready else .done) → KeepsFrom w.heap.size (W.putObj (D + 1) (R .busy none)) W3 →
        (Instr.endRound (D + 1) jump).run P W3 = .ok (.bool jump.isNone) (W3.putObj (D + 1) (R st jump)) ∧ W3.heap[D + 1]? = some (R .busy none) ∧
        (W3.putObj (D + 1) (R st jump)).heap[D + 1]? = some (R st jump) ∧ (W3.putObj (D + 1) (R st jump)).heap[D]? = some (.deferred (some [])) := by
      intro jump st W3 hst hk3
      have l3 := hk3.same (D + 1) _ (by omega) (World.putObj_heap_same hlt) (hnc _ _)
      have d3 := hk3.same D _ (by omega) ((World.putObj_heap_other (by omega)).trans hk) rfl
      refine ⟨?_, l3, World.putObj_heap_same (Array.getElem?_eq_some_iff.1 l3).1, (World.putObj_heap_other (by omega)).trans d3⟩
      rw [hR] at l3 ⊢
      rw [run_endRound jump l3, hst]
    rintro e a3 W3 hp
    cases e with
    | normal =>
      obtain ⟨hk3, hkp3, hi3⟩ := hp
      obtain ⟨f1, f2, f3, f4⟩ := fin none .ready W3 rfl hk3
      exact ⟨_, _, f1, .inl ⟨rfl, ⟨hI.putObj _ hi3 (by omega) f2 (hnc _ _), f3, f4⟩, ((KeepB.put _ kb).trans hkp3).trans (KeepB.put _ kb)⟩⟩
    | ret =>
      obtain ⟨f1, f2, f3, f4⟩ := fin (some .ret) .done W3 rfl hp.1
      exact ⟨_, _, f1, .inr ⟨rfl, _, (hIx _).putObj _ hp.2 (by omega) f2 (hnc _ _), f3, f4⟩⟩
    | exit id =>
      obtain ⟨f1, f2, f3, f4⟩ := fin (some (.exit id)) .done W3 rfl hp.1
      exact ⟨_, _, f1, .inr ⟨rfl, _, (hIx _).putObj _ hp.2 (by omega) f2 (hnc _ _), f3, f4⟩⟩
    | goto t =>
      obtain ⟨f1, f2, f3, f4⟩ := fin (some (.goto t)) .done W3 rfl hp.1
      exact ⟨_, _, f1, .inr ⟨rfl, _, (hIx _).putObj _ hp.2 (by omega) f2 (hnc _ _), f3, f4⟩⟩
    | panic ch => exact hp.elim
    | outgrown => exact hp.elim
  · -- behind the iterator
    rintro e W2 ⟨⟨v, rfl⟩, ⟨hi, hl, hk⟩ | ⟨pre, rest, hx, c, hi, hl, hk⟩⟩
    · refine ⟨none, W2.putObj (D + 1) (R .exhausted none), ?_, hdone D _ (by omega) (hI.putObj _ hi (by omega) hl (hnc _ _)) ((World.putObj_heap_other (by omega)).trans hk)⟩
      rw [hR] at hl ⊢; exact run_endLoop hl (by simp)
    · refine ⟨some c, W2.putObj (D + 1) (R .exhausted (some c)), ?_, hstop D c pre rest _ (by omega) hx ((hIx c).putObj _ hi (by omega) hl (hnc _ _)) ((World.putObj_heap_other (by omega)).trans hk)⟩
      rw [hR] at hl ⊢; exact run_endLoop hl (by simp)
end Go.Proofs.YtkmbhgbmdeoppabDoor

/-
  Pieces of a text, by where the sign between them first stands; no program is named here.
-/
namespace Go.Proofs.YtkmbhgbmdeoppabDoor
open Go.RowKit

theorem spl_alone (d : UInt8) (a : List UInt8) (h : ∀ b ∈ a, b ≠ d) : spl d a = [a] := by
  have := spl_words d a h [] (by simp)
  simpa [wordsB] using this
theorem spl_app (d : UInt8) (a r : List UInt8) (h : ∀ b ∈ a, b ≠ d) : spl d (a ++ d :: r) = a :: spl d r := by
  induction a with
  | nil => rw [List.nil_append, spl, if_pos rfl]
  | cons c a ih =>
    rw [List.cons_append, spl, if_neg (h c (by simp)), ih (fun b hb => h b (by simp [hb]))]
theorem spl_miss (d : UInt8) (l : List UInt8) (h : Lib.indexByte l d = -1) : spl d l = [l] := by
  apply spl_alone
  intro b hb e
  obtain ⟨k, hk⟩ := List.getElem?_of_mem hb
  exact Lib.indexByte_none h k (by rw [hk, e])
theorem spl_hit (d : UInt8) (l : List UInt8) (k : Nat) (h : Lib.indexByte l d = k) : spl d l = l.take k :: spl d (l.drop (k + 1)) := by
  obtain ⟨h1, h2⟩ := Lib.indexByte_some h
  have hk : k < l.length := (List.getElem?_eq_some_iff.1 h1).1
  have e : l = l.take k ++ d :: l.drop (k + 1) := by
    have : l[k] = d := (List.getElem?_eq_some_iff.1 h1).2
    rw [← this, ← List.drop_eq_getElem_cons hk, List.take_append_drop]
  have hno : ∀ b ∈ l.take k, b ≠ d := by
    intro b hb eb
    obtain ⟨j, hj⟩ := List.getElem?_of_mem hb
    have hjk : j < k := by
      have := (List.getElem?_eq_some_iff.1 hj).1
      rw [List.length_take] at this; omega
    rw [List.getElem?_take_of_lt hjk] at hj
    exact h2 j hjk (by rw [hj, eb])
  have := spl_app d (l.take k) (l.drop (k + 1)) hno
  rw [← e] at this
  exact this
/-- The pieces as texts. -/
def tx (l : List UInt8) : ByteArray := ⟨l.toArray⟩
theorem tx_list (l : List UInt8) : (tx l).data.toList = l := rfl
theorem tx_self (s : ByteArray) : tx s.data.toList = s := by apply ByteArray.ext; rfl
end Go.Proofs.YtkmbhgbmdeoppabDoor
