/-
  What ChunksBack of the document's answers computes; the text has less than 2^32 - 15 bytes, and the package variable that the library reads holds some number.
-/
import Derived.Test.YtofafonppajfkaaDoorWRCk
import Derived.Test.YtofafonppajfkaaDoorWRParse2
namespace Go.Proofs.YtofafonppajfkaaDoor
open Go.RowKit

theorem ret_sii' {a b : ByteArray} {i j k l : Int} (h : a = b) (h' : i = j) (h'' : k = l) : Ending.returned (.tuple #[.string a, .int .i64 i, .int .i64 k]) = .returned (.tuple #[.string b, .int .i64 j, .int .i64 l]) := by rw [h, h', h'']
theorem slice_from (s : ByteArray) (a : Nat) (ha : a ≤ s.size) : ∃ r : ByteArray, r.data.toList = s.data.toList.drop a ∧ r.size = s.size - a ∧ ∀ w, (Instr.slice 9 (.string s) (some (.int .i64 (a : Int))) none none).run Tryd.prog w = .ok (.string r) w := by
  refine ⟨s.extract a s.size, ?_, ?_, fun w => ?_⟩
  · rw [Lib.extract_data, List.take_of_length_le (by rw [List.length_drop, size_list]; omega)]
  · rw [ByteArray.size_extract]; omega
  · rw [run_slice_string_l w 9 s Tryd.underlying9 .i64 (a : Int) (by omega) (by omega)]; rfl
theorem slice_part (s : ByteArray) (a b : Nat) (ha : a ≤ b) (hb : b ≤ s.size) : ∃ r : ByteArray, r.data.toList = (s.data.toList.drop a).take (b - a) ∧ r.size = b - a ∧ ∀ w, (Instr.slice 9 (.string s) (some (.int .i64 (a : Int))) (some (.int .i64 (b : Int))) none).run Tryd.prog w = .ok (.string r) w := by
  refine ⟨s.extract a b, ?_, ?_, fun w => ?_⟩
  · rw [Lib.extract_data]
  · rw [ByteArray.size_extract]; omega
  · rw [run_slice_string w 9 s .i64 .i64 _ _ Tryd.underlying9 (by omega) (by omega) (by omega)]; rfl

set_option maxHeartbeats 8000000 in
set_option maxRecDepth 100000 in
theorem rback_any (s : ByteArray) (t : ByteArray) (N : Nat) (C : Int) (hA : ans (runD start s.data.toList 0) = (t.data.toList, N, C)) (m : Int) (w : World) (hm : w.cell? ⟨0, 0, none⟩ = some (.int .i64 m)) (hs : s.size < 4294967281) :
    Calls Tryd.prog 14 #[.string s] w fun e w' => e = .returned (.tuple #[.string t, .int .i64 (N : Int), .int .i64 C]) ∧ Below w.heap.size w w' := by
  have HSL : Hid (s.data.toList.length = s.size) := size_list s
  have HM : Hid (w.cell? ⟨0, 0, none⟩ = some (.int .i64 m)) := hm
  have HE : Hid (∀ x i c, ans (runD start s.data.toList 0) = (x, i, c) → (⟨x.toArray⟩ : ByteArray) = t ∧ (i : Int) = (N : Int) ∧ c = C) := by
    intro x i c h
    rw [hA] at h
    simp only [Prod.mk.injEq] at h
    obtain ⟨h1, h2, h3⟩ := h
    refine ⟨?_, by omega, h3.symm⟩
    apply ByteArray.ext; apply Array.ext'; rw [h1]
  clear hm hA
  go_enter Tryd.func14, Tryd.ntmps14
  go_wp2_with fail
  go_loop [5, 6] (fun ov av => ∃ (a : Nat) (o : ByteArray), ov = .string o ∧ av = .int .i64 a ∧ a ≤ s.size ∧ o.size ≤ 5000 ∧ At s.data.toList a o.data.toList) (fun _ av => s.size - (intOf av).toNat)
  case atStart => exact ⟨0, ⟨#[]⟩, rfl, rfl, Nat.zero_le _, by decide, at_start _⟩
  case round =>
    obtain ⟨a, o, rfl, rfl, ha, ho, hat⟩ := hrel
    have HAT : Hid (At s.data.toList a o.data.toList) := hat
    obtain ⟨r0, hr0, hr0s, hsl0⟩ := slice_from s a ha
    have HR0 : Hid (r0.data.toList = s.data.toList.drop a) := hr0
    have hr0z : r0.size ≤ 140737488351232 := by omega
    clear hat hr0 hr0s
    go_wp2_with fail
    refine (rhead_any r0 _ hr0z).mono ?_
    rintro e w' ⟨n, k, c, rfl, hq, rfl⟩
    rw [HR0.out] at hq
    rcases hq with ⟨rfl, hq⟩ | ⟨rfl, hq⟩ | ⟨rfl, hq⟩
    · have HQ : Hid (_ ∧ _ ∧ _) := HE.out _ _ _ (at_short HAT.out hq)
      clear hq
      go_wp2_with fail
      go_ret3
      exact ⟨ret_sii' HQ.out.1 HQ.out.2.1 HQ.out.2.2, Below.refl _ _⟩
    · have HQ : Hid (_ ∧ _ ∧ _) := HE.out _ _ _ (at_bad HAT.out hq)
      clear hq
      go_wp2_with fail
      go_ret3
      exact ⟨ret_sii' HQ.out.1 HQ.out.2.1 HQ.out.2.2, Below.refl _ _⟩
    · obtain ⟨hak, hrun⟩ := at_head HAT.out hq
      rw [HSL.out] at hak
      have hn6 := hq.2.1
      obtain ⟨b, hb⟩ : ∃ b, b = a + k := ⟨_, rfl⟩
      rw [← hb] at hrun hak
      have hab : (a : Int) + (k : Int) = (b : Int) := by omega
      have hk2 : a ≤ b := by omega
      have HRUN : Hid (runD start s.data.toList 0 = aft o.data.toList n (s.data.toList.drop b) b) := hrun
      have HOL : Hid (o.data.toList.length = o.size) := size_list o
      clear hq hrun hb hsl0
      by_cases hbig : 5000 < (o.size : Int) + (n : Int)
      · have HQ : Hid (_ ∧ _ ∧ _) := HE.out _ _ _ (aft_large HRUN.out (by rw [HOL.out]; omega))
        go_wp2_with fail
        go_ret3
        exact ⟨ret_sii' HQ.out.1 HQ.out.2.1 HQ.out.2.2, Below.refl _ _⟩
      · have HBIG : Hid (¬ 5000 < o.data.toList.length + n) := by show ¬ _; rw [HOL.out]; omega
        by_cases hn0 : n = 0
        · subst hn0
          obtain ⟨r1, hr1, hr1s, hsl1⟩ := slice_from s b hak
          have hf := aft_fields HRUN.out HBIG.out (by rw [HSL.out]; exact hak)
          rw [← hr1] at hf
          have HR1 : Hid (r1.size = s.size - b) := hr1s
          have hr1z : r1.size < 4294967281 := by omega
          clear hr1 hr1s
          go_wp2_with fail
          refine (rparse_any r1 m _ HM.out hr1z).mono ?_
          rintro e w2 ⟨v, rfl, _, hb2⟩
          by_cases hz : (parS r1.data.toList []).2.2 = 0
          · rw [if_pos hz] at hf
            have hpn : parN r1.data.toList = (r1.size : Int) - ((parS r1.data.toList []).2.1.length : Int) := by unfold parN; rw [if_pos hz, size_list]
            have hle := par_rest r1.data.toList []
            rw [size_list] at hle
            obtain ⟨P, hP⟩ : ∃ P, parN r1.data.toList = P := ⟨_, rfl⟩
            obtain ⟨Z, hZ⟩ : ∃ Z, (parS r1.data.toList []).2.1.length = Z := ⟨_, rfl⟩
            rw [hZ] at hf hle hpn
            rw [hP] at hpn
            rw [hP, hz]
            obtain ⟨q1, q2, q3⟩ := HE.out _ _ _ hf
            rw [HSL.out] at q2
            have HQ1 : Hid (o = t) := q1
            have HQ3 : Hid ((0 : Int) = C) := q3
            have hr1s := HR1.out
            have HQ2 : Hid ((b : Int) + P = (N : Int)) := by show _ = _; omega
            have hP1 : 0 ≤ P ∧ P ≤ 4294967296 := by omega
            obtain ⟨hP1, hP2⟩ := hP1
            clear q1 q2 q3 hf hz hpn hP hZ hle hr1s
            go_wp2_with fail
            go_ret3
            exact ⟨ret_sii' HQ1.out HQ2.out HQ3.out, hb2⟩
          · rw [if_neg hz] at hf
            have HQ : Hid (_ ∧ _ ∧ _) := HE.out _ _ _ hf
            have hzb : ((parS r1.data.toList []).2.2 != 0) = true := by simpa using hz
            clear hf hz
            go_wp2_with fail
            go_ret3
            exact ⟨ret_sii' HQ.out.1 HQ.out.2.1 HQ.out.2.2, hb2⟩
        · have hn0' : ((n : Int) == 0) = false := by rw [beq_eq_false_iff_ne]; omega
          obtain ⟨p, hp⟩ : ∃ p, p = b + n := ⟨_, rfl⟩
          have hbp : (b : Int) + (n : Int) = (p : Int) := by omega
          by_cases hsh : (s.size : Int) ≤ (p : Int)
          · have HQ : Hid (_ ∧ _ ∧ _) := HE.out _ _ _ (aft_short HRUN.out HBIG.out hn0 (.inl (by rw [HSL.out]; omega)))
            clear hn0 hp
            go_wp2_with fail
            go_ret3
            exact ⟨ret_sii' HQ.out.1 HQ.out.2.1 HQ.out.2.2, Below.refl _ _⟩
          · obtain ⟨q, hqq⟩ : ∃ q : Nat, (q : Int) = min (s.size : Int) ((p : Int) + 2) := ⟨min s.size (p + 2), by omega⟩
            have hmin : min (s.size : Int) ((p : Int) + 2) = (q : Int) := hqq.symm
            obtain ⟨en, hen, hens, hsl2⟩ := slice_part s p q (by omega) (by omega)
            have hen2 : en.data.toList = (s.data.toList.drop p).take 2 := by
              rw [hen]
              rcases (show q = p + 2 ∨ (q = s.size ∧ s.size < p + 2) by omega) with h | ⟨h, h'⟩
              · rw [show q - p = 2 by omega]
              · rw [List.take_of_length_le (by rw [List.length_drop, HSL.out]; omega), List.take_of_length_le (by rw [List.length_drop, HSL.out]; omega)]
            obtain ⟨t1, t2, t3⟩ := take_two (z := s.data.toList.drop p)
            rw [← hen2] at t1 t2 t3
            have hsl2' := hsl2
            by_cases h13 : en.data.toList = [13]
            · have HQ : Hid (_ ∧ _ ∧ _) := HE.out _ _ _ (aft_short HRUN.out HBIG.out hn0 (.inr (by rw [← hp]; exact t1 h13)))
              have hc13 : (en.toList == [13]) = true := by rw [ByteArray.toList_eq, h13]; rfl
              clear hn0 hp t1 t2 t3 h13 hen hens hen2 hqq
              go_wp2_with fail
              go_ret3
              exact ⟨ret_sii' HQ.out.1 HQ.out.2.1 HQ.out.2.2, Below.refl _ _⟩
            · have hc13 : (en.toList == [13]) = false := by rw [ByteArray.toList_eq, beq_eq_false_iff_ne]; exact h13
              by_cases h2 : en.data.toList = [13, 10]
              · have hc2 : (en.toList == [13, 10]) = true := by rw [ByteArray.toList_eq, h2]; rfl
                obtain ⟨z, hz⟩ := t2 h2
                obtain ⟨pt, hpt, hpts, hsl3⟩ := slice_part s b p (by omega) (by omega)
                have hnx := aft_next HRUN.out HBIG.out hn0 (by rw [← hp]; exact hz)
                rw [← hp, show n = p - b by omega, ← hpt] at hnx
                have HNX : Hid (At s.data.toList (p + 2) (o ++ pt).data.toList) := by
                  show At _ _ _
                  rw [ByteArray.data_append, Array.toList_append]; exact hnx
                have hp2 : p + 2 ≤ s.size := by have := hnx.1; rw [HSL.out] at this; exact this
                have hos : (o ++ pt).size = o.size + pt.size := ByteArray.size_append
                have HO2 : Hid ((o ++ pt).size ≤ 5000) := by show _ ≤ _; omega
                have HP3 : Hid ((b : Int) + ((n : Int) + 2) = ((p + 2 : Nat) : Int)) := by show _ = _; omega
                have hA1 : ¬ 9223372036854775807 < o.size + pt.size := by omega
                clear hn0 hp t1 t2 t3 h13 hen hens hen2 hqq h2 hz hpt hnx hos
                go_wp2_with fail
                go_round
                case rel => exact ⟨p + 2, o ++ pt, rfl, by rw [← HP3.out], hp2, HO2.out, HNX.out⟩
                case measure => have := HP3.out; simp [intOf]; omega
              · have hc2 : (en.toList == [13, 10]) = false := by rw [ByteArray.toList_eq, beq_eq_false_iff_ne]; exact h2
                have HQ : Hid (_ ∧ _ ∧ _) := HE.out _ _ _ (aft_bad HRUN.out HBIG.out hn0 (by rw [HSL.out]; omega) (by rw [← hp]; intro h; exact h13 (by rw [hen2, h]; rfl)) (by rw [← hp]; exact t3 h2))
                clear hn0 hp t1 t2 t3 h13 hen hens hen2 hqq h2
                go_wp2_with fail
                go_ret3
                exact ⟨ret_sii' HQ.out.1 HQ.out.2.1 HQ.out.2.2, Below.refl _ _⟩
end Go.Proofs.YtofafonppajfkaaDoor
