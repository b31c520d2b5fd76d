/-
  What DateParse of the document's answers computes, a contract over the program's text; the variable that strings.Index reads holds some number.
-/
import Derived.Test.YthbbfkbcanjfaaaDoorWRCount
import Derived.Test.YthbbfkbcanjfaaaDoorWRAll
import Derived.Test.YthbbfkbcanjfaaaDoorWRDPrint
import Derived.Deep.QuietTactic
import Derived.BigQuiet
namespace Go.Proofs.YthbbfkbcanjfaaaDoor
open Go.RowKit

theorem ext_sl (s : ByteArray) (i j : Nat) : (s.extract i j).data.toList = sl s.data.toList i j := by
  rw [ByteArray.data_extract, Array.toList_extract]
  rfl

theorem ext_le (s : ByteArray) (i j : Nat) (hs : s.size = 29) : (s.extract i j).size ≤ 29 := by rw [ByteArray.size_extract]; omega
theorem digs_at (s : ByteArray) (i j : Nat) (w : World) (hs : s.size = 29) :
    Calls Tryd.prog 19 #[.string (s.extract i j), .string ⟨#[48, 49, 50, 51, 52, 53, 54, 55, 56, 57]⟩] w fun e w' => e = .returned (.bool ((sl s.data.toList i j).all isDig)) ∧ w' = w := by
  have c := allOf_any (s.extract i j) ⟨#[48, 49, 50, 51, 52, 53, 54, 55, 56, 57]⟩ w (by have := ext_le s i j hs; unfold maxLen; omega)
  rw [ext_sl, show (⟨#[48, 49, 50, 51, 52, 53, 54, 55, 56, 57]⟩ : ByteArray).data.toList = [48, 49, 50, 51, 52, 53, 54, 55, 56, 57] from rfl, tens_all] at c
  exact c
theorem trim_at (s : ByteArray) (i j : Nat) (w : World) :
    Calls Tryd.prog 21 #[.string (s.extract i j), .string ⟨#[48]⟩] w fun e w' => e = .returned (.string ⟨(Lib.trimLeftB (sl s.data.toList i j) 48).toArray⟩) ∧ w' = w := by
  have c := Tryd.strings_TrimLeft_one (s.extract i j) 48 (by decide) w
  rw [ext_sl] at c
  exact c
theorem cn_at (l : List UInt8) (w : World) (h : l.length ≤ 29) :
    Calls Tryd.prog 20 #[.string ⟨(Lib.trimLeftB l 48).toArray⟩, .int .i64 9999] w fun e w' => e = .returned (.int .i64 (cn l)) ∧ w' = w :=
  count_any ⟨(Lib.trimLeftB l 48).toArray⟩ 9999 w (by rw [← size_list]; have := trim_len l; show (Lib.trimLeftB l 48).length ≤ maxLen; unfold maxLen; omega)

/-- memory behind k rounds of the loop -/
def dA (l : List UInt8) : Nat → Array Value
  | 0 => #[.int .i64 0, .int .i64 0, .int .i64 0, .int .i64 0, .int .i64 0]
  | 1 => #[.int .i64 (cn (sl l 5 7)), .int .i64 0, .int .i64 0, .int .i64 0, .int .i64 0]
  | 2 => #[.int .i64 (cn (sl l 5 7)), .int .i64 (cn (sl l 12 16)), .int .i64 0, .int .i64 0, .int .i64 0]
  | 3 => #[.int .i64 (cn (sl l 5 7)), .int .i64 (cn (sl l 12 16)), .int .i64 (cn (sl l 17 19)), .int .i64 0, .int .i64 0]
  | 4 => #[.int .i64 (cn (sl l 5 7)), .int .i64 (cn (sl l 12 16)), .int .i64 (cn (sl l 17 19)), .int .i64 (cn (sl l 20 22)), .int .i64 0]
  | _ => #[.int .i64 (cn (sl l 5 7)), .int .i64 (cn (sl l 12 16)), .int .i64 (cn (sl l 17 19)), .int .i64 (cn (sl l 20 22)), .int .i64 (cn (sl l 23 25))]
def dW (w : World) (s : ByteArray) (k : Nat) : World :=
  ((w.alloc (.cells (dA s.data.toList k) 49)).alloc (.cells #[.string (s.extract 5 7), .string (s.extract 12 16), .string (s.extract 17 19), .string (s.extract 20 22), .string (s.extract 23 25)] 9)).drew
theorem two_below (w : World) (a b : Obj) : Below w.heap.size w ((w.alloc a).alloc b).drew := (((Below.refl _ w).alloc (Nat.le_refl _) _).alloc (by simp) _).drew

set_option maxHeartbeats 2000000 in
set_option maxRecDepth 100000 in
theorem rdparse_29 (s : ByteArray) (w : World) (hs : s.size = 29) (m0 : Int) (hm0 : w.cell? ⟨2, 0, none⟩ = some (.int .i64 m0)) :
    Calls Tryd.prog 9 #[.string s] w fun e w' => ∃ n c : Int, e = .returned (.tuple #[.int .i64 n, .int .i64 c]) ∧ PR s.data.toList n c ∧ Below w.heap.size w w' := by
  have c := Tryd.strings_Index ⟨#[74, 97, 110, 32, 70, 101, 98, 32, 77, 97, 114, 32, 65, 112, 114, 32, 77, 97, 121, 32, 74, 117, 110, 32, 74, 117, 108, 32, 65, 117, 103, 32, 83, 101, 112, 32, 79, 99, 116, 32, 78, 111, 118, 32, 68, 101, 99]⟩ (s.extract 8 11) m0 w (by decide) hm0
  obtain ⟨m, hm⟩ : ∃ m, m = Lib.index mtext (sl s.data.toList 8 11) := ⟨_, rfl⟩
  rw [ext_sl, show (⟨#[74, 97, 110, 32, 70, 101, 98, 32, 77, 97, 114, 32, 65, 112, 114, 32, 77, 97, 121, 32, 74, 117, 110, 32, 74, 117, 108, 32, 65, 117, 103, 32, 83, 101, 112, 32, 79, 99, 116, 32, 78, 111, 118, 32, 68, 101, 99]⟩ : ByteArray).data.toList = mtext from rfl, ← hm] at c
  have hmb := mtext_bd (sl s.data.toList 8 11)
  rw [← hm] at hmb
  have HM : Hid (m = Lib.index mtext (sl s.data.toList 8 11)) := hm
  have hl : s.data.toList.length = 29 := by rw [size_list]; exact hs
  have HL : Hid (s.data.toList.length = 29) := hl
  clear hm0 hm hl
  go_enter Tryd.func9, Tryd.ntmps9
  go_wp2_with fail
  refine c.mono ?_
  rintro e w ⟨rfl, rfl⟩
  clear c
  go_wp2_with fail
  go_region
  go_wp2_with fail
  go_loopw [31] (fun i wr => ∃ k : Nat, k ≤ 5 ∧ i = .int .i64 k ∧ (∀ j : Nat, j < k → (part s.data.toList j).all isDig = true) ∧ wr = dW w s k) (fun i _ => 5 - (intOf i).toNat)
  case atStart => exact ⟨0, by omega, rfl, fun j hj => absurd hj (Nat.not_lt_zero _), rfl⟩
  case round =>
    obtain ⟨k, hk, rfl, hall, rfl⟩ := hrel
    have HA : Hid (∀ j : Nat, j < k → (part s.data.toList j).all isDig = true) := hall
    clear hall
    by_cases hlt : k < 5
    · have HPL : Hid ((part s.data.toList k).length ≤ 29) := Nat.le_trans (part_len _ HL.out k hlt) (by decide)
      cases hd : (part s.data.toList k).all isDig
      · have HD : Hid ((part s.data.toList k).all isDig = false) := hd
        have HP : Hid (PR s.data.toList 0 3) := .inr ⟨rfl, rfl, fun n h => by have := (dt_ref h).1 k hlt; rw [hd] at this; cases this⟩
        clear hd
        rcases (show k = 0 ∨ k = 1 ∨ k = 2 ∨ k = 3 ∨ k = 4 by omega) with rfl | rfl | rfl | rfl | rfl
        all_goals
          simp only [dW, dA]
          go_wp2_with fail
          refine (digs_at s _ _ _ hs).mono ?_
          rintro e w2 ⟨rfl, rfl⟩
          rw [show List.all (sl _ _ _) isDig = false from HD.out]
          go_wp2_with fail
          go_ret2
          exact ⟨0, 3, rfl, HP.out, two_below _ _ _⟩
      · have HD : Hid ((part s.data.toList k).all isDig = true) := hd
        have HA' : Hid (∀ j : Nat, j < k + 1 → (part s.data.toList j).all isDig = true) := by
          intro j hj
          by_cases h : j < k
          · exact HA.out j h
          · obtain rfl : j = k := by omega
            exact hd
        clear hd HA
        rcases (show k = 0 ∨ k = 1 ∨ k = 2 ∨ k = 3 ∨ k = 4 by omega) with rfl | rfl | rfl | rfl | rfl
        all_goals
          simp only [dW, dA]
          go_wp2_with fail
          refine (digs_at s _ _ _ hs).mono ?_
          rintro e w2 ⟨rfl, rfl⟩
          rw [show List.all (sl _ _ _) isDig = true from HD.out]
          go_wp2_with fail
          refine (trim_at s _ _ _).mono ?_
          rintro e w2 ⟨rfl, rfl⟩
          go_wp2_with fail
          refine (cn_at _ _ HPL.out).mono ?_
          rintro e w2 ⟨rfl, rfl⟩
          go_wp2_with fail
          go_roundw
          case rel => refine ⟨_, ?_, ?_, HA'.out, ?_⟩ <;> first | decide | rfl
          case measure => simp [intOf]
    · obtain rfl : k = 5 := by omega
      have HG : Hid (digs s.data.toList) := HA.out
      clear HA
      obtain ⟨x0, h0⟩ : ∃ x, x = cn (sl s.data.toList 5 7) := ⟨_, rfl⟩
      obtain ⟨x1, h1⟩ : ∃ x, x = cn (sl s.data.toList 12 16) := ⟨_, rfl⟩
      obtain ⟨x2, h2⟩ : ∃ x, x = cn (sl s.data.toList 17 19) := ⟨_, rfl⟩
      obtain ⟨x3, h3⟩ : ∃ x, x = cn (sl s.data.toList 20 22) := ⟨_, rfl⟩
      obtain ⟨x4, h4⟩ : ∃ x, x = cn (sl s.data.toList 23 25) := ⟨_, rfl⟩
      have b0 := cn_bd _ (HG.out 0 (by decide)) (part_len _ HL.out 0 (by decide))
      have b1 := cn_bd _ (HG.out 1 (by decide)) (part_len _ HL.out 1 (by decide))
      have b2 := cn_bd _ (HG.out 2 (by decide)) (part_len _ HL.out 2 (by decide))
      have b3 := cn_bd _ (HG.out 3 (by decide)) (part_len _ HL.out 3 (by decide))
      have b4 := cn_bd _ (HG.out 4 (by decide)) (part_len _ HL.out 4 (by decide))
      have e0 := cn_max _ (HG.out 0 (by decide)) (part_len _ HL.out 0 (by decide))
      have e2 := cn_max _ (HG.out 2 (by decide)) (part_len _ HL.out 2 (by decide))
      have e3 := cn_max _ (HG.out 3 (by decide)) (part_len _ HL.out 3 (by decide))
      have e4 := cn_max _ (HG.out 4 (by decide)) (part_len _ HL.out 4 (by decide))
      rw [part0, ← h0] at b0 e0
      rw [part1, ← h1] at b1
      rw [part2, ← h2] at b2 e2
      rw [part3, ← h3] at b3 e3
      rw [part4, ← h4] at b4 e4
      simp only [dW, dA]
      rw [← h0, ← h1, ← h2, ← h3, ← h4]
      have H1 : Hid (x1 = cn (part s.data.toList 1)) := h1
      have E0 : Hid (max 0 x0 = numb (part s.data.toList 0)) := e0
      have E2 : Hid (max 0 x2 = numb (part s.data.toList 2)) := e2
      have E3 : Hid (max 0 x3 = numb (part s.data.toList 3)) := e3
      have E4 : Hid (max 0 x4 = numb (part s.data.toList 4)) := e4
      clear h0 h1 h2 h3 h4 e0 e2 e3 e4
      have HQ : Hid (∀ n, IsDT s.data.toList n → 0 ≤ m ∧ vldB x1 (m / 4 + 1) (max 0 x0) = true ∧ num x1 (m / 4 + 1) (max 0 x0) * 86400 + 3600 * max 0 x2 + 60 * max 0 x3 + max 0 x4 = n) := by
        intro n h
        obtain ⟨_, g1, g2, g3⟩ := dt_ref h
        rw [← HM.out] at g1 g2 g3
        unfold rN at g3
        rw [← H1.out, ← E0.out] at g2 g3
        rw [← E2.out, ← E3.out, ← E4.out] at g3
        exact ⟨g1, g2, g3⟩
      have HW := two_below w (.cells #[.int .i64 x0, .int .i64 x1, .int .i64 x2, .int .i64 x3, .int .i64 x4] 49) (.cells #[.string (s.extract 5 7), .string (s.extract 12 16), .string (s.extract 17 19), .string (s.extract 20 22), .string (s.extract 23 25)] 9)
      have HW' : Hid (Below _ _ _) := HW
      clear HM H1 E0 E2 E3 E4 HW HG
      by_cases hm : m < 0
      · have HP : Hid (PR s.data.toList 0 3) := .inr ⟨rfl, rfl, fun n h => by have := (HQ.out n h).1; omega⟩
        obtain rfl : m = -1 := by omega
        clear hm hmb HQ
        cases hv : vldB x1 1 (max 0 x0)
        · have HV : Hid (vldB x1 1 (max 0 x0) = false) := hv
          clear hv
          go_wp2_with fail
          refine (rdays_no _ _ _ _ HV.out).mono ?_
          rintro e w2 ⟨rfl, hb⟩
          have HB : Hid (Below w.heap.size w w2) := HW'.out.trans (hb.mono HW'.out.size)
          clear hb HW'
          go_wp2_with fail
          go_ret2
          exact ⟨0, 3, rfl, HP.out, HB.out⟩
        · have HV : Hid (vldB x1 1 (max 0 x0) = true) := hv
          clear hv
          go_wp2_with fail
          refine (rdays_yes _ _ _ _ HV.out).mono ?_
          rintro e w2 ⟨rfl, hb⟩
          have HB : Hid (Below w.heap.size w w2) := HW'.out.trans (hb.mono HW'.out.size)
          clear hb HW'
          go_wp2_with fail
          go_ret2
          exact ⟨0, 3, rfl, HP.out, HB.out⟩
      · have hm0 : 0 ≤ m := by omega
        have hm1 : m ≤ 47 := hmb.2
        clear hm hmb
        have hd : decide (m < 0) = false := decide_eq_false (by omega)
        cases hv : vldB x1 (m / 4 + 1) (max 0 x0)
        · have HP : Hid (PR s.data.toList 0 3) := .inr ⟨rfl, rfl, fun n h => by have := (HQ.out n h).2.1; rw [hv] at this; cases this⟩
          have HV : Hid (vldB x1 (m / 4 + 1) (max 0 x0) = false) := hv
          clear hv HQ
          go_wp2_with fail
          refine (rdays_no _ _ _ _ HV.out).mono ?_
          rintro e w2 ⟨rfl, hb⟩
          have HB : Hid (Below w.heap.size w w2) := HW'.out.trans (hb.mono HW'.out.size)
          clear hb HW'
          go_wp2_with fail
          go_ret2
          exact ⟨0, 3, rfl, HP.out, HB.out⟩
        · have hnb := num_bd hv
          have HV : Hid (vldB x1 (m / 4 + 1) (max 0 x0) = true) := hv
          clear hv
          go_wp2_with fail
          refine (rdays_yes _ _ _ _ HV.out).mono ?_
          rintro e w2 ⟨rfl, hb⟩
          have HB : Hid (Below w.heap.size w w2) := HW'.out.trans (hb.mono HW'.out.size)
          have c2 := hb.cell (p := ⟨w.heap.size, 2, none⟩) (by simp; omega)
          have c3 := hb.cell (p := ⟨w.heap.size, 3, none⟩) (by simp; omega)
          have c4 := hb.cell (p := ⟨w.heap.size, 4, none⟩) (by simp; omega)
          simp [go_sem] at c2 c3 c4
          clear hb HW'
          go_wp2_with fail
          have HN : Hid (∀ k, IsDT s.data.toList k → 86400 * num x1 (m / 4 + 1) (max 0 x0) + 3600 * max 0 x2 + 60 * max 0 x3 + max 0 x4 = k) := fun k h => by have := (HQ.out k h).2.2; omega
          have hn0 : 0 ≤ 86400 * num x1 (m / 4 + 1) (max 0 x0) + 3600 * max 0 x2 + 60 * max 0 x3 + max 0 x4 := by omega
          generalize 86400 * num x1 (m / 4 + 1) (max 0 x0) + 3600 * max 0 x2 + 60 * max 0 x3 + max 0 x4 = n at HN hn0 ⊢
          clear c2 c3 c4 HQ HV hnb hd
          by_cases hmx : n ≤ 253402300799
          · refine (rdprint_yes _ _ hn0 hmx).mono ?_
            rintro e w3 ⟨y, mo, d, rfl, hv, hn, hb⟩
            have HB3 : Hid (Below w.heap.size w w3) := HB.out.trans (hb.mono HB.out.size)
            obtain ⟨a, ha⟩ : ∃ a : ByteArray, a = ⟨(dtext n y mo d).toArray⟩ := ⟨_, rfl⟩
            rw [← ha]
            have HD : Hid (IsDT a.data.toList n) := ⟨hn0, hmx, y, mo, d, hv, hn, by rw [ha]⟩
            clear hv hn hb ha HB
            cases hq : (a.toList == s.toList)
            · have HP : Hid (PR s.data.toList 0 3) := .inr ⟨rfl, rfl, fun k hk => by
                have e := HN.out k hk
                subst e
                rw [ByteArray.toList_eq, ByteArray.toList_eq, beq_eq_false_iff_ne] at hq
                obtain ⟨_, _, y, m, d, hv, hn, e⟩ := HD.out
                obtain ⟨_, _, z, l, c, hv', hn', e'⟩ := hk
                exact hq (by rw [e, e']; exact dt_text hv hn hv' hn')⟩
              go_wp2_with fail
              go_ret2
              exact ⟨0, 3, rfl, HP.out, HB3.out⟩
            · have HP : Hid (PR s.data.toList n 0) := .inl ⟨rfl, by
                have h := HD.out
                rw [ByteArray.toList_eq, ByteArray.toList_eq, beq_iff_eq] at hq
                rw [hq] at h; exact h⟩
              go_wp2_with fail
              go_ret2
              exact ⟨n, 0, rfl, HP.out, HB3.out⟩
          · have HP : Hid (PR s.data.toList 0 3) := .inr ⟨rfl, rfl, fun k hk => by
              have e := HN.out k hk
              subst e
              exact hmx hk.2.1⟩
            refine (rdprint_no _ _ (.inr (by omega))).mono ?_
            rintro e w3 ⟨rfl, rfl⟩
            have he : s.toList.isEmpty = false := by rw [ByteArray.toList_eq, isEmpty_size, hs]; rfl
            have hq : ((⟨#[]⟩ : ByteArray).toList == s.toList) = false := by
              rw [ByteArray.toList_eq, ByteArray.toList_eq, beq_eq_false_iff_ne]
              intro h
              have := congrArg List.length h
              rw [size_list s, hs] at this
              cases this
            go_wp2_with fail
            go_ret2
            exact ⟨0, 3, rfl, HP.out, HB.out⟩

set_option maxHeartbeats 1000000 in
theorem rdparse_short (s : ByteArray) (w : World) (hs : s.size ≠ 29) :
    Calls Tryd.prog 9 #[.string s] w fun e w' => e = .returned (.tuple #[.int .i64 0, .int .i64 3]) ∧ w' = w := by
  have hn : ((s.size : Int) == 29) = false := by rw [beq_eq_false_iff_ne]; omega
  clear hs
  go_enter Tryd.func9, Tryd.ntmps9
  go_wp2_with fail
  go_ret2
  exact ⟨rfl, rfl⟩

theorem rdparse_any (s : ByteArray) (w : World) (hm : ∃ m, w.cell? ⟨2, 0, none⟩ = some (.int .i64 m)) :
    Calls Tryd.prog 9 #[.string s] w fun e w' => ∃ n c : Int, e = .returned (.tuple #[.int .i64 n, .int .i64 c]) ∧ PR s.data.toList n c ∧ Below w.heap.size w w' := by
  by_cases hs : s.size = 29
  · obtain ⟨m, hm⟩ := hm
    exact rdparse_29 s w hs m hm
  · refine (rdparse_short s w hs).mono ?_
    rintro e w' ⟨rfl, rfl⟩
    exact ⟨0, 3, rfl, .inr ⟨rfl, rfl, fun k h => by have := dt_len h; rw [size_list] at this; exact hs this⟩, Below.refl _ _⟩
end Go.Proofs.YthbbfkbcanjfaaaDoor
