/-
  What DateParse of the document's answers computes, a contract over the program's text; the variable that strings.Index reads holds some number.
-/
import Derived.Test.YtigbjhkkbgdkcabGreatDoorMf
import Derived.Deep.QuietTactic
import Derived.BigQuiet
import Derived.Below
import Derived.Deep.SlicePairs
import Derived.Lib.SmallJoins
import Derived.Deep.Strs
namespace Go.Proofs.YtigbjhkkbgdkcabGreatDoor
open Go.RowKit

theorem ext_sl (s : ByteArray) (i j : Nat) : (s.extract i j).data.toList = sl s.data.toList i j := by
  rw [ByteArray.data_extract, Array.toList_extract]
  rfl

theorem ext_le (s : ByteArray) (i j : Nat) (hs : s.size = 29) : (s.extract i j).size ≤ 29 := by rw [ByteArray.size_extract]; omega
theorem digs_at (s : ByteArray) (i j : Nat) (w : World) (hs : s.size = 29) :
    Calls Tryz.prog 56 #[.string (s.extract i j), .string ⟨#[48, 49, 50, 51, 52, 53, 54, 55, 56, 57]⟩] w fun e w' => e = .returned (.bool ((sl s.data.toList i j).all isDig)) ∧ w' = w := by
  have c := allOf_any (s.extract i j) ⟨#[48, 49, 50, 51, 52, 53, 54, 55, 56, 57]⟩ w (by have := ext_le s i j hs; unfold maxLen; omega)
  rw [ext_sl, show (⟨#[48, 49, 50, 51, 52, 53, 54, 55, 56, 57]⟩ : ByteArray).data.toList = [48, 49, 50, 51, 52, 53, 54, 55, 56, 57] from rfl, tens_all] at c
  exact c
theorem rtrimp_at (s : ByteArray) (i j : Nat) (w : World) :
    Calls Tryz.prog 81 #[.string (s.extract i j), .string ⟨#[48]⟩] w fun e w' => e = .returned (.string ⟨(Lib.trimLeftB (sl s.data.toList i j) 48).toArray⟩) ∧ w' = w := by
  have c := Tryz.strings_TrimLeft_one (s.extract i j) 48 (by decide) w
  rw [ext_sl] at c
  exact c
theorem cn_at (l : List UInt8) (w : World) (h : l.length ≤ 29) :
    Calls Tryz.prog 80 #[.string ⟨(Lib.trimLeftB l 48).toArray⟩, .int .i64 9999] w fun e w' => e = .returned (.int .i64 (cn l)) ∧ w' = w :=
  count_any ⟨(Lib.trimLeftB l 48).toArray⟩ 9999 w (by rw [← size_list]; have := trim_len l; show (Lib.trimLeftB l 48).length ≤ maxLen; unfold maxLen; omega)

/-- memory behind k rounds of the loop -/
def dA (l : List UInt8) : Nat → Array Value
  | 0 => #[.int .i64 0, .int .i64 0, .int .i64 0, .int .i64 0, .int .i64 0]
  | 1 => #[.int .i64 (cn (sl l 5 7)), .int .i64 0, .int .i64 0, .int .i64 0, .int .i64 0]
  | 2 => #[.int .i64 (cn (sl l 5 7)), .int .i64 (cn (sl l 12 16)), .int .i64 0, .int .i64 0, .int .i64 0]
  | 3 => #[.int .i64 (cn (sl l 5 7)), .int .i64 (cn (sl l 12 16)), .int .i64 (cn (sl l 17 19)), .int .i64 0, .int .i64 0]
  | 4 => #[.int .i64 (cn (sl l 5 7)), .int .i64 (cn (sl l 12 16)), .int .i64 (cn (sl l 17 19)), .int .i64 (cn (sl l 20 22)), .int .i64 0]
  | _ => #[.int .i64 (cn (sl l 5 7)), .int .i64 (cn (sl l 12 16)), .int .i64 (cn (sl l 17 19)), .int .i64 (cn (sl l 20 22)), .int .i64 (cn (sl l 23 25))]
def dW (w : World) (s : ByteArray) (k : Nat) : World :=
  ((w.alloc (.cells (dA s.data.toList k) 108)).alloc (.cells #[.string (s.extract 5 7), .string (s.extract 12 16), .string (s.extract 17 19), .string (s.extract 20 22), .string (s.extract 23 25)] 9)).drew
theorem two_below (w : World) (a b : Obj) : Below w.heap.size w ((w.alloc a).alloc b).drew := (((Below.refl _ w).alloc (Nat.le_refl _) _).alloc (by simp) _).drew

set_option maxHeartbeats 2000000 in
set_option maxRecDepth 100000 in
theorem rdparse_29 (s : ByteArray) (w : World) (hs : s.size = 29) (m0 : Int) (hm0 : w.cell? ⟨2, 0, none⟩ = some (.int .i64 m0)) :
    Calls Tryz.prog 53 #[.string s] w fun e w' => ∃ n c : Int, e = .returned (.tuple #[.int .i64 n, .int .i64 c]) ∧ PR s.data.toList n c ∧ Below w.heap.size w w' := by
  have c := Tryz.strings_Index ⟨#[74, 97, 110, 32, 70, 101, 98, 32, 77, 97, 114, 32, 65, 112, 114, 32, 77, 97, 121, 32, 74, 117, 110, 32, 74, 117, 108, 32, 65, 117, 103, 32, 83, 101, 112, 32, 79, 99, 116, 32, 78, 111, 118, 32, 68, 101, 99]⟩ (s.extract 8 11) m0 w (by decide) hm0
  obtain ⟨m, hm⟩ : ∃ m, m = Lib.index mtext (sl s.data.toList 8 11) := ⟨_, rfl⟩
  rw [ext_sl, show (⟨#[74, 97, 110, 32, 70, 101, 98, 32, 77, 97, 114, 32, 65, 112, 114, 32, 77, 97, 121, 32, 74, 117, 110, 32, 74, 117, 108, 32, 65, 117, 103, 32, 83, 101, 112, 32, 79, 99, 116, 32, 78, 111, 118, 32, 68, 101, 99]⟩ : ByteArray).data.toList = mtext from rfl, ← hm] at c
  have hmb := mtext_bd (sl s.data.toList 8 11)
  rw [← hm] at hmb
  have HM : Hid (m = Lib.index mtext (sl s.data.toList 8 11)) := hm
  have hl : s.data.toList.length = 29 := by rw [size_list]; exact hs
  have HL : Hid (s.data.toList.length = 29) := hl
  clear hm0 hm hl
  go_enter Tryz.func53, Tryz.ntmps53
  go_wp2_with fail
  refine c.mono ?_
  rintro e w ⟨rfl, rfl⟩
  clear c
  go_wp2_with fail
  go_region
  go_wp2_with fail
  go_loopw [31] (fun i wr => ∃ k : Nat, k ≤ 5 ∧ i = .int .i64 k ∧ (∀ j : Nat, j < k → (part s.data.toList j).all isDig = true) ∧ wr = dW w s k) (fun i _ => 5 - (intOf i).toNat)
  case atStart => exact ⟨0, by omega, rfl, fun j hj => absurd hj (Nat.not_lt_zero _), rfl⟩
  case round =>
    obtain ⟨k, hk, rfl, hall, rfl⟩ := hrel
    have HA : Hid (∀ j : Nat, j < k → (part s.data.toList j).all isDig = true) := hall
    clear hall
    by_cases hlt : k < 5
    · have HPL : Hid ((part s.data.toList k).length ≤ 29) := Nat.le_trans (part_len _ HL.out k hlt) (by decide)
      cases hd : (part s.data.toList k).all isDig
      · have HD : Hid ((part s.data.toList k).all isDig = false) := hd
        have HP : Hid (PR s.data.toList 0 3) := .inr ⟨rfl, rfl, fun n h => by have := (dt_ref h).1 k hlt; rw [hd] at this; cases this⟩
        clear hd
        rcases (show k = 0 ∨ k = 1 ∨ k = 2 ∨ k = 3 ∨ k = 4 by omega) with rfl | rfl | rfl | rfl | rfl
        all_goals
          simp only [dW, dA]
          go_wp2_with fail
          refine (digs_at s _ _ _ hs).mono ?_
          rintro e w2 ⟨rfl, rfl⟩
          rw [show List.all (sl _ _ _) isDig = false from HD.out]
          go_wp2_with fail
          go_ret2
          exact ⟨0, 3, rfl, HP.out, two_below _ _ _⟩
      · have HD : Hid ((part s.data.toList k).all isDig = true) := hd
        have HA' : Hid (∀ j : Nat, j < k + 1 → (part s.data.toList j).all isDig = true) := by
          intro j hj
          by_cases h : j < k
          · exact HA.out j h
          · obtain rfl : j = k := by omega
            exact hd
        clear hd HA
        rcases (show k = 0 ∨ k = 1 ∨ k = 2 ∨ k = 3 ∨ k = 4 by omega) with rfl | rfl | rfl | rfl | rfl
        all_goals
          simp only [dW, dA]
          go_wp2_with fail
          refine (digs_at s _ _ _ hs).mono ?_
          rintro e w2 ⟨rfl, rfl⟩
          rw [show List.all (sl _ _ _) isDig = true from HD.out]
          go_wp2_with fail
          refine (rtrimp_at s _ _ _).mono ?_
          rintro e w2 ⟨rfl, rfl⟩
          go_wp2_with fail
          refine (cn_at _ _ HPL.out).mono ?_
          rintro e w2 ⟨rfl, rfl⟩
          go_wp2_with fail
          go_roundw
          case rel => refine ⟨_, ?_, ?_, HA'.out, ?_⟩ <;> first | decide | rfl
          case measure => simp [intOf]
    · obtain rfl : k = 5 := by omega
      have HG : Hid (digs s.data.toList) := HA.out
      clear HA
      obtain ⟨x0, h0⟩ : ∃ x, x = cn (sl s.data.toList 5 7) := ⟨_, rfl⟩
      obtain ⟨x1, h1⟩ : ∃ x, x = cn (sl s.data.toList 12 16) := ⟨_, rfl⟩
      obtain ⟨x2, h2⟩ : ∃ x, x = cn (sl s.data.toList 17 19) := ⟨_, rfl⟩
      obtain ⟨x3, h3⟩ : ∃ x, x = cn (sl s.data.toList 20 22) := ⟨_, rfl⟩
      obtain ⟨x4, h4⟩ : ∃ x, x = cn (sl s.data.toList 23 25) := ⟨_, rfl⟩
      have b0 := cn_bd _ (HG.out 0 (by decide)) (part_len _ HL.out 0 (by decide))
      have b1 := cn_bd _ (HG.out 1 (by decide)) (part_len _ HL.out 1 (by decide))
      have b2 := cn_bd _ (HG.out 2 (by decide)) (part_len _ HL.out 2 (by decide))
      have b3 := cn_bd _ (HG.out 3 (by decide)) (part_len _ HL.out 3 (by decide))
      have b4 := cn_bd _ (HG.out 4 (by decide)) (part_len _ HL.out 4 (by decide))
      have e0 := cn_max _ (HG.out 0 (by decide)) (part_len _ HL.out 0 (by decide))
      have e2 := cn_max _ (HG.out 2 (by decide)) (part_len _ HL.out 2 (by decide))
      have e3 := cn_max _ (HG.out 3 (by decide)) (part_len _ HL.out 3 (by decide))
      have e4 := cn_max _ (HG.out 4 (by decide)) (part_len _ HL.out 4 (by decide))
      rw [part0, ← h0] at b0 e0
      rw [part1, ← h1] at b1
      rw [part2, ← h2] at b2 e2
      rw [part3, ← h3] at b3 e3
      rw [part4, ← h4] at b4 e4
      simp only [dW, dA]
      rw [← h0, ← h1, ← h2, ← h3, ← h4]
      have H1 : Hid (x1 = cn (part s.data.toList 1)) := h1
      have E0 : Hid (max 0 x0 = numb (part s.data.toList 0)) := e0
      have E2 : Hid (max 0 x2 = numb (part s.data.toList 2)) := e2
      have E3 : Hid (max 0 x3 = numb (part s.data.toList 3)) := e3
      have E4 : Hid (max 0 x4 = numb (part s.data.toList 4)) := e4
      clear h0 h1 h2 h3 h4 e0 e2 e3 e4
      have HQ : Hid (∀ n, IsDT s.data.toList n → 0 ≤ m ∧ vldB x1 (m / 4 + 1) (max 0 x0) = true ∧ num x1 (m / 4 + 1) (max 0 x0) * 86400 + 3600 * max 0 x2 + 60 * max 0 x3 + max 0 x4 = n) := by
        intro n h
        obtain ⟨_, g1, g2, g3⟩ := dt_ref h
        rw [← HM.out] at g1 g2 g3
        unfold rN at g3
        rw [← H1.out, ← E0.out] at g2 g3
        rw [← E2.out, ← E3.out, ← E4.out] at g3
        exact ⟨g1, g2, g3⟩
      have HW := two_below w (.cells #[.int .i64 x0, .int .i64 x1, .int .i64 x2, .int .i64 x3, .int .i64 x4] 108) (.cells #[.string (s.extract 5 7), .string (s.extract 12 16), .string (s.extract 17 19), .string (s.extract 20 22), .string (s.extract 23 25)] 9)
      have HW' : Hid (Below _ _ _) := HW
      clear HM H1 E0 E2 E3 E4 HW HG
      by_cases hm : m < 0
      · have HP : Hid (PR s.data.toList 0 3) := .inr ⟨rfl, rfl, fun n h => by have := (HQ.out n h).1; omega⟩
        obtain rfl : m = -1 := by omega
        clear hm hmb HQ
        cases hv : vldB x1 1 (max 0 x0)
        · have HV : Hid (vldB x1 1 (max 0 x0) = false) := hv
          clear hv
          go_wp2_with fail
          refine (rdays_no _ _ _ _ HV.out).mono ?_
          rintro e w2 ⟨rfl, hb⟩
          have HB : Hid (Below w.heap.size w w2) := HW'.out.trans (hb.mono HW'.out.size)
          clear hb HW'
          go_wp2_with fail
          go_ret2
          exact ⟨0, 3, rfl, HP.out, HB.out⟩
        · have HV : Hid (vldB x1 1 (max 0 x0) = true) := hv
          clear hv
          go_wp2_with fail
          refine (rdays_yes _ _ _ _ HV.out).mono ?_
          rintro e w2 ⟨rfl, hb⟩
          have HB : Hid (Below w.heap.size w w2) := HW'.out.trans (hb.mono HW'.out.size)
          clear hb HW'
          go_wp2_with fail
          go_ret2
          exact ⟨0, 3, rfl, HP.out, HB.out⟩
      · have hm0 : 0 ≤ m := by omega
        have hm1 : m ≤ 47 := hmb.2
        clear hm hmb
        have hd : decide (m < 0) = false := decide_eq_false (by omega)
        cases hv : vldB x1 (m / 4 + 1) (max 0 x0)
        · have HP : Hid (PR s.data.toList 0 3) := .inr ⟨rfl, rfl, fun n h => by have := (HQ.out n h).2.1; rw [hv] at this; cases this⟩
          have HV : Hid (vldB x1 (m / 4 + 1) (max 0 x0) = false) := hv
          clear hv HQ
          go_wp2_with fail
          refine (rdays_no _ _ _ _ HV.out).mono ?_
          rintro e w2 ⟨rfl, hb⟩
          have HB : Hid (Below w.heap.size w w2) := HW'.out.trans (hb.mono HW'.out.size)
          clear hb HW'
          go_wp2_with fail
          go_ret2
          exact ⟨0, 3, rfl, HP.out, HB.out⟩
        · have hnb := num_bd hv
          have HV : Hid (vldB x1 (m / 4 + 1) (max 0 x0) = true) := hv
          clear hv
          go_wp2_with fail
          refine (rdays_yes _ _ _ _ HV.out).mono ?_
          rintro e w2 ⟨rfl, hb⟩
          have HB : Hid (Below w.heap.size w w2) := HW'.out.trans (hb.mono HW'.out.size)
          have c2 := hb.cell (p := ⟨w.heap.size, 2, none⟩) (by simp; omega)
          have c3 := hb.cell (p := ⟨w.heap.size, 3, none⟩) (by simp; omega)
          have c4 := hb.cell (p := ⟨w.heap.size, 4, none⟩) (by simp; omega)
          simp [go_sem] at c2 c3 c4
          clear hb HW'
          go_wp2_with fail
          have HN : Hid (∀ k, IsDT s.data.toList k → 86400 * num x1 (m / 4 + 1) (max 0 x0) + 3600 * max 0 x2 + 60 * max 0 x3 + max 0 x4 = k) := fun k h => by have := (HQ.out k h).2.2; omega
          have hn0 : 0 ≤ 86400 * num x1 (m / 4 + 1) (max 0 x0) + 3600 * max 0 x2 + 60 * max 0 x3 + max 0 x4 := by omega
          generalize 86400 * num x1 (m / 4 + 1) (max 0 x0) + 3600 * max 0 x2 + 60 * max 0 x3 + max 0 x4 = n at HN hn0 ⊢
          clear c2 c3 c4 HQ HV hnb hd
          by_cases hmx : n ≤ 253402300799
          · refine (rdprint_yes _ _ hn0 hmx).mono ?_
            rintro e w3 ⟨y, mo, d, rfl, hv, hn, hb⟩
            have HB3 : Hid (Below w.heap.size w w3) := HB.out.trans (hb.mono HB.out.size)
            obtain ⟨a, ha⟩ : ∃ a : ByteArray, a = ⟨(dtext n y mo d).toArray⟩ := ⟨_, rfl⟩
            rw [← ha]
            have HD : Hid (IsDT a.data.toList n) := ⟨hn0, hmx, y, mo, d, hv, hn, by rw [ha]⟩
            clear hv hn hb ha HB
            cases hq : (a.toList == s.toList)
            · have HP : Hid (PR s.data.toList 0 3) := .inr ⟨rfl, rfl, fun k hk => by
                have e := HN.out k hk
                subst e
                rw [ByteArray.toList_eq, ByteArray.toList_eq, beq_eq_false_iff_ne] at hq
                obtain ⟨_, _, y, m, d, hv, hn, e⟩ := HD.out
                obtain ⟨_, _, z, l, c, hv', hn', e'⟩ := hk
                exact hq (by rw [e, e']; exact dt_text hv hn hv' hn')⟩
              go_wp2_with fail
              go_ret2
              exact ⟨0, 3, rfl, HP.out, HB3.out⟩
            · have HP : Hid (PR s.data.toList n 0) := .inl ⟨rfl, by
                have h := HD.out
                rw [ByteArray.toList_eq, ByteArray.toList_eq, beq_iff_eq] at hq
                rw [hq] at h; exact h⟩
              go_wp2_with fail
              go_ret2
              exact ⟨n, 0, rfl, HP.out, HB3.out⟩
          · have HP : Hid (PR s.data.toList 0 3) := .inr ⟨rfl, rfl, fun k hk => by
              have e := HN.out k hk
              subst e
              exact hmx hk.2.1⟩
            refine (rdprint_no _ _ (.inr (by omega))).mono ?_
            rintro e w3 ⟨rfl, rfl⟩
            have he : s.toList.isEmpty = false := by rw [ByteArray.toList_eq, isEmpty_size, hs]; rfl
            have hq : ((⟨#[]⟩ : ByteArray).toList == s.toList) = false := by
              rw [ByteArray.toList_eq, ByteArray.toList_eq, beq_eq_false_iff_ne]
              intro h
              have := congrArg List.length h
              rw [size_list s, hs] at this
              cases this
            go_wp2_with fail
            go_ret2
            exact ⟨0, 3, rfl, HP.out, HB.out⟩

set_option maxHeartbeats 1000000 in
theorem rdparse_short (s : ByteArray) (w : World) (hs : s.size ≠ 29) :
    Calls Tryz.prog 53 #[.string s] w fun e w' => e = .returned (.tuple #[.int .i64 0, .int .i64 3]) ∧ w' = w := by
  have hn : ((s.size : Int) == 29) = false := by rw [beq_eq_false_iff_ne]; omega
  clear hs
  go_enter Tryz.func53, Tryz.ntmps53
  go_wp2_with fail
  go_ret2
  exact ⟨rfl, rfl⟩

theorem rdparse_any (s : ByteArray) (w : World) (hm : ∃ m, w.cell? ⟨2, 0, none⟩ = some (.int .i64 m)) :
    Calls Tryz.prog 53 #[.string s] w fun e w' => ∃ n c : Int, e = .returned (.tuple #[.int .i64 n, .int .i64 c]) ∧ PR s.data.toList n c ∧ Below w.heap.size w w' := by
  by_cases hs : s.size = 29
  · obtain ⟨m, hm⟩ := hm
    exact rdparse_29 s w hs m hm
  · refine (rdparse_short s w hs).mono ?_
    rintro e w' ⟨rfl, rfl⟩
    exact ⟨0, 3, rfl, .inr ⟨rfl, rfl, fun k h => by have := dt_len h; rw [size_list] at this; exact hs this⟩, Below.refl _ _⟩
end Go.Proofs.YtigbjhkkbgdkcabGreatDoor

/-
  What dateOf of the document's answers says.
-/
namespace Go.Proofs.YtigbjhkkbgdkcabGreatDoor
open Go.RowKit

set_option maxHeartbeats 1000000 in
set_option maxRecDepth 100000 in
theorem rdateOf_at (v : Value) (ls : List Fld) (s : ByteArray) (n c : Int) (hp : PR (jn (vals ls s.data.toList)) n c) (b : Bool) (hb : b = (!(vals ls s.data.toList).isEmpty && (c == 0))) (w : World) (hf : Fl w v ls) (hbk : bulkF ls ≤ 1048576) (hs : s.size ≤ 100) (hm : ∃ m, w.cell? ⟨2, 0, none⟩ = some (.int .i64 m)) :
    Calls Tryz.prog 31 #[v, .string s] w fun e w' => e = .returned (.tuple #[.int .i64 n, .bool b]) ∧ Below w.heap.size w w' := by
  obtain ⟨x, hx⟩ : ∃ x : ByteArray, x.data.toList = jn (vals ls s.data.toList) := ⟨⟨(jn (vals ls s.data.toList)).toArray⟩, rfl⟩
  have HX : Hid (x.data.toList = jn (vals ls s.data.toList)) := hx
  rw [← hx] at hp
  have HP : Hid (PR x.data.toList n c) := hp
  obtain ⟨q, hq⟩ : ∃ q, q = !(vals ls s.data.toList).isEmpty := ⟨_, rfl⟩
  have HQ : Hid (q = !(vals ls s.data.toList).isEmpty) := hq
  rw [← hq] at hb
  have HF : Hid (Fl w v ls) := hf
  have HBK : Hid (bulkF ls ≤ 1048576) := hbk
  obtain ⟨m, hm⟩ := hm
  have HM : Hid (w.cell? ⟨2, 0, none⟩ = some (.int .i64 m)) := hm
  obtain ⟨ad, cap, hv, hnc, hcm, hcx⟩ := id hf
  subst hv
  unfold maxLen at hcm
  clear hcx
  have hcb : (c == 0) = true ∨ (c == 0) = false := by cases (c == 0) <;> simp
  clear hx hp hq hf hbk hm
  go_enter Tryz.func31, Tryz.ntmps31
  go_wp2_with fail
  refine (rget_at _ ls s x q HX.out HQ.out _ HF.out HBK.out (by omega)).mono ?_
  rintro e w1 ⟨rfl, hb1⟩
  have HM1 : Hid (w1.cell? ⟨2, 0, none⟩ = some (.int .i64 m)) := cell_keep hb1 HM.out
  go_wp2_with fail
  refine (rdparse_any x _ ⟨m, HM1.out⟩).mono ?_
  rintro e w2 ⟨n', c', rfl, hp', hb2⟩
  obtain ⟨rfl, rfl⟩ := PR_one hp' HP.out
  have HB2 : Hid (Below w.heap.size w w2) := hb1.trans (hb2.mono hb1.size)
  clear hb1 hb2 hp'
  subst hb
  cases q
  · go_wp2_with fail
    go_ret2
    exact ⟨rfl, HB2.out⟩
  · rcases hcb with hcb | hcb
    all_goals
      go_wp2_with fail
      go_ret2
      exact ⟨by rw [hcb]; rfl, HB2.out⟩
end Go.Proofs.YtigbjhkkbgdkcabGreatDoor

/-
  What controls, some, anyField, span, made and stored of the document's answers say.
-/
namespace Go.Proofs.YtigbjhkkbgdkcabGreatDoor
open Go.RowKit

set_option maxRecDepth 100000 in
theorem rctl_at (v : Value) (ls : List Fld) (w : World) (hf : Fl w v ls) (hbk : bulkF ls ≤ 1048576) :
    Calls Tryz.prog 29 #[v] w fun e w' => ∃ v', e = .returned v' ∧ w'.ownsRow w.heap.size 59 3 v' (ctl ls).length (drs (ctl ls)) ∧ Below w.heap.size w w' := by
  have HF : Hid (Fl w v ls) := hf
  have HBK : Hid (bulkF ls ≤ 1048576) := hbk
  obtain ⟨x, hx⟩ : ∃ x : ByteArray, x.data.toList = jn (vals ls (⟨#[67, 97, 99, 104, 101, 45, 67, 111, 110, 116, 114, 111, 108]⟩ : ByteArray).data.toList) := ⟨⟨(jn (vals ls nCC)).toArray⟩, rfl⟩
  have HX : Hid (x.data.toList = jn (vals ls (⟨#[67, 97, 99, 104, 101, 45, 67, 111, 110, 116, 114, 111, 108]⟩ : ByteArray).data.toList)) := hx
  have HC : Hid ((ctQ x.data.toList).1 = ctl ls) := by show _ = _; rw [hx]; rfl
  obtain ⟨ad, cap, hv, hnc, hcm, hcx⟩ := id hf
  subst hv
  unfold maxLen at hcm
  clear hcx hx hf hbk
  go_enter Tryz.func29, Tryz.ntmps29
  go_wp2_with fail
  refine (rget_at _ ls _ x _ HX.out rfl _ HF.out HBK.out (by decide)).mono ?_
  rintro e w1 ⟨rfl, hb1⟩
  have HB1 : Hid (Below w.heap.size w w1) := hb1
  clear hb1
  go_wp2_with fail
  refine (rkparse_any x _).mono ?_
  rintro e w2 ⟨v', rfl, hown, hb2⟩
  rw [HC.out] at hown
  have HO : Hid (w2.ownsRow w.heap.size 59 3 v' (ctl ls).length (drs (ctl ls))) := own_le hown HB1.out.size
  have HB2 : Hid (Below w.heap.size w w2) := HB1.out.trans (hb2.mono HB1.out.size)
  obtain ⟨ad2, cap2, hv2, hcm2, hnc2, _⟩ := own_form2 hown
  subst hv2
  clear hown hb2
  go_wp2_with fail
  go_ret
  exact ⟨_, rfl, HO.out, HB2.out⟩
set_option maxRecDepth 100000 in
theorem rspn_any (n m : Int) (w : World) :
    Calls Tryz.prog 32 #[.int .i64 n, .int .i64 m] w fun e w' => e = .returned (.int .i64 (spn n m)) ∧ w' = w := by
  go_enter Tryz.func32, Tryz.ntmps32
  go_wp2_with fail
  go_ret
  exact ⟨rfl, rfl⟩
set_option maxHeartbeats 1000000 in
set_option maxRecDepth 100000 in
theorem rsome_at (v nv : Value) (ds : List Dv) (ns : List (List UInt8)) (w : World) (hf : Dl w v ds) (hm : MostD maxLen ds) (hn : Sl w nv ns) :
    Calls Tryz.prog 41 #[v, nv] w fun e w' => e = .returned (.bool (ns.any (hasK ds))) ∧ Below w.heap.size w w' := by
  have HF : Hid (Dl w v ds) := hf
  have HM : Hid (MostD maxLen ds) := hm
  obtain ⟨g, off, cap, hv, hnc, hcm, hgs, hce⟩ := hn
  subst hv
  have HCE : Hid (∀ (k : Nat) (h : k < ns.length), w.cell? ⟨g, off + k, none⟩ = some (.string ⟨ns[k].toArray⟩)) := hce
  unfold maxLen at hcm
  clear hf hm hce
  go_enter Tryz.func41, Tryz.ntmps41
  go_wp2_with fail
  go_loopw [11] (fun i wr => ∃ k : Nat, k ≤ ns.length ∧ i = .int .i64 k ∧ Hid ((ns.take k).any (hasK ds) = false) ∧ Below w.heap.size w wr) (fun i _ => ns.length - (intOf i).toNat)
  case atStart => exact ⟨0, Nat.zero_le _, rfl, rfl, Below.refl _ _⟩
  case round =>
    obtain ⟨k, hk, rfl, HNO, hw⟩ := hrel
    have hsz := hw.size
    by_cases hlt : k < ns.length
    · obtain ⟨n, hn⟩ : ∃ n : ByteArray, n = ⟨ns[k].toArray⟩ := ⟨_, rfl⟩
      have HE : Hid (n.data.toList = ns[k]) := by show _ = _; rw [hn]
      have c1 := (hw.cell (p := ⟨g, off + k, none⟩) hgs).trans (HCE.out k hlt)
      rw [← hn] at c1
      have hgr : g < wr.heap.size := by omega
      have hki : (k : Int) < (ns.length : Int) := by omega
      have hk0 : (0 : Int) ≤ (k : Int) := by omega
      have HFR : Hid (Dl wr v ds) := HF.out.below hw
      have HW : Hid (Below w.heap.size w wr) := hw
      clear hn hw
      go_wp2_with fail
      refine (rdir_at v n ds _ HFR.out HM.out).mono ?_
      rintro e w2 ⟨hx, hb2⟩
      obtain ⟨x, a, f, r, rfl, hs, _⟩ := hx
      have hr : hasK ds ns[k] = r := by rw [← HE.out]; unfold hasK; rw [hs]
      have HB2 : Hid (Below w.heap.size w w2) := HW.out.trans (hb2.mono HW.out.size)
      clear hs hb2
      cases r
      · have HNX : Hid ((ns.take (k + 1)).any (hasK ds) = false) := by
          show _ = _
          rw [List.take_succ_eq_append_getElem hlt, List.any_append, HNO.out, List.any_cons, hr]; rfl
        clear hr
        go_wp2_with fail
        go_roundw
        case rel => exact ⟨k + 1, by omega, by go_num, HNX, HB2.out.alloc HB2.out.size _⟩
        case measure => simp [intOf]; omega
      · have HNX : Hid (ns.any (hasK ds) = true) := by
          show _ = _
          rw [List.any_eq_true]
          exact ⟨ns[k], List.getElem_mem hlt, hr⟩
        clear hr
        go_wp2_with fail
        go_ret
        exact ⟨ret_bool HNX.out.symm, HB2.out.alloc HB2.out.size _⟩
    · have HNX : Hid (ns.any (hasK ds) = false) := by
        have := HNO.out
        rw [List.take_of_length_le (by omega)] at this
        exact this
      go_wp2_with fail
      go_ret
      exact ⟨ret_bool HNX.out.symm, hw⟩
set_option maxHeartbeats 1000000 in
set_option maxRecDepth 100000 in
theorem ranyF_at (v nv : Value) (ls : List Fld) (ns : List (List UInt8)) (w : World) (hf : Fl w v ls) (hbk : bulkF ls ≤ 1048576) (hn : Sl w nv ns) (hns : ∀ n ∈ ns, n.length ≤ 100) :
    Calls Tryz.prog 30 #[v, nv] w fun e w' => e = .returned (.bool (ns.any (fun n => !(vals ls n).isEmpty))) ∧ Below w.heap.size w w' := by
  have HF : Hid (Fl w v ls) := hf
  have HBK : Hid (bulkF ls ≤ 1048576) := hbk
  have HNS : Hid (∀ n ∈ ns, n.length ≤ 100) := hns
  obtain ⟨g, off, cap, hv, hnc, hcm, hgs, hce⟩ := hn
  subst hv
  have HCE : Hid (∀ (k : Nat) (h : k < ns.length), w.cell? ⟨g, off + k, none⟩ = some (.string ⟨ns[k].toArray⟩)) := hce
  unfold maxLen at hcm
  clear hf hbk hce hns
  go_enter Tryz.func30, Tryz.ntmps30
  go_wp2_with fail
  go_loopw [11] (fun i wr => ∃ k : Nat, k ≤ ns.length ∧ i = .int .i64 k ∧ Hid ((ns.take k).any (fun n => !(vals ls n).isEmpty) = false) ∧ Below w.heap.size w wr) (fun i _ => ns.length - (intOf i).toNat)
  case atStart => exact ⟨0, Nat.zero_le _, rfl, rfl, Below.refl _ _⟩
  case round =>
    obtain ⟨k, hk, rfl, HNO, hw⟩ := hrel
    have hsz := hw.size
    by_cases hlt : k < ns.length
    · obtain ⟨n, hn⟩ : ∃ n : ByteArray, n = ⟨ns[k].toArray⟩ := ⟨_, rfl⟩
      have HE : Hid (n.data.toList = ns[k]) := by show _ = _; rw [hn]
      have hnl : n.size ≤ 100 := by rw [← size_list, HE.out]; exact HNS.out _ (List.getElem_mem hlt)
      have c1 := (hw.cell (p := ⟨g, off + k, none⟩) hgs).trans (HCE.out k hlt)
      rw [← hn] at c1
      have hgr : g < wr.heap.size := by omega
      have hki : (k : Int) < (ns.length : Int) := by omega
      have hk0 : (0 : Int) ≤ (k : Int) := by omega
      have HFR : Hid (Fl wr v ls) := HF.out.below hw
      have HW : Hid (Below w.heap.size w wr) := hw
      obtain ⟨x, hx⟩ : ∃ x : ByteArray, x.data.toList = jn (vals ls n.data.toList) := ⟨⟨(jn (vals ls n.data.toList)).toArray⟩, rfl⟩
      have HX : Hid (x.data.toList = jn (vals ls n.data.toList)) := hx
      obtain ⟨r, hr⟩ : ∃ r, (!(vals ls n.data.toList).isEmpty) = r := ⟨_, rfl⟩
      have HR : Hid (r = !(vals ls n.data.toList).isEmpty) := hr.symm
      clear hn hw hx
      go_wp2_with fail
      refine (rget_at v ls n x r HX.out HR.out _ HFR.out HBK.out (by omega)).mono ?_
      rintro e w2 ⟨rfl, hb2⟩
      rw [HE.out] at hr
      have HB2 : Hid (Below w.heap.size w w2) := HW.out.trans (hb2.mono HW.out.size)
      clear hb2
      cases r
      · have HNX : Hid ((ns.take (k + 1)).any (fun n => !(vals ls n).isEmpty) = false) := by
          show _ = _
          rw [List.take_succ_eq_append_getElem hlt, List.any_append, HNO.out, List.any_cons, hr]; rfl
        clear hr
        go_wp2_with fail
        go_roundw
        case rel => exact ⟨k + 1, by omega, by go_num, HNX, HB2.out⟩
        case measure => simp [intOf]; omega
      · have HNX : Hid (ns.any (fun n => !(vals ls n).isEmpty) = true) := by
          show _ = _
          rw [List.any_eq_true]
          exact ⟨ns[k], List.getElem_mem hlt, hr⟩
        clear hr
        go_wp2_with fail
        go_ret
        exact ⟨ret_bool HNX.out.symm, HB2.out⟩
    · have HNX : Hid (ns.any (fun n => !(vals ls n).isEmpty) = false) := by
        have := HNO.out
        rw [List.take_of_length_le (by omega)] at this
        exact this
      go_wp2_with fail
      go_ret
      exact ⟨ret_bool HNX.out.symm, hw⟩
set_option maxHeartbeats 1000000 in
set_option maxRecDepth 100000 in
theorem rhasI_at (g : Nat) (xs : List Int) (n : Int) (w : World) (hgs : g < w.heap.size) (hl : xs.length ≤ 100) (hc : ∀ (k : Nat) (h : k < xs.length), w.cell? ⟨g, k, none⟩ = some (.int .i64 xs[k])) :
    Calls Tryz.prog 54 #[.slice (some ⟨g, 0, none⟩) xs.length xs.length, .int .i64 n] w fun e w' => e = .returned (.bool (xs.contains n)) ∧ w' = w := by
  have HC : Hid (∀ (k : Nat) (h : k < xs.length), w.cell? ⟨g, k, none⟩ = some (.int .i64 xs[k])) := hc
  clear hc
  go_enter Tryz.func54, Tryz.ntmps54
  go_wp2_with fail
  go_loopw [9] (fun i wr => ∃ k : Nat, k ≤ xs.length ∧ i = .int .i64 k ∧ Hid ((xs.take k).contains n = false) ∧ wr = w) (fun i _ => xs.length - (intOf i).toNat)
  case atStart => exact ⟨0, Nat.zero_le _, rfl, rfl, rfl⟩
  case round =>
    obtain ⟨k, hk, rfl, HNO, rfl⟩ := hrel
    by_cases hlt : k < xs.length
    · have c1 := HC.out k hlt
      obtain ⟨x, hx⟩ : ∃ x, xs[k] = x := ⟨_, rfl⟩
      rw [hx] at c1
      have hki : (k : Int) < (xs.length : Int) := by omega
      have hk0 : (0 : Int) ≤ (k : Int) := by omega
      have HX : Hid (xs[k] = x) := hx
      clear hx
      by_cases hq : n = x
      · have HR : Hid (xs.contains n = true) := by
          show _ = _
          rw [List.contains_iff_mem, hq, ← HX.out]
          exact List.getElem_mem hlt
        subst hq
        go_wp2_with fail
        go_ret
        exact ⟨ret_bool HR.out.symm, rfl⟩
      · have hnb : (n == x) = false := beq_eq_false_iff_ne.2 hq
        have HNX : Hid ((xs.take (k + 1)).contains n = false) := by
          have h := HNO.out
          show _ = _
          rw [List.take_succ_eq_append_getElem hlt]
          rw [Bool.eq_false_iff] at h ⊢
          intro h2
          rw [List.contains_iff_mem, List.mem_append] at h2
          rcases h2 with h2 | h2
          · exact h (List.contains_iff_mem.2 h2)
          · simp at h2
            rw [HX.out] at h2
            exact hq h2
        clear hq
        go_wp2_with fail
        go_roundw
        case rel => exact ⟨k + 1, by omega, by go_num, HNX, trivial⟩
        case measure => simp [intOf]; omega
    · have HR : Hid (xs.contains n = false) := by
        have := HNO.out
        rw [List.take_of_length_le (by omega)] at this
        exact this
      go_wp2_with fail
      go_ret
      exact ⟨ret_bool HR.out.symm, rfl⟩
set_option maxHeartbeats 1000000 in
set_option maxRecDepth 100000 in
theorem rstored_any (code : Int) (w : World) :
    Calls Tryz.prog 34 #[.int .i64 code] w fun e w' => e = .returned (.bool (storedP code)) ∧ Below w.heap.size w w' := by
  have HH : Hid (Calls Tryz.prog 54 #[.slice (some ⟨w.heap.size, 0, none⟩) 11 11, .int .i64 code] (w.alloc (.cells #[.int .i64 200, .int .i64 203, .int .i64 204, .int .i64 300, .int .i64 301, .int .i64 308, .int .i64 404, .int .i64 405, .int .i64 410, .int .i64 414, .int .i64 501] 3)) fun e w' => e = .returned (.bool (storedP code)) ∧ w' = (w.alloc (.cells #[.int .i64 200, .int .i64 203, .int .i64 204, .int .i64 300, .int .i64 301, .int .i64 308, .int .i64 404, .int .i64 405, .int .i64 410, .int .i64 414, .int .i64 501] 3))) := by
    refine rhasI_at w.heap.size [200, 203, 204, 300, 301, 308, 404, 405, 410, 414, 501] code _ (by simp) (by decide) (fun k hk => ?_)
    have : k = 0 ∨ k = 1 ∨ k = 2 ∨ k = 3 ∨ k = 4 ∨ k = 5 ∨ k = 6 ∨ k = 7 ∨ k = 8 ∨ k = 9 ∨ k = 10 := by simp at hk; omega
    rcases this with rfl | rfl | rfl | rfl | rfl | rfl | rfl | rfl | rfl | rfl | rfl <;> simp
  go_enter Tryz.func34, Tryz.ntmps34
  go_wp2_with fail
  refine HH.out.mono ?_
  rintro e w2 ⟨rfl, rfl⟩
  go_wp2_with fail
  go_ret
  exact ⟨rfl, (Below.refl _ w).alloc (Nat.le_refl _) _⟩
end Go.Proofs.YtigbjhkkbgdkcabGreatDoor

/-
  What made, Life and Age of the document's answers say of a stored response whose fields hold at most 2^20 letters and values.
-/
namespace Go.Proofs.YtigbjhkkbgdkcabGreatDoor
open Go.RowKit

theorem ctl_most (ls : List Fld) : MostD maxLen (ctl ls) := fun x hx => by
  have := ctQ_mem _ x hx
  unfold maxLen; omega
theorem dOf_in (D : DFn) (hD : DOk D) (ls : List Fld) (s : List UInt8) : 0 ≤ (D (gv ls s)).1 ∧ (D (gv ls s)).1 ≤ 253402300799 := by
  rcases hD (gv ls s) with ⟨_, h⟩ | ⟨_, h, _⟩
  · exact ⟨h.1, h.2.1⟩
  · rw [h]; omega
theorem made_in (D : DFn) (hD : DOk D) (ls : List Fld) (came : Int) : 0 ≤ madeP D ls came ∧ madeP D ls came ≤ 253402300799 := by
  have h1 := dOf_in D hD ls nDate
  unfold madeP dOf
  split
  · exact h1
  · unfold spn lastT; omega
set_option maxHeartbeats 1000000 in
set_option maxRecDepth 100000 in
theorem rmade_at (D : DFn) (hD : DOk D) (v0 v1 v2 v3 v4 v5 v7 v8 v10 fv : Value) (ls : List Fld) (came : Int) (w : World) (hf : Fl w fv ls) (hbk : bulkF ls ≤ 1048576) (hm : ∃ m, w.cell? ⟨2, 0, none⟩ = some (.int .i64 m)) :
    Calls Tryz.prog 33 #[.agg #[v0, v1, v2, v3, v4, v5, fv, v7, v8, .int .i64 came, v10]] w fun e w' => e = .returned (.int .i64 (madeP D ls came)) ∧ Below w.heap.size w w' := by
  obtain ⟨m, hm⟩ := hm
  have hb0 : Below w.heap.size w (w.alloc (.cells #[v0, v1, v2, v3, v4, v5, fv, v7, v8, .int .i64 came, v10] 28)) := (Below.refl _ w).alloc (Nat.le_refl _) _
  have HB0 : Hid (Below w.heap.size w (w.alloc (.cells #[v0, v1, v2, v3, v4, v5, fv, v7, v8, .int .i64 came, v10] 28))) := hb0
  have HM0 : Hid ((w.alloc (.cells #[v0, v1, v2, v3, v4, v5, fv, v7, v8, .int .i64 came, v10] 28)).cell? ⟨2, 0, none⟩ = some (.int .i64 m)) := cell_keep hb0 hm
  have HF0 : Hid (Fl (w.alloc (.cells #[v0, v1, v2, v3, v4, v5, fv, v7, v8, .int .i64 came, v10] 28)) fv ls) := hf.below hb0
  have HBK : Hid (bulkF ls ≤ 1048576) := hbk
  have HP : Hid (PR (jn (vals ls (⟨#[68, 97, 116, 101]⟩ : ByteArray).data.toList)) (D (gv ls nDate)).1 (D (gv ls nDate)).2) := hD (gv ls nDate)
  obtain ⟨b, hb⟩ : ∃ b, (dOf D ls nDate).2 = b := ⟨_, rfl⟩
  have HB : Hid (b = (!(vals ls (⟨#[68, 97, 116, 101]⟩ : ByteArray).data.toList).isEmpty && ((D (gv ls nDate)).2 == 0))) := hb.symm
  obtain ⟨n, hn⟩ : ∃ n, (D (gv ls nDate)).1 = n := ⟨_, rfl⟩
  have HMD : Hid (madeP D ls came = if b = true then n else spn came 253402300799) := by
    show _ = _
    unfold madeP
    rw [hb, ← hn]; rfl
  rw [hn] at HP
  obtain ⟨ad, cap, hv, hnc, hcm, hcx⟩ := id hf
  subst hv
  unfold maxLen at hcm
  clear hcx hf hbk hb0 hm hb hn
  cases b
  · go_enter Tryz.func33, Tryz.ntmps33
    go_wp2_with fail
    refine (rdateOf_at _ ls _ n _ HP.out _ HB.out _ HF0.out HBK.out (by decide) ⟨m, HM0.out⟩).mono ?_
    rintro e w1 ⟨rfl, hb1⟩
    obtain ⟨c0, c1, c2, c3, c4, c5, c6, c7, c8, c9, c10⟩ := eleven hb1
    have HB1 : Hid (Below w.heap.size w w1) := HB0.out.trans (hb1.mono HB0.out.size)
    clear hb1
    go_wp2_with fail
    refine (rspn_any came 253402300799 _).mono ?_
    rintro e w2 ⟨rfl, rfl⟩
    go_wp2_with fail
    go_ret
    exact ⟨by rw [HMD.out]; rfl, HB1.out⟩
  · go_enter Tryz.func33, Tryz.ntmps33
    go_wp2_with fail
    refine (rdateOf_at _ ls _ n _ HP.out _ HB.out _ HF0.out HBK.out (by decide) ⟨m, HM0.out⟩).mono ?_
    rintro e w1 ⟨rfl, hb1⟩
    have HB1 : Hid (Below w.heap.size w w1) := HB0.out.trans (hb1.mono HB0.out.size)
    clear hb1
    go_wp2_with fail
    go_ret
    exact ⟨by rw [HMD.out]; rfl, HB1.out⟩
set_option maxHeartbeats 8000000 in
set_option maxRecDepth 100000 in
theorem rlife_at (D : DFn) (hD : DOk D) (v0 v1 v2 v3 v5 v7 v8 v10 fv : Value) (ls : List Fld) (code came : Int) (w : World) (hf : Fl w fv ls) (hbk : bulkF ls ≤ 1048576) (hm : ∃ m, w.cell? ⟨2, 0, none⟩ = some (.int .i64 m)) :
    Calls Tryz.prog 10 #[.agg #[v0, v1, v2, v3, .int .i64 code, v5, fv, v7, v8, .int .i64 came, v10]] w fun e w' => e = .returned (.int .i64 (lifeP D ls code came)) ∧ Below w.heap.size w w' := by
  obtain ⟨m, hm⟩ := hm
  have hb0 : Below w.heap.size w (w.alloc (.cells #[v0, v1, v2, v3, .int .i64 code, v5, fv, v7, v8, .int .i64 came, v10] 28)) := (Below.refl _ w).alloc (Nat.le_refl _) _
  have HB0 : Hid (Below w.heap.size w (w.alloc (.cells #[v0, v1, v2, v3, .int .i64 code, v5, fv, v7, v8, .int .i64 came, v10] 28))) := hb0
  have HALL : Hid (∀ W : World, Below (w.alloc (.cells #[v0, v1, v2, v3, .int .i64 code, v5, fv, v7, v8, .int .i64 came, v10] 28)).heap.size (w.alloc (.cells #[v0, v1, v2, v3, .int .i64 code, v5, fv, v7, v8, .int .i64 came, v10] 28)) W →
      Cells11 W w.heap.size v0 v1 v2 v3 (.int .i64 code) v5 fv v7 v8 (.int .i64 came) v10 ∧ Below w.heap.size w W ∧ Fl W fv ls ∧ (∃ m, W.cell? ⟨2, 0, none⟩ = some (.int .i64 m))) := fun W h => by
    have hB := hb0.trans (h.mono hb0.size)
    exact ⟨eleven h, hB, hf.below hB, m, cell_keep hB hm⟩
  have HBK : Hid (bulkF ls ≤ 1048576) := hbk
  have HMO : Hid (MostD maxLen (ctl ls)) := ctl_most ls
  obtain ⟨n1, b1, e1⟩ : ∃ n b, secK (ctl ls) dSM = (n, b) := ⟨_, _, rfl⟩
  obtain ⟨n2, b2, e2⟩ : ∃ n b, secK (ctl ls) dMA = (n, b) := ⟨_, _, rfl⟩
  obtain ⟨x3, e3⟩ : ∃ b, (vals ls nExp).isEmpty = b := ⟨_, rfl⟩
  obtain ⟨n4, e4⟩ : ∃ n, (D (gv ls nExp)).1 = n := ⟨_, rfl⟩
  obtain ⟨b4, e4b⟩ : ∃ b, (dOf D ls nExp).2 = b := ⟨_, rfl⟩
  obtain ⟨n5, e5⟩ : ∃ n, (D (gv ls nLM)).1 = n := ⟨_, rfl⟩
  obtain ⟨b5, e5b⟩ : ∃ b, (dOf D ls nLM).2 = b := ⟨_, rfl⟩
  obtain ⟨md, emd⟩ : ∃ n, madeP D ls came = n := ⟨_, rfl⟩
  obtain ⟨st, est⟩ : ∃ b, storedP code = b := ⟨_, rfl⟩
  have hmi := made_in D hD ls came
  have h4i := dOf_in D hD ls nExp
  have h5i := dOf_in D hD ls nLM
  rw [emd] at hmi
  rw [e4] at h4i
  rw [e5] at h5i
  have HLF : Hid (lifeP D ls code came = if b1 = true then n1 else if b2 = true then n2 else if x3 = false then (if b4 = true then spn (n4 - md) 2147483648 else 0)
      else if b5 = true ∧ st = true ∧ n5 ≤ md then spn ((md - n5) / 10) 2147483648 else 0) := by
    have e4' : (dOf D ls nExp).1 = n4 := e4
    have e5' : (dOf D ls nLM).1 = n5 := e5
    show _ = _
    unfold lifeP top31
    simp only [e1, e2, e3, e4b, e5b, emd, est, e4', e5']
  have HS1 : Hid (secK (ctl ls) (⟨#[115, 45, 109, 97, 120, 97, 103, 101]⟩ : ByteArray).data.toList = (n1, b1)) := e1
  have HS2 : Hid (secK (ctl ls) (⟨#[109, 97, 120, 45, 97, 103, 101]⟩ : ByteArray).data.toList = (n2, b2)) := e2
  have HP4 : Hid (PR (jn (vals ls (⟨#[69, 120, 112, 105, 114, 101, 115]⟩ : ByteArray).data.toList)) n4 (D (gv ls nExp)).2) := by rw [← e4]; exact hD (gv ls nExp)
  have HP5 : Hid (PR (jn (vals ls (⟨#[76, 97, 115, 116, 45, 77, 111, 100, 105, 102, 105, 101, 100]⟩ : ByteArray).data.toList)) n5 (D (gv ls nLM)).2) := by rw [← e5]; exact hD (gv ls nLM)
  have HB4 : Hid (b4 = (!(vals ls (⟨#[69, 120, 112, 105, 114, 101, 115]⟩ : ByteArray).data.toList).isEmpty && ((D (gv ls nExp)).2 == 0))) := e4b.symm
  have HB5 : Hid (b5 = (!(vals ls (⟨#[76, 97, 115, 116, 45, 77, 111, 100, 105, 102, 105, 101, 100]⟩ : ByteArray).data.toList).isEmpty && ((D (gv ls nLM)).2 == 0))) := e5b.symm
  have HX3 : Hid (([(⟨#[69, 120, 112, 105, 114, 101, 115]⟩ : ByteArray).data.toList] : List (List UInt8)).any (fun n => !(vals ls n).isEmpty) = !x3) := by
    show _ = _
    rw [← e3, List.any_cons, List.any_nil, Bool.or_false]; rfl
  have HMD : Hid (∀ W : World, Fl W fv ls → (∃ m, W.cell? ⟨2, 0, none⟩ = some (.int .i64 m)) → Calls Tryz.prog 33 #[.agg #[v0, v1, v2, v3, .int .i64 code, v5, fv, v7, v8, .int .i64 came, v10]] W fun e w' => e = .returned (.int .i64 md) ∧ Below W.heap.size W w') := fun W hW hM => by
    rw [← emd]
    exact rmade_at D hD v0 v1 v2 v3 _ v5 v7 v8 v10 fv ls came W hW hbk hM
  have HST : Hid (∀ W : World, Calls Tryz.prog 34 #[.int .i64 code] W fun e w' => e = .returned (.bool st) ∧ Below W.heap.size W w') := fun W => by rw [← est]; exact rstored_any code W
  obtain ⟨ad, cap, hv, hnc, hcm, hcx⟩ := id hf
  subst hv
  unfold maxLen at hcm
  clear hcx hf hbk hb0 hm e1 e2 e3 e4 e4b e5 e5b emd est
  go_enter Tryz.func10, Tryz.ntmps10
  go_wp2_with fail
  obtain ⟨_, _, hF0, _⟩ := HALL.out _ (Below.refl _ _)
  refine (rctl_at _ ls _ hF0 HBK.out).mono ?_
  clear hF0
  rintro e w1 ⟨v1', rfl, hown1, hb1⟩
  have HB1 : Hid (Below (w.alloc (.cells #[v0, v1, v2, v3, .int .i64 code, v5, .slice ad ls.length cap, v7, v8, .int .i64 came, v10] 28)).heap.size (w.alloc (.cells #[v0, v1, v2, v3, .int .i64 code, v5, .slice ad ls.length cap, v7, v8, .int .i64 came, v10] 28)) w1) := hb1
  have HD1 : Hid (Dl w1 v1' (ctl ls)) := Dl.own hown1
  obtain ⟨ad1, cap1, hv1, hcm1, hnc1, _⟩ := own_form2 hown1
  subst hv1
  clear hb1 hown1
  go_wp2_with fail
  refine (rksec_at _ _ (ctl ls) n1 b1 HS1.out _ HD1.out HMO.out).mono ?_
  rintro e w2 ⟨rfl, hb2⟩
  have HB2 : Hid (Below (w.alloc (.cells #[v0, v1, v2, v3, .int .i64 code, v5, .slice ad ls.length cap, v7, v8, .int .i64 came, v10] 28)).heap.size (w.alloc (.cells #[v0, v1, v2, v3, .int .i64 code, v5, .slice ad ls.length cap, v7, v8, .int .i64 came, v10] 28)) w2) := HB1.out.trans (hb2.mono HB1.out.size)
  clear hb2
  cases b1
  rotate_left
  · obtain ⟨_, hBw, _, _⟩ := HALL.out _ HB2.out
    go_wp2_with fail
    go_ret
    exact ⟨by rw [HLF.out]; rfl, hBw⟩
  obtain ⟨_, _, hF2, _⟩ := HALL.out _ HB2.out
  go_wp2_with fail
  refine (rctl_at _ ls _ hF2 HBK.out).mono ?_
  clear hF2
  rintro e w3 ⟨v3', rfl, hown3, hb3⟩
  have HB3 : Hid (Below (w.alloc (.cells #[v0, v1, v2, v3, .int .i64 code, v5, .slice ad ls.length cap, v7, v8, .int .i64 came, v10] 28)).heap.size (w.alloc (.cells #[v0, v1, v2, v3, .int .i64 code, v5, .slice ad ls.length cap, v7, v8, .int .i64 came, v10] 28)) w3) := HB2.out.trans (hb3.mono HB2.out.size)
  have HD3 : Hid (Dl w3 v3' (ctl ls)) := Dl.own hown3
  obtain ⟨ad3, cap3, hv3, hcm3, hnc3, _⟩ := own_form2 hown3
  subst hv3
  clear hb3 hown3
  go_wp2_with fail
  refine (rksec_at _ _ (ctl ls) n2 b2 HS2.out _ HD3.out HMO.out).mono ?_
  rintro e w4 ⟨rfl, hb4⟩
  have HB4w : Hid (Below (w.alloc (.cells #[v0, v1, v2, v3, .int .i64 code, v5, .slice ad ls.length cap, v7, v8, .int .i64 came, v10] 28)).heap.size (w.alloc (.cells #[v0, v1, v2, v3, .int .i64 code, v5, .slice ad ls.length cap, v7, v8, .int .i64 came, v10] 28)) w4) := HB3.out.trans (hb4.mono HB3.out.size)
  clear hb4
  cases b2
  rotate_left
  · obtain ⟨_, hBw, _, _⟩ := HALL.out _ HB4w.out
    go_wp2_with fail
    go_ret
    exact ⟨by rw [HLF.out]; rfl, hBw⟩
  have HB5w : Hid (Below (w.alloc (.cells #[v0, v1, v2, v3, .int .i64 code, v5, .slice ad ls.length cap, v7, v8, .int .i64 came, v10] 28)).heap.size (w.alloc (.cells #[v0, v1, v2, v3, .int .i64 code, v5, .slice ad ls.length cap, v7, v8, .int .i64 came, v10] 28)) (w4.alloc (.cells #[.string ⟨#[69, 120, 112, 105, 114, 101, 115]⟩] 9))) := HB4w.out.alloc HB4w.out.size _
  obtain ⟨_, _, hF5, _⟩ := HALL.out _ HB5w.out
  go_wp2_with fail
  refine (ranyF_at _ _ ls _ _ hF5 HBK.out (sl_one w4 _ 9) (by decide)).mono ?_
  clear hF5
  rintro e w6 ⟨rfl, hb6⟩
  rw [HX3.out]
  have HB6 : Hid (Below (w.alloc (.cells #[v0, v1, v2, v3, .int .i64 code, v5, .slice ad ls.length cap, v7, v8, .int .i64 came, v10] 28)).heap.size (w.alloc (.cells #[v0, v1, v2, v3, .int .i64 code, v5, .slice ad ls.length cap, v7, v8, .int .i64 came, v10] 28)) w6) := HB5w.out.trans (hb6.mono HB5w.out.size)
  clear hb6 HB5w
  cases x3
  · obtain ⟨_, _, hF6, hM6⟩ := HALL.out _ HB6.out
    go_wp2_with fail
    refine (rdateOf_at _ ls _ n4 _ HP4.out _ HB4.out _ hF6 HBK.out (by decide) hM6).mono ?_
    clear hF6 hM6
    rintro e w7 ⟨rfl, hb7⟩
    have HB7 : Hid (Below (w.alloc (.cells #[v0, v1, v2, v3, .int .i64 code, v5, .slice ad ls.length cap, v7, v8, .int .i64 came, v10] 28)).heap.size (w.alloc (.cells #[v0, v1, v2, v3, .int .i64 code, v5, .slice ad ls.length cap, v7, v8, .int .i64 came, v10] 28)) w7) := HB6.out.trans (hb7.mono HB6.out.size)
    clear hb7
    obtain ⟨⟨c0, c1, c2, c3, c4, c5, c6, c7, c8, c9, c10⟩, hB7, hF7, hM7⟩ := HALL.out _ HB7.out
    have HF7 : Hid (Fl w7 (.slice ad ls.length cap) ls) := hF7
    have HM7 : Hid (∃ m, w7.cell? ⟨2, 0, none⟩ = some (.int .i64 m)) := hM7
    have HBW7 : Hid (Below w.heap.size w w7) := hB7
    clear hF7 hM7 hB7
    cases b4
    · go_wp2_with fail
      go_ret
      exact ⟨by rw [HLF.out]; rfl, HBW7.out⟩
    · go_wp2_with fail
      refine (HMD.out _ HF7.out HM7.out).mono ?_
      rintro e w8 ⟨rfl, hb8⟩
      have HB8 : Hid (Below w.heap.size w w8) := HBW7.out.trans (hb8.mono HBW7.out.size)
      clear hb8 c0 c1 c2 c3 c4 c5 c6 c7 c8 c9 c10
      go_wp2_with fail
      refine (rspn_any (n4 - md) 2147483648 _).mono ?_
      rintro e w9 ⟨rfl, rfl⟩
      go_wp2_with fail
      go_ret
      exact ⟨by rw [HLF.out]; rfl, HB8.out⟩
  · obtain ⟨_, _, hF6, hM6⟩ := HALL.out _ HB6.out
    go_wp2_with fail
    refine (rdateOf_at _ ls _ n5 _ HP5.out _ HB5.out _ hF6 HBK.out (by decide) hM6).mono ?_
    clear hF6 hM6
    rintro e w7 ⟨rfl, hb7⟩
    have HB7 : Hid (Below (w.alloc (.cells #[v0, v1, v2, v3, .int .i64 code, v5, .slice ad ls.length cap, v7, v8, .int .i64 came, v10] 28)).heap.size (w.alloc (.cells #[v0, v1, v2, v3, .int .i64 code, v5, .slice ad ls.length cap, v7, v8, .int .i64 came, v10] 28)) w7) := HB6.out.trans (hb7.mono HB6.out.size)
    clear hb7
    obtain ⟨⟨c0, c1, c2, c3, c4, c5, c6, c7, c8, c9, c10⟩, hB7, hF7, hM7⟩ := HALL.out _ HB7.out
    have HF7 : Hid (Fl w7 (.slice ad ls.length cap) ls) := hF7
    have HM7 : Hid (∃ m, w7.cell? ⟨2, 0, none⟩ = some (.int .i64 m)) := hM7
    have HBW7 : Hid (Below w.heap.size w w7) := hB7
    clear hF7 hM7 hB7
    cases b5
    · go_wp2_with fail
      go_ret
      exact ⟨by rw [HLF.out]; simp, HBW7.out⟩
    · go_wp2_with fail
      refine (HST.out _).mono ?_
      rintro e w8 ⟨rfl, hb8⟩
      have HB8 : Hid (Below (w.alloc (.cells #[v0, v1, v2, v3, .int .i64 code, v5, .slice ad ls.length cap, v7, v8, .int .i64 came, v10] 28)).heap.size (w.alloc (.cells #[v0, v1, v2, v3, .int .i64 code, v5, .slice ad ls.length cap, v7, v8, .int .i64 came, v10] 28)) w8) := HB7.out.trans (hb8.mono HB7.out.size)
      clear hb8 c0 c1 c2 c3 c4 c5 c6 c7 c8 c9 c10
      obtain ⟨⟨c0, c1, c2, c3, c4, c5, c6, c7, c8, c9, c10⟩, hB8, hF8, hM8⟩ := HALL.out _ HB8.out
      have HF8 : Hid (Fl w8 (.slice ad ls.length cap) ls) := hF8
      have HM8 : Hid (∃ m, w8.cell? ⟨2, 0, none⟩ = some (.int .i64 m)) := hM8
      have HBW8 : Hid (Below w.heap.size w w8) := hB8
      clear hF8 hM8 hB8
      cases st
      · go_wp2_with fail
        go_ret
        exact ⟨by rw [HLF.out]; simp, HBW8.out⟩
      · go_wp2_with fail
        refine (HMD.out _ HF8.out HM8.out).mono ?_
        rintro e w9 ⟨rfl, hb9⟩
        have HB9 : Hid (Below (w.alloc (.cells #[v0, v1, v2, v3, .int .i64 code, v5, .slice ad ls.length cap, v7, v8, .int .i64 came, v10] 28)).heap.size (w.alloc (.cells #[v0, v1, v2, v3, .int .i64 code, v5, .slice ad ls.length cap, v7, v8, .int .i64 came, v10] 28)) w9) := HB8.out.trans (hb9.mono HB8.out.size)
        clear hb9 c0 c1 c2 c3 c4 c5 c6 c7 c8 c9 c10
        obtain ⟨⟨c0, c1, c2, c3, c4, c5, c6, c7, c8, c9, c10⟩, hB9, hF9, hM9⟩ := HALL.out _ HB9.out
        have HF9 : Hid (Fl w9 (.slice ad ls.length cap) ls) := hF9
        have HM9 : Hid (∃ m, w9.cell? ⟨2, 0, none⟩ = some (.int .i64 m)) := hM9
        have HBW9 : Hid (Below w.heap.size w w9) := hB9
        clear hF9 hM9 hB9
        by_cases hle : md < n5
        · have hnl : ¬ n5 ≤ md := by omega
          have HZ : Hid (lifeP D ls code came = 0) := by show _ = _; rw [HLF.out]; simp [hnl]
          clear hnl
          go_wp2_with fail
          go_ret
          exact ⟨by rw [HZ.out]; rfl, HBW9.out⟩
        · have hnl : n5 ≤ md := by omega
          have HZ : Hid (lifeP D ls code came = spn ((md - n5) / 10) 2147483648) := by show _ = _; rw [HLF.out]; simp [hnl]
          clear hnl
          go_wp2_with fail
          refine (HMD.out _ HF9.out HM9.out).mono ?_
          rintro e w10 ⟨rfl, hb10⟩
          have HB10 : Hid (Below w.heap.size w w10) := HBW9.out.trans (hb10.mono HBW9.out.size)
          clear hb10 c0 c1 c2 c3 c4 c5 c6 c7 c8 c9 c10
          go_wp2_with fail
          refine (rspn_any ((md - n5) / 10) 2147483648 _).mono ?_
          rintro e w11 ⟨rfl, rfl⟩
          go_wp2_with fail
          go_ret
          exact ⟨by rw [HZ.out]; try rfl, HB10.out⟩
end Go.Proofs.YtigbjhkkbgdkcabGreatDoor

/-
  A region that draws its order, whose own operations only read and whose callees leave what lies below as it is: one walk, in a class of worlds; no program is named here.
-/
namespace Go.Proofs.YtigbjhkkbgdkcabGreatDoor
open Go.RowKit

theorem region_in {P : Program} {T : Type} (G : T → World) {id : Nat} {Q : Exit → Act → World → Prop} {a : Act} {w : World} {l : List Oper} (hm : P.follows .mixedOrders = true) (hB : Region.lexB .any l.toArray = true)
    (h0 : ∃ x, w.drew = G x) (h : wpQuiet P l.toArray (fun W => ∃ x, W = G x) (fun a' => ∀ W, (∃ x, W = G x) → Q .normal a' W) l a) : (Code.region id l.toArray true).wp P Q a w :=
  wp_region_quiet (C := fun W => ∃ x, W = G x) hm hB h0 (by simpa using h)
/-- The worlds that have all that this one has. -/
theorem below_class (w : World) : ∃ (T : Type) (G : T → World) (x0 : T), w = G x0 ∧ Hid (∀ x, Below (G x0).heap.size (G x0) (G x)) ∧ Hid (∀ x W, Below (G x).heap.size (G x) W → ∃ y, W = G y) ∧ Hid (∀ x, ∃ y, (G x).drew = G y) := by
  refine ⟨{W : World // Below w.heap.size w W}, Subtype.val, ⟨w, Below.refl _ _⟩, rfl, fun x => x.2, fun x W h => ⟨⟨W, x.2.trans (h.mono x.2.size)⟩, rfl⟩, fun x => ⟨⟨x.1.drew, x.2.drew⟩, rfl⟩⟩
end Go.Proofs.YtigbjhkkbgdkcabGreatDoor

/-
  The walk through FreshLives: it answers true and turns nothing that was there. The lists hold at most 2^20 letters and values, and the listed variables hold what their text lays.
-/
namespace Go.Proofs.YtigbjhkkbgdkcabGreatDoor
open Go.RowKit

set_option maxHeartbeats 8000000 in
set_option maxRecDepth 100000 in
theorem walkFreshLives (v0 v1 v2 v3 v5 v7 v10 fv : Value) (l0 : List Fld) (c o m : Int) (w : World) (z0 : Fl w fv l0) (b0 : bulkF l0 ≤ 1048576) (hm : ∃ m, w.cell? ⟨2, 0, none⟩ = some (.int .i64 m)) (ht : DTabs w) :
    Calls Tryz.prog 3 #[.agg #[v0, v1, v2, v3, .int .i64 c, v5, fv, v7, .int .i64 o, .int .i64 m, v10]] w fun e w' => e = .returned (.bool true) ∧ Below w.heap.size w w' := by
  obtain ⟨D, hD⟩ := dfn_ex
  obtain ⟨mm, hm⟩ := hm
  have hb0 : Below w.heap.size w (w.alloc (.cells #[v0, v1, v2, v3, .int .i64 c, v5, fv, v7, .int .i64 o, .int .i64 m, v10] 28)) := (Below.refl _ w).alloc (Nat.le_refl _) _
  have HALL : Hid (∀ W : World, Below (w.alloc (.cells #[v0, v1, v2, v3, .int .i64 c, v5, fv, v7, .int .i64 o, .int .i64 m, v10] 28)).heap.size (w.alloc (.cells #[v0, v1, v2, v3, .int .i64 c, v5, fv, v7, .int .i64 o, .int .i64 m, v10] 28)) W →
      Cells11 W w.heap.size v0 v1 v2 v3 (.int .i64 c) v5 fv v7 (.int .i64 o) (.int .i64 m) v10 ∧ Below w.heap.size w W ∧ Fl W fv l0 ∧ DTabs W ∧ (∃ m, W.cell? ⟨2, 0, none⟩ = some (.int .i64 m))) := fun W h => by
    have hB := hb0.trans (h.mono hb0.size)
    exact ⟨eleven h, hB, z0.below hB, ht.below hB, ⟨mm, cell_keep hB hm⟩⟩
  obtain ⟨life, elf⟩ : ∃ n, lifeP D l0 c m = n := ⟨_, rfl⟩
  have HLF : Hid (∀ W : World, Fl W fv l0 → DTabs W → Calls Tryz.prog 9 #[.agg #[v0, v1, v2, v3, .int .i64 c, v5, fv, v7, .int .i64 o, .int .i64 m, v10]] W fun e w' => e = .returned (.int .i64 life) ∧ Below W.heap.size W w') := fun W hW hM => by
    rw [← elf]
    exact flife_at D hD v0 v1 v2 v3 v5 v7 _ v10 fv l0 c m W hW (Nat.le_trans b0 (by decide)) hM
  have HRF : Hid (∀ W : World, Fl W fv l0 → (∃ m, W.cell? ⟨2, 0, none⟩ = some (.int .i64 m)) → Calls Tryz.prog 10 #[.agg #[v0, v1, v2, v3, .int .i64 c, v5, fv, v7, .int .i64 o, .int .i64 m, v10]] W fun e w' => e = .returned (.int .i64 life) ∧ Below W.heap.size W w') := fun W hW hM => by
    rw [← elf]
    exact rlife_at D hD v0 v1 v2 v3 v5 v7 _ v10 fv l0 c m W hW b0 hM
  obtain ⟨ad, cap, hv, hnc, hcm, hcx⟩ := id z0
  subst hv
  unfold maxLen at hcm
  clear hcx z0 b0 hb0 hm ht elf
  obtain ⟨T, G, x0, hx0, HG1, HG2, HG3⟩ := below_class (w.alloc (.cells #[v0, v1, v2, v3, .int .i64 c, v5, .slice ad l0.length cap, v7, .int .i64 o, .int .i64 m, v10] 28))
  haveI : Nonempty T := ⟨x0⟩
  have HBG : Hid (∀ x, Below (w.alloc (.cells #[v0, v1, v2, v3, .int .i64 c, v5, .slice ad l0.length cap, v7, .int .i64 o, .int .i64 m, v10] 28)).heap.size (w.alloc (.cells #[v0, v1, v2, v3, .int .i64 c, v5, .slice ad l0.length cap, v7, .int .i64 o, .int .i64 m, v10] 28)) (G x)) := fun x => by rw [hx0]; exact HG1.out x
  have hall := fun x => (HALL.out _ (HBG.out x)).1
  have hc0 : ∀ x, (G x).cell? ⟨w.heap.size, 0, none⟩ = some v0 := fun x => (hall x).1
  have hc1 : ∀ x, (G x).cell? ⟨w.heap.size, 1, none⟩ = some v1 := fun x => (hall x).2.1
  have hc2 : ∀ x, (G x).cell? ⟨w.heap.size, 2, none⟩ = some v2 := fun x => (hall x).2.2.1
  have hc3 : ∀ x, (G x).cell? ⟨w.heap.size, 3, none⟩ = some v3 := fun x => (hall x).2.2.2.1
  have hc4 : ∀ x, (G x).cell? ⟨w.heap.size, 4, none⟩ = some (.int .i64 c) := fun x => (hall x).2.2.2.2.1
  have hc5 : ∀ x, (G x).cell? ⟨w.heap.size, 5, none⟩ = some v5 := fun x => (hall x).2.2.2.2.2.1
  have hc6 : ∀ x, (G x).cell? ⟨w.heap.size, 6, none⟩ = some (.slice ad l0.length cap) := fun x => (hall x).2.2.2.2.2.2.1
  have hc7 : ∀ x, (G x).cell? ⟨w.heap.size, 7, none⟩ = some v7 := fun x => (hall x).2.2.2.2.2.2.2.1
  have hc8 : ∀ x, (G x).cell? ⟨w.heap.size, 8, none⟩ = some (.int .i64 o) := fun x => (hall x).2.2.2.2.2.2.2.2.1
  have hc9 : ∀ x, (G x).cell? ⟨w.heap.size, 9, none⟩ = some (.int .i64 m) := fun x => (hall x).2.2.2.2.2.2.2.2.2.1
  have hc10 : ∀ x, (G x).cell? ⟨w.heap.size, 10, none⟩ = some v10 := fun x => (hall x).2.2.2.2.2.2.2.2.2.2
  clear hall
  have HX1 : Hid (∀ x, Calls Tryz.prog 9 #[.agg #[v0, v1, v2, v3, .int .i64 c, v5, .slice ad l0.length cap, v7, .int .i64 o, .int .i64 m, v10]] (G x) fun e w' => e = .returned (.int .i64 life) ∧ ∃ y, w' = G y) := fun x => (HLF.out _ (HALL.out _ (HBG.out x)).2.2.1 (HALL.out _ (HBG.out x)).2.2.2.1).mono fun e W h => ⟨h.1, HG2.out _ W h.2⟩
  have HX2 : Hid (∀ x, Calls Tryz.prog 10 #[.agg #[v0, v1, v2, v3, .int .i64 c, v5, .slice ad l0.length cap, v7, .int .i64 o, .int .i64 m, v10]] (G x) fun e w' => e = .returned (.int .i64 life) ∧ ∃ y, w' = G y) := fun x => (HRF.out _ (HALL.out _ (HBG.out x)).2.2.1 (HALL.out _ (HBG.out x)).2.2.2.2).mono fun e W h => ⟨h.1, HG2.out _ W h.2⟩
  go_enter Tryz.func3, Tryz.ntmps3
  go_wp2_with fail
  try rw [hx0]
  refine region_in G (by kernel_rfl) (by kernel_rfl) (HG3.out _) ?_
  repeat (go_big_quiet_step (first
    | (go_at_call 9; with_reducible exact HX1.out _)
    | (go_at_call 10; with_reducible exact HX2.out _)))
  refine wpQuiet_nil ?_
  rintro _ ⟨x1, rfl⟩
  go_wp2_with fail
  go_ret
  exact ⟨by first | rfl | simp, (HALL.out _ (HBG.out x1)).2.1⟩
end Go.Proofs.YtigbjhkkbgdkcabGreatDoor

/-
  A list of fields that came in, opened as a plain list of names and values; no program is named here.
-/
namespace Go.Proofs.YtigbjhkkbgdkcabGreatDoor
open Go.RowKit Go.ChangeShapes Go.WideShapes Go.Deep

def bytesOfV : Value → List UInt8
  | .string s => s.data.toList
  | _ => []
theorem add_form (b off n : Nat) : (⟨b, off, none⟩ : Addr).add n = ⟨b, off + n, none⟩ := by
  by_cases h0 : n = 0
  · subst h0; simp [Addr.add]
  · simp [Addr.add, h0]
def fl1 {H : Type} (y : Fld) : DataW H := .agg [.lit (.string y.1), .lit (.string y.2)]

theorem open_fl {H : Type} {enc : TypeId × Value → H} {P : Program} {w : World} {base : Nat} {spare : Nat → Bool} {held : Bool} {t e : TypeId} {f0 f1 : Field} {fuel : Nat} {v : Value} {x : DataW H × List MemPlace}
    (ht : P.underlying t = some (.slice e)) (he : P.underlying e = some (.struct #[f0, f1])) (ce : P.cellsOf e = 2) (o0 : f0.offset = 0) (o1 : f1.offset = 1) (c0 : P.cellsOf f0.type = 1) (c1 : P.cellsOf f1.type = 1)
    (s0 : P.underlying f0.type = some .string) (s1 : P.underlying f1.type = some .string) (h : DataW.trod enc P w base spare held fuel t [v] = some x) :
    ∃ (ls : List Fld) (sp : List (DataW H)), Fl w v ls ∧ Most maxLen ls ∧ (x.1 = .nil ∧ ls = [] ∨ x.1 = .slice (ls.map fl1) sp) := by
  rcases open_slice_pairs ht he ce o0 o1 c0 c1 h with ⟨hcs, hx⟩ | ⟨a, len, cap, m, n, V0, V1, D0, D1, P0, P1, hcs, _, hl, hm, hmm, hx, hi⟩
  · simp only [List.cons.injEq, and_true] at hcs
    subst hcs
    have hM : Most maxLen [] := fun y hy => by cases hy
    exact ⟨[], [], Fl.nil w, hM, Or.inl ⟨by rw [hx], rfl⟩⟩
  · simp only [List.cons.injEq, and_true] at hcs
    subst hcs
    have hlm : len ≤ m := by rw [hmm]; split <;> omega
    have each : ∀ i, i < len → V0 i = .string ⟨(bytesOfV (V0 i)).toArray⟩ ∧ V1 i = .string ⟨(bytesOfV (V1 i)).toArray⟩ ∧ D0 i = .lit (.string (bytesOfV (V0 i))) ∧ D1 i = .lit (.string (bytesOfV (V1 i))) ∧ (bytesOfV (V0 i)).length ≤ maxLen ∧ (bytesOfV (V1 i)).length ≤ maxLen := by
      intro i hil
      obtain ⟨_, _, t0, t1⟩ := hi i (by omega)
      obtain ⟨a0, ha0, hd0, hz0⟩ := DataW.trod_string s0 t0
      obtain ⟨a1, ha1, hd1, hz1⟩ := DataW.trod_string s1 t1
      simp only [List.cons.injEq, and_true] at ha0 ha1
      simp only [Prod.mk.injEq] at hd0 hd1
      rw [ha0, ha1, hd0.1, hd1.1]
      refine ⟨rfl, rfl, rfl, rfl, ?_, ?_⟩
      · show a0.data.toList.length ≤ maxLen; rw [size_list]; exact hz0
      · show a1.data.toList.length ≤ maxLen; rw [size_list]; exact hz1
    refine ⟨(List.range len).map fun i => (bytesOfV (V0 i), bytesOfV (V1 i)), (List.range (m - len)).map fun j => .agg [D0 (len + j), D1 (len + j)], ⟨some a, cap, by simp, by simpa using hl, hm, fun h0 => ?_⟩, ?_, .inr ?_⟩
    rotate_left
    · intro y hy
      obtain ⟨i, hir, rfl⟩ := List.mem_map.1 hy
      obtain ⟨_, _, _, _, h5, h6⟩ := each i (List.mem_range.1 hir)
      exact ⟨h5, h6⟩
    · rw [hx]
      show DataW.slice _ _ = DataW.slice _ _
      congr 1
      rw [List.map_map]
      refine List.map_congr_left fun i hir => ?_
      obtain ⟨_, _, h3, h4, _⟩ := each i (List.mem_range.1 hir)
      show DataW.agg [D0 i, D1 i] = DataW.agg _
      rw [h3, h4]
    · simp only [List.length_map, List.length_range] at h0 ⊢
      obtain ⟨b, off, spot⟩ := a
      have hc0 := (hi 0 (by omega)).1
      have hspot : spot = none := by simpa [Addr.add] using World.cell?_spot hc0
      subst hspot
      refine ⟨b, off, rfl, ?_, fun k hk => ?_⟩
      · rw [add_form] at hc0
        exact cell_in hc0
      · obtain ⟨q0, q1, _⟩ := hi k (by omega)
        obtain ⟨h1, h2, _⟩ := each k hk
        rw [add_form] at q0 q1
        rw [List.getElem_map, List.getElem_range]
        refine ⟨?_, ?_⟩
        · rw [q0, h1]; rfl
        · rw [Nat.add_assoc, q1, h2]; rfl
end Go.Proofs.YtigbjhkkbgdkcabGreatDoor

/-
  A stored response that came in, by value: a request, a response and three numbers, opened as eleven values; no program is named here.
-/
namespace Go.Proofs.YtigbjhkkbgdkcabGreatDoor
open Go.RowKit Go.ChangeShapes Go.WideShapes Go.Deep

theorem trod_struct5 {H : Type} {enc : TypeId × Value → H} {P : Program} {w : World} {base : Nat} {spare : Nat → Bool} {held : Bool} {t : TypeId} {f0 f1 f2 f3 f4 : Field} {fuel : Nat} {cs : List Value} {x : DataW H × List MemPlace} (ht : P.underlying t = some (.struct #[f0, f1, f2, f3, f4])) (h : DataW.trod enc P w base spare held fuel t cs = some x) :
    ∃ y0 y1 y2 y3 y4 n, x.1 = .agg [y0.1, y1.1, y2.1, y3.1, y4.1] ∧ cs.length = P.cellsOf t ∧ DataW.trod enc P w base spare held n f0.type ((cs.drop f0.offset).take (P.cellsOf f0.type)) = some y0 ∧
      DataW.trod enc P w base spare held n f1.type ((cs.drop f1.offset).take (P.cellsOf f1.type)) = some y1 ∧ DataW.trod enc P w base spare held n f2.type ((cs.drop f2.offset).take (P.cellsOf f2.type)) = some y2 ∧
      DataW.trod enc P w base spare held n f3.type ((cs.drop f3.offset).take (P.cellsOf f3.type)) = some y3 ∧ DataW.trod enc P w base spare held n f4.type ((cs.drop f4.offset).take (P.cellsOf f4.type)) = some y4 := by
  obtain ⟨xs, n, _, rfl, hl, hlen, hf⟩ := DataW.trod_struct ht h
  match xs, hlen with
  | [y0, y1, y2, y3, y4], _ => exact ⟨y0, y1, y2, y3, y4, n, by simp, hl, by simpa using hf 0 f0 rfl, by simpa using hf 1 f1 rfl, by simpa using hf 2 f2 rfl, by simpa using hf 3 f3 rfl, by simpa using hf 4 f4 rfl⟩
theorem array11 {α : Type} {cs : Array α} (h : cs.size = 11) : ∃ c0 c1 c2 c3 c4 c5 c6 c7 c8 c9 c10, cs = #[c0, c1, c2, c3, c4, c5, c6, c7, c8, c9, c10] := by
  obtain ⟨l⟩ := cs
  match l, h with
  | [c0, c1, c2, c3, c4, c5, c6, c7, c8, c9, c10], _ => exact ⟨c0, c1, c2, c3, c4, c5, c6, c7, c8, c9, c10, rfl⟩
theorem open_held {H : Type} {enc : TypeId × Value → H} {P : Program} {w : World} {base : Nat} {spare : Nat → Bool} {held : Bool} {r : Reach} {b0 : Nat} {t : TypeId} {f0 f1 f2 f3 f4 g0 g1 g2 g3 h0 h1 h2 h3 : Field} {v : Value} {d : DataW H} {p : List MemPlace}
    (hs : P.underlying t = some (.struct #[f0, f1, f2, f3, f4])) (hq : P.underlying f0.type = some (.struct #[g0, g1, g2, g3])) (hp : P.underlying f1.type = some (.struct #[h0, h1, h2, h3]))
    (oneq : oneCellFields P #[g0, g1, g2, g3] = true) (onep : oneCellFields P #[h0, h1, h2, h3] = true) (hC : P.cellsOf t = 11) (C0 : P.cellsOf f0.type = 4) (C1 : P.cellsOf f1.type = 4) (C2 : P.cellsOf f2.type = 1) (C3 : P.cellsOf f3.type = 1) (C4 : P.cellsOf f4.type = 1)
    (o0 : f0.offset = 0) (o1 : f1.offset = 4) (o2 : f2.offset = 8) (o3 : f3.offset = 9) (o4 : f4.offset = 10) (hv : Value.okWide P w r b0 t v) (h : DataW.Trod enc P w base spare held t v d p) :
    ∃ (v0 v1 v2 v3 v4 v5 v6 v7 v8 v9 v10 : Value) (y0 y1 y2 y3 y4 y5 y6 y7 y8 y9 y10 : DataW H × List MemPlace) (n m : Nat), v = .agg #[v0, v1, v2, v3, v4, v5, v6, v7, v8, v9, v10] ∧
      d = .agg [.agg [y0.1, y1.1, y2.1, y3.1], .agg [y4.1, y5.1, y6.1, y7.1], y8.1, y9.1, y10.1] ∧
      (DataW.trod enc P w base spare held n g0.type [v0] = some y0 ∧ DataW.trod enc P w base spare held n g1.type [v1] = some y1 ∧ DataW.trod enc P w base spare held n g2.type [v2] = some y2 ∧ DataW.trod enc P w base spare held n g3.type [v3] = some y3) ∧
      (DataW.trod enc P w base spare held m h0.type [v4] = some y4 ∧ DataW.trod enc P w base spare held m h1.type [v5] = some y5 ∧ DataW.trod enc P w base spare held m h2.type [v6] = some y6 ∧ DataW.trod enc P w base spare held m h3.type [v7] = some y7) ∧
      (∃ k, DataW.trod enc P w base spare held k f2.type [v8] = some y8 ∧ DataW.trod enc P w base spare held k f3.type [v9] = some y9 ∧ DataW.trod enc P w base spare held k f4.type [v10] = some y10) := by
  obtain ⟨cs, rfl, hsz⟩ := okWide_struct hs hv
  obtain ⟨v0, v1, v2, v3, v4, v5, v6, v7, v8, v9, v10, rfl⟩ := array11 (hsz.trans hC)
  obtain ⟨fuel, hf⟩ := h
  obtain ⟨a0, a1, y8, y9, y10, k, hx, _, t0, t1, t2, t3, t4⟩ := trod_struct5 hs hf
  simp only [Value.cells, o0, o1, o2, o3, o4, C0, C1, C2, C3, C4] at t0 t1 t2 t3 t4
  obtain ⟨y0, y1, y2, y3, n, hy, _, q0, q1, q2, q3⟩ := Go.Joins.trod_struct4 hq t0
  obtain ⟨y4, y5, y6, y7, m, hz, _, p0, p1, p2, p3⟩ := Go.Joins.trod_struct4 hp t1
  obtain ⟨oq0, kq0⟩ := hone_of oneq 0 g0 rfl
  obtain ⟨oq1, kq1⟩ := hone_of oneq 1 g1 rfl
  obtain ⟨oq2, kq2⟩ := hone_of oneq 2 g2 rfl
  obtain ⟨oq3, kq3⟩ := hone_of oneq 3 g3 rfl
  obtain ⟨op0, kp0⟩ := hone_of onep 0 h0 rfl
  obtain ⟨op1, kp1⟩ := hone_of onep 1 h1 rfl
  obtain ⟨op2, kp2⟩ := hone_of onep 2 h2 rfl
  obtain ⟨op3, kp3⟩ := hone_of onep 3 h3 rfl
  refine ⟨v0, v1, v2, v3, v4, v5, v6, v7, v8, v9, v10, y0, y1, y2, y3, y4, y5, y6, y7, y8, y9, y10, n, m, rfl, ?_, ⟨by simpa [oq0, kq0] using q0, by simpa [oq1, kq1] using q1, by simpa [oq2, kq2] using q2, by simpa [oq3, kq3] using q3⟩,
    ⟨by simpa [op0, kp0] using p0, by simpa [op1, kp1] using p1, by simpa [op2, kp2] using p2, by simpa [op3, kp3] using p3⟩, k, by simpa using t2, by simpa using t3, by simpa using t4⟩
  have hd : d = _ := hx
  rw [hd, hy, hz]
end Go.Proofs.YtigbjhkkbgdkcabGreatDoor

/-
  What Age of the document's answers says of a stored response whose fields hold at most 2^20 letters and values.
-/
namespace Go.Proofs.YtigbjhkkbgdkcabGreatDoor
open Go.RowKit

set_option maxHeartbeats 4000000 in
set_option maxRecDepth 100000 in
theorem rage_at (D : DFn) (hD : DOk D) (v0 v1 v2 v3 v4 v5 v7 v10 fv : Value) (ls : List Fld) (asked came now : Int) (w : World) (hf : Fl w fv ls) (hbk : bulkF ls ≤ 1048576) (hm : ∃ m, w.cell? ⟨2, 0, none⟩ = some (.int .i64 m)) :
    Calls Tryz.prog 12 #[.agg #[v0, v1, v2, v3, v4, v5, fv, v7, .int .i64 asked, .int .i64 came, v10], .int .i64 now] w fun e w' => e = .returned (.int .i64 (ageP D ls asked came now)) ∧ Below w.heap.size w w' := by
  obtain ⟨m, hm⟩ := hm
  have hb0 : Below w.heap.size w (w.alloc (.cells #[v0, v1, v2, v3, v4, v5, fv, v7, .int .i64 asked, .int .i64 came, v10] 28)) := (Below.refl _ w).alloc (Nat.le_refl _) _
  have HALL : Hid (∀ W : World, Below (w.alloc (.cells #[v0, v1, v2, v3, v4, v5, fv, v7, .int .i64 asked, .int .i64 came, v10] 28)).heap.size (w.alloc (.cells #[v0, v1, v2, v3, v4, v5, fv, v7, .int .i64 asked, .int .i64 came, v10] 28)) W →
      Cells11 W w.heap.size v0 v1 v2 v3 v4 v5 fv v7 (.int .i64 asked) (.int .i64 came) v10 ∧ Below w.heap.size w W ∧ Fl W fv ls ∧ (∃ m, W.cell? ⟨2, 0, none⟩ = some (.int .i64 m))) := fun W h => by
    have hB := hb0.trans (h.mono hb0.size)
    exact ⟨eleven h, hB, hf.below hB, m, cell_keep hB hm⟩
  have HBK : Hid (bulkF ls ≤ 1048576) := hbk
  obtain ⟨md, emd⟩ : ∃ n, madeP D ls came = n := ⟨_, rfl⟩
  obtain ⟨sa, esa⟩ : ∃ n, spn asked 253402300799 = n := ⟨_, rfl⟩
  obtain ⟨sc, esc⟩ : ∃ n, spn came 253402300799 = n := ⟨_, rfl⟩
  obtain ⟨sn, esn⟩ : ∃ n, spn now 253402300799 = n := ⟨_, rfl⟩
  obtain ⟨x, hx⟩ : ∃ x : ByteArray, x.data.toList = jn (vals ls (⟨#[65, 103, 101]⟩ : ByteArray).data.toList) := ⟨⟨(jn (vals ls nAge)).toArray⟩, rfl⟩
  obtain ⟨nk, enk⟩ : ∃ n, numK x.data.toList = n := ⟨_, rfl⟩
  have hmi := made_in D hD ls came
  rw [emd] at hmi
  have hia := spn_in asked 253402300799 (by omega)
  have hic := spn_in came 253402300799 (by omega)
  have hin := spn_in now 253402300799 (by omega)
  have hik := numK_in x.data.toList
  rw [esa] at hia
  rw [esc] at hic
  rw [esn] at hin
  rw [enk] at hik
  have HAG : Hid (ageP D ls asked came now = spn (max (sc - md) (max (nk + max 0 (sc - sa)) 0) + max 0 (sn - sc)) 2147483648) := by
    show _ = _
    unfold ageP grown lastT top31 gv
    rw [emd, esa, esc, esn]
    have hk : numK (jn (vals ls nAge)) = nk := by rw [← enk, hx]; rfl
    rw [hk]
    congr 1
    omega
  have HXS : Hid (x.size ≤ maxLen) := by
    show _ ≤ _
    have h := jn_bulk ls (⟨#[65, 103, 101]⟩ : ByteArray).data.toList
    rw [← hx, size_list] at h
    unfold maxLen; omega
  have HX : Hid (x.data.toList = jn (vals ls (⟨#[65, 103, 101]⟩ : ByteArray).data.toList)) := hx
  have HNK : Hid (numK x.data.toList = nk) := enk
  have HMD : Hid (∀ W : World, Fl W fv ls → (∃ m, W.cell? ⟨2, 0, none⟩ = some (.int .i64 m)) → Calls Tryz.prog 33 #[.agg #[v0, v1, v2, v3, v4, v5, fv, v7, .int .i64 asked, .int .i64 came, v10]] W fun e w' => e = .returned (.int .i64 md) ∧ Below W.heap.size W w') := fun W hW hM => by
    rw [← emd]
    exact rmade_at D hD v0 v1 v2 v3 v4 v5 v7 _ v10 fv ls came W hW hbk hM
  have HSA : Hid (∀ W : World, Calls Tryz.prog 32 #[.int .i64 asked, .int .i64 253402300799] W fun e w' => e = .returned (.int .i64 sa) ∧ w' = W) := fun W => by rw [← esa]; exact rspn_any asked 253402300799 W
  have HSC : Hid (∀ W : World, Calls Tryz.prog 32 #[.int .i64 came, .int .i64 253402300799] W fun e w' => e = .returned (.int .i64 sc) ∧ w' = W) := fun W => by rw [← esc]; exact rspn_any came 253402300799 W
  have HSN : Hid (∀ W : World, Calls Tryz.prog 32 #[.int .i64 now, .int .i64 253402300799] W fun e w' => e = .returned (.int .i64 sn) ∧ w' = W) := fun W => by rw [← esn]; exact rspn_any now 253402300799 W
  obtain ⟨ad, cap, hv, hnc, hcm, hcx⟩ := id hf
  subst hv
  unfold maxLen at hcm
  clear hcx hf hbk hb0 hm emd esa esc esn enk hx
  go_enter Tryz.func12, Tryz.ntmps12
  go_wp2_with fail
  go_quiet (first | (go_at_call 32; with_reducible first | exact Calls.quiet_of_same (HSA.out _) | exact Calls.quiet_of_same (HSC.out _) | exact Calls.quiet_of_same (HSN.out _)))
  have HB1 : Hid (∀ j, Below (w.alloc (.cells #[v0, v1, v2, v3, v4, v5, .slice ad ls.length cap, v7, .int .i64 asked, .int .i64 came, v10] 28)).heap.size (w.alloc (.cells #[v0, v1, v2, v3, v4, v5, .slice ad ls.length cap, v7, .int .i64 asked, .int .i64 came, v10] 28)) ((w.alloc (.cells #[v0, v1, v2, v3, v4, v5, .slice ad ls.length cap, v7, .int .i64 asked, .int .i64 came, v10] 28)).drewN j)) := fun j => drewN_below _ _ j
  go_wp2_with fail
  refine (rget_at _ ls _ x _ HX.out rfl _ (HALL.out _ (HB1.out _)).2.2.1 HBK.out (by decide)).mono ?_
  rintro e w2 ⟨rfl, hb2⟩
  have HB2 : Hid (Below (w.alloc (.cells #[v0, v1, v2, v3, v4, v5, .slice ad ls.length cap, v7, .int .i64 asked, .int .i64 came, v10] 28)).heap.size (w.alloc (.cells #[v0, v1, v2, v3, v4, v5, .slice ad ls.length cap, v7, .int .i64 asked, .int .i64 came, v10] 28)) w2) := (HB1.out _).trans (hb2.mono (HB1.out _).size)
  clear hb2
  obtain ⟨⟨c0, c1, c2, c3, c4, c5, c6, c7, c8, c9, c10⟩, hB2, hF2, hM2⟩ := HALL.out _ HB2.out
  have HF2 : Hid (Fl w2 (.slice ad ls.length cap) ls) := hF2
  have HM2 : Hid (∃ m, w2.cell? ⟨2, 0, none⟩ = some (.int .i64 m)) := hM2
  have HBW2 : Hid (Below w.heap.size w w2) := hB2
  clear hF2 hM2 hB2
  go_wp2_with fail
  refine (HMD.out _ HF2.out HM2.out).mono ?_
  rintro e w3 ⟨rfl, hb3⟩
  have HB3 : Hid (Below w.heap.size w w3) := HBW2.out.trans (hb3.mono HBW2.out.size)
  clear hb3 c0 c1 c2 c3 c4 c5 c6 c7 c8 c9 c10
  go_wp2_with fail
  refine (rsecs_at x _ HXS.out).mono ?_
  rintro e w4 ⟨rfl, rfl⟩
  rw [HNK.out]
  go_wp2_with fail
  refine (rspn_any (max (sc - md) (max (nk + max 0 (sc - sa)) 0) + max 0 (sn - sc)) 2147483648 _).mono ?_
  rintro e w5 ⟨rfl, rfl⟩
  go_wp2_with fail
  go_ret
  exact ⟨by rw [HAG.out]; try rfl, HB3.out⟩
end Go.Proofs.YtigbjhkkbgdkcabGreatDoor

/-
  The walk through FreshAges: it answers true and turns nothing that was there. The lists hold at most 2^20 letters and values, and the listed variables hold what their text lays.
-/
namespace Go.Proofs.YtigbjhkkbgdkcabGreatDoor
open Go.RowKit

set_option maxHeartbeats 8000000 in
set_option maxRecDepth 100000 in
theorem walkFreshAges (v0 v1 v2 v3 v5 v7 v10 fv : Value) (l0 : List Fld) (c o m : Int) (a1 : Int) (w : World) (z0 : Fl w fv l0) (b0 : bulkF l0 ≤ 1048576) (_z1 : (Lit.int .i64 a1).wf = true) (hm : ∃ m, w.cell? ⟨2, 0, none⟩ = some (.int .i64 m)) (ht : DTabs w) :
    Calls Tryz.prog 4 #[.agg #[v0, v1, v2, v3, .int .i64 c, v5, fv, v7, .int .i64 o, .int .i64 m, v10], .int .i64 a1] w fun e w' => e = .returned (.bool true) ∧ Below w.heap.size w w' := by
  obtain ⟨D, hD⟩ := dfn_ex
  obtain ⟨mm, hm⟩ := hm
  have hb0 : Below w.heap.size w (w.alloc (.cells #[v0, v1, v2, v3, .int .i64 c, v5, fv, v7, .int .i64 o, .int .i64 m, v10] 28)) := (Below.refl _ w).alloc (Nat.le_refl _) _
  have HALL : Hid (∀ W : World, Below (w.alloc (.cells #[v0, v1, v2, v3, .int .i64 c, v5, fv, v7, .int .i64 o, .int .i64 m, v10] 28)).heap.size (w.alloc (.cells #[v0, v1, v2, v3, .int .i64 c, v5, fv, v7, .int .i64 o, .int .i64 m, v10] 28)) W →
      Cells11 W w.heap.size v0 v1 v2 v3 (.int .i64 c) v5 fv v7 (.int .i64 o) (.int .i64 m) v10 ∧ Below w.heap.size w W ∧ Fl W fv l0 ∧ DTabs W ∧ (∃ m, W.cell? ⟨2, 0, none⟩ = some (.int .i64 m))) := fun W h => by
    have hB := hb0.trans (h.mono hb0.size)
    exact ⟨eleven h, hB, z0.below hB, ht.below hB, ⟨mm, cell_keep hB hm⟩⟩
  obtain ⟨life, elf⟩ : ∃ n, ageP D l0 o m a1 = n := ⟨_, rfl⟩
  have HLF : Hid (∀ W : World, Fl W fv l0 → DTabs W → Calls Tryz.prog 11 #[.agg #[v0, v1, v2, v3, .int .i64 c, v5, fv, v7, .int .i64 o, .int .i64 m, v10], .int .i64 a1] W fun e w' => e = .returned (.int .i64 life) ∧ Below W.heap.size W w') := fun W hW hM => by
    rw [← elf]
    exact fage_at D hD v0 v1 v2 v3 _ v5 v7 v10 fv l0 o m a1 W hW (Nat.le_trans b0 (by decide)) hM
  have HRF : Hid (∀ W : World, Fl W fv l0 → (∃ m, W.cell? ⟨2, 0, none⟩ = some (.int .i64 m)) → Calls Tryz.prog 12 #[.agg #[v0, v1, v2, v3, .int .i64 c, v5, fv, v7, .int .i64 o, .int .i64 m, v10], .int .i64 a1] W fun e w' => e = .returned (.int .i64 life) ∧ Below W.heap.size W w') := fun W hW hM => by
    rw [← elf]
    exact rage_at D hD v0 v1 v2 v3 _ v5 v7 v10 fv l0 o m a1 W hW b0 hM
  obtain ⟨ad, cap, hv, hnc, hcm, hcx⟩ := id z0
  subst hv
  unfold maxLen at hcm
  clear hcx z0 b0 hb0 hm ht elf
  obtain ⟨T, G, x0, hx0, HG1, HG2, HG3⟩ := below_class (w.alloc (.cells #[v0, v1, v2, v3, .int .i64 c, v5, .slice ad l0.length cap, v7, .int .i64 o, .int .i64 m, v10] 28))
  haveI : Nonempty T := ⟨x0⟩
  have HBG : Hid (∀ x, Below (w.alloc (.cells #[v0, v1, v2, v3, .int .i64 c, v5, .slice ad l0.length cap, v7, .int .i64 o, .int .i64 m, v10] 28)).heap.size (w.alloc (.cells #[v0, v1, v2, v3, .int .i64 c, v5, .slice ad l0.length cap, v7, .int .i64 o, .int .i64 m, v10] 28)) (G x)) := fun x => by rw [hx0]; exact HG1.out x
  have hall := fun x => (HALL.out _ (HBG.out x)).1
  have hc0 : ∀ x, (G x).cell? ⟨w.heap.size, 0, none⟩ = some v0 := fun x => (hall x).1
  have hc1 : ∀ x, (G x).cell? ⟨w.heap.size, 1, none⟩ = some v1 := fun x => (hall x).2.1
  have hc2 : ∀ x, (G x).cell? ⟨w.heap.size, 2, none⟩ = some v2 := fun x => (hall x).2.2.1
  have hc3 : ∀ x, (G x).cell? ⟨w.heap.size, 3, none⟩ = some v3 := fun x => (hall x).2.2.2.1
  have hc4 : ∀ x, (G x).cell? ⟨w.heap.size, 4, none⟩ = some (.int .i64 c) := fun x => (hall x).2.2.2.2.1
  have hc5 : ∀ x, (G x).cell? ⟨w.heap.size, 5, none⟩ = some v5 := fun x => (hall x).2.2.2.2.2.1
  have hc6 : ∀ x, (G x).cell? ⟨w.heap.size, 6, none⟩ = some (.slice ad l0.length cap) := fun x => (hall x).2.2.2.2.2.2.1
  have hc7 : ∀ x, (G x).cell? ⟨w.heap.size, 7, none⟩ = some v7 := fun x => (hall x).2.2.2.2.2.2.2.1
  have hc8 : ∀ x, (G x).cell? ⟨w.heap.size, 8, none⟩ = some (.int .i64 o) := fun x => (hall x).2.2.2.2.2.2.2.2.1
  have hc9 : ∀ x, (G x).cell? ⟨w.heap.size, 9, none⟩ = some (.int .i64 m) := fun x => (hall x).2.2.2.2.2.2.2.2.2.1
  have hc10 : ∀ x, (G x).cell? ⟨w.heap.size, 10, none⟩ = some v10 := fun x => (hall x).2.2.2.2.2.2.2.2.2.2
  clear hall
  have HX1 : Hid (∀ x, Calls Tryz.prog 11 #[.agg #[v0, v1, v2, v3, .int .i64 c, v5, .slice ad l0.length cap, v7, .int .i64 o, .int .i64 m, v10], .int .i64 a1] (G x) fun e w' => e = .returned (.int .i64 life) ∧ ∃ y, w' = G y) := fun x => (HLF.out _ (HALL.out _ (HBG.out x)).2.2.1 (HALL.out _ (HBG.out x)).2.2.2.1).mono fun e W h => ⟨h.1, HG2.out _ W h.2⟩
  have HX2 : Hid (∀ x, Calls Tryz.prog 12 #[.agg #[v0, v1, v2, v3, .int .i64 c, v5, .slice ad l0.length cap, v7, .int .i64 o, .int .i64 m, v10], .int .i64 a1] (G x) fun e w' => e = .returned (.int .i64 life) ∧ ∃ y, w' = G y) := fun x => (HRF.out _ (HALL.out _ (HBG.out x)).2.2.1 (HALL.out _ (HBG.out x)).2.2.2.2).mono fun e W h => ⟨h.1, HG2.out _ W h.2⟩
  go_enter Tryz.func4, Tryz.ntmps4
  go_wp2_with fail
  try rw [hx0]
  refine region_in G (by kernel_rfl) (by kernel_rfl) (HG3.out _) ?_
  repeat (go_big_quiet_step (first
    | (go_at_call 11; with_reducible exact HX1.out _)
    | (go_at_call 12; with_reducible exact HX2.out _)))
  refine wpQuiet_nil ?_
  rintro _ ⟨x1, rfl⟩
  go_wp2_with fail
  go_ret
  exact ⟨by first | rfl | simp, (HALL.out _ (HBG.out x1)).2.1⟩
end Go.Proofs.YtigbjhkkbgdkcabGreatDoor

/-
  What isBound, takesStale and mayServe of package fresh say, of directives that can be read.
-/
namespace Go.Proofs.YtigbjhkkbgdkcabGreatDoor
open Go.RowKit

set_option maxHeartbeats 2000000 in
set_option maxRecDepth 100000 in
theorem fbound_at (v : Value) (ds : List Dv) (w : World) (hf : Dl w v ds) :
    Calls Tryz.prog 57 #[v] w fun e w' => e = .returned (.bool (boundP ds)) ∧ Below w.heap.size w w' := by
  have HF : Hid (Dl w v ds) := hf
  obtain ⟨b1, e1⟩ : ∃ b, hasK ds dMust = b := ⟨_, rfl⟩
  obtain ⟨b2, e2⟩ : ∃ b, hasK ds dProxy = b := ⟨_, rfl⟩
  obtain ⟨b3, e3⟩ : ∃ b, hasK ds dSM = b := ⟨_, rfl⟩
  obtain ⟨b4, e4⟩ : ∃ b, hasK ds dNC = b := ⟨_, rfl⟩
  have HR : Hid (boundP ds = (b1 || b2 || b3 || b4)) := by show _ = _; unfold boundP; rw [e1, e2, e3, e4]
  have H1 : Hid ((secK ds (⟨#[109, 117, 115, 116, 45, 114, 101, 118, 97, 108, 105, 100, 97, 116, 101]⟩ : ByteArray).data.toList).2 = b1) := e1
  have H2 : Hid ((secK ds (⟨#[112, 114, 111, 120, 121, 45, 114, 101, 118, 97, 108, 105, 100, 97, 116, 101]⟩ : ByteArray).data.toList).2 = b2) := e2
  have H3 : Hid ((secK ds (⟨#[115, 45, 109, 97, 120, 97, 103, 101]⟩ : ByteArray).data.toList).2 = b3) := e3
  have H4 : Hid ((secK ds (⟨#[110, 111, 45, 99, 97, 99, 104, 101]⟩ : ByteArray).data.toList).2 = b4) := e4
  rw [HR.out]
  clear e1 e2 e3 e4 HR
  obtain ⟨ad, cap, hv, hnc, hcm, hcx⟩ := id hf
  subst hv
  unfold maxLen at hcm
  clear hcx hf
  go_enter Tryz.func57, Tryz.ntmps57
  go_wp2_with fail
  refine (khas_at _ _ ds b1 H1.out _ HF.out).mono ?_
  rintro e w1 ⟨rfl, hb1⟩
  cases b1
  rotate_left
  · go_wp2_with fail
    go_ret
    exact ⟨rfl, hb1⟩
  have HB1 : Hid (Below w.heap.size w w1) := hb1
  clear hb1
  go_wp2_with fail
  refine (khas_at _ _ ds b2 H2.out _ (HF.out.below HB1.out)).mono ?_
  rintro e w2 ⟨rfl, hb2⟩
  have HB2 : Hid (Below w.heap.size w w2) := HB1.out.trans (hb2.mono HB1.out.size)
  clear hb2
  cases b2
  rotate_left
  · go_wp2_with fail
    go_ret
    exact ⟨rfl, HB2.out⟩
  go_wp2_with fail
  refine (khas_at _ _ ds b3 H3.out _ (HF.out.below HB2.out)).mono ?_
  rintro e w3 ⟨rfl, hb3⟩
  have HB3 : Hid (Below w.heap.size w w3) := HB2.out.trans (hb3.mono HB2.out.size)
  clear hb3
  cases b3
  rotate_left
  · go_wp2_with fail
    go_ret
    exact ⟨rfl, HB3.out⟩
  go_wp2_with fail
  refine (khas_at _ _ ds b4 H4.out _ (HF.out.below HB3.out)).mono ?_
  rintro e w4 ⟨rfl, hb4⟩
  have HB4 : Hid (Below w.heap.size w w4) := HB3.out.trans (hb4.mono HB3.out.size)
  clear hb4
  go_wp2_with fail
  go_ret
  exact ⟨ret_bool (by cases b4 <;> rfl), HB4.out⟩
set_option maxRecDepth 100000 in
theorem stale1_any (n u : ByteArray) (b : Bool) (w : World) :
    Calls Tryz.prog 86 #[.agg #[.string n, .bool b, .string u]] w fun e w' => e = .returned (.bool (isNm dMS (n.data.toList, b, u.data.toList))) ∧ Below w.heap.size w w' := by
  have HQ : Hid ((n.toList == dMS) = isNm dMS (n.data.toList, b, u.data.toList)) := by show _ = _; unfold isNm; rw [ByteArray.toList_eq]
  unfold dMS at HQ
  go_enter Tryz.func86, Tryz.ntmps86
  go_wp2_with fail
  go_ret
  exact ⟨ret_bool HQ.out, (Below.refl _ w).alloc (Nat.le_refl _) _⟩
set_option maxHeartbeats 2000000 in
set_option maxRecDepth 100000 in
theorem fstale_at (v : Value) (ds : List Dv) (o : Int) (w : World) (hf : Dl w v ds) (hm : MostD maxLen ds) :
    Calls Tryz.prog 58 #[v, .int .i64 o] w fun e w' => e = .returned (.bool (leave ds o)) ∧ Below w.heap.size w w' := by
  have hmf : ∀ (fn : Fn) (first cap : Array Value) (w : World), (Instr.makeFunc fn first cap).run Tryz.prog w = .ok (.func fn first cap) w := fun _ _ _ _ => rfl
  have HF : Hid (Dl w v ds) := hf
  have HM : Hid (MostD maxLen ds) := hm
  have HPR : Hid (PredD w (.func (.func 86) #[] #[]) (isNm dMS)) :=
    ⟨86, _, rfl, enters_of Tryz.func86 (by kernel_rfl) rfl, fun W b n u hW => stale1_any n u b W⟩
  obtain ⟨ad, cap, hv, hnc, hcm, hcx⟩ := id hf
  subst hv
  have HCX : Hid (0 < ds.length → ∃ g off, ad = some ⟨g, off, none⟩ ∧ g < w.heap.size ∧
    ∀ (k : Nat) (h : k < ds.length), w.cell? ⟨g, off + k * 3, none⟩ = some (.string ⟨(ds[k]).1.toArray⟩) ∧ w.cell? ⟨g, off + k * 3 + 1, none⟩ = some (.bool (ds[k]).2.1) ∧ w.cell? ⟨g, off + k * 3 + 2, none⟩ = some (.string ⟨(ds[k]).2.2.toArray⟩)) := hcx
  unfold maxLen at hcm
  clear hcx hf hm
  go_enter Tryz.func58, Tryz.ntmps58
  go_wp2_with fail
  refine (didx_any _ _ ds (isNm dMS) _ HF.out HPR.out).mono ?_
  rintro e w2 ⟨⟨rfl, hno⟩ | ⟨k, hk, rfl, h1, h2⟩, hb2⟩
  · have HNO : Hid (leave ds o = false) := by
      show _ = _
      unfold leave
      have : ds.find? (isNm dMS) = none := by
        rw [List.find?_eq_none]
        intro x hx
        rw [List.any_eq_false] at hno
        exact hno x hx
      rw [this]
    clear hno
    go_wp2_with fail
    go_ret
    exact ⟨ret_bool HNO.out.symm, hb2⟩
  · obtain ⟨m, em⟩ : ∃ m, numK (ds[k]).2.2 = m := ⟨_, rfl⟩
    obtain ⟨a, ea⟩ : ∃ a, (ds[k]).2.1 = a := ⟨_, rfl⟩
    have HS : Hid (secK ds (⟨#[109, 97, 120, 45, 115, 116, 97, 108, 101]⟩ : ByteArray).data.toList = (m, true)) := by rw [← em]; exact secK_at ds dMS k hk h1 h2
    have HL : Hid (leave ds o = (!a || decide (o ≤ m))) := by
      show _ = _
      unfold leave
      rw [find_first ds (isNm dMS) k hk h1 h2, ← em, ← ea]
    have HB2 : Hid (Below w.heap.size w w2) := hb2
    have hsz2 := hb2.size
    obtain ⟨g, off, rfl, hgs, hce⟩ := HCX.out (by omega)
    have d2 : w2.cell? ⟨g, off + k * 3 + 1, none⟩ = some (.bool a) := by rw [← ea]; exact (hb2.cell (p := ⟨g, off + k * 3 + 1, none⟩) hgs).trans (hce k hk).2.1
    have hk0 : (0 : Int) ≤ (k : Int) := by omega
    have hki : (k : Int) < (ds.length : Int) := by omega
    clear hce h1 h2 em ea hb2 HCX HPR
    go_wp2_with fail
    refine (ksec_at _ _ ds m true HS.out _ (HF.out.below HB2.out) HM.out).mono ?_
    rintro e w3 ⟨rfl, hb3⟩
    have HB3 : Hid (Below w.heap.size w w3) := HB2.out.trans (hb3.mono HB2.out.size)
    have d3 := (hb3.cell (p := ⟨g, off + k * 3 + 1, none⟩) (by show g < _; omega)).trans d2
    have hsz3 := hb3.size
    have hg3 : g < w3.heap.size := by omega
    clear hb3 d2
    cases a
    · go_wp2_with fail
      go_ret
      exact ⟨ret_bool (by rw [HL.out]; rfl), HB3.out⟩
    · by_cases hom : o ≤ m
      all_goals
        have HOM : Hid (decide (o ≤ m) = _) := show decide (o ≤ m) = _ by first | exact decide_eq_true hom | exact decide_eq_false hom
        go_wp2_with fail
        go_ret
        exact ⟨ret_bool (by rw [HL.out, HOM.out]; rfl), HB3.out⟩
set_option maxHeartbeats 4000000 in
set_option maxRecDepth 100000 in
theorem fmay_at (av sv : Value) (rs ss : List Dv) (life age : Int) (w : World) (ha : Dl w av rs) (hs : Dl w sv ss) (hma : MostD maxLen rs) (hl0 : 0 ≤ life) (hl1 : life ≤ 2147483648) (ha0 : 0 ≤ age) (ha1 : age ≤ 2147483648) :
    Calls Tryz.prog 39 #[av, sv, .int .i64 life, .int .i64 age] w fun e w' => e = .returned (.bool (goodP rs ss life age)) ∧ Below w.heap.size w w' := by
  have HA : Hid (Dl w av rs) := ha
  have HS : Hid (Dl w sv ss) := hs
  have HM : Hid (MostD maxLen rs) := hma
  obtain ⟨b1, e1⟩ : ∃ b, hasK rs dNC = b := ⟨_, rfl⟩
  obtain ⟨b2, e2⟩ : ∃ b, hasK ss dNC = b := ⟨_, rfl⟩
  obtain ⟨n3, b3, e3⟩ : ∃ n b, secK rs dMA = (n, b) := ⟨_, _, rfl⟩
  obtain ⟨n4, b4, e4⟩ : ∃ n b, secK rs dMF = (n, b) := ⟨_, _, rfl⟩
  obtain ⟨b5, e5⟩ : ∃ b, boundP ss = b := ⟨_, rfl⟩
  obtain ⟨b6, e6⟩ : ∃ b, leave rs (age - life) = b := ⟨_, rfl⟩
  have HR : Hid (goodP rs ss life age = ((decide (age < life) || (!b5 && b6)) && !b1 && !b2 && !(b3 && decide (n3 < age)) && !(b4 && decide (life - age < n4)))) := by
    show _ = _
    unfold goodP
    have h3 : hasK rs dMA = b3 := by unfold hasK; rw [e3]
    have h4 : hasK rs dMF = b4 := by unfold hasK; rw [e4]
    rw [e1, e2, h3, h4, e3, e4, e5, e6]
  have h3i := secK_in rs dMA
  have h4i := secK_in rs dMF
  rw [e3] at h3i
  rw [e4] at h4i
  have H1 : Hid ((secK rs (⟨#[110, 111, 45, 99, 97, 99, 104, 101]⟩ : ByteArray).data.toList).2 = b1) := e1
  have H2 : Hid ((secK ss (⟨#[110, 111, 45, 99, 97, 99, 104, 101]⟩ : ByteArray).data.toList).2 = b2) := e2
  have H3 : Hid (secK rs (⟨#[109, 97, 120, 45, 97, 103, 101]⟩ : ByteArray).data.toList = (n3, b3)) := e3
  have H4 : Hid (secK rs (⟨#[109, 105, 110, 45, 102, 114, 101, 115, 104]⟩ : ByteArray).data.toList = (n4, b4)) := e4
  have HBO : Hid (∀ W : World, Dl W sv ss → Calls Tryz.prog 57 #[sv] W fun e w' => e = .returned (.bool b5) ∧ Below W.heap.size W w') := fun W hW => by rw [← e5]; exact fbound_at sv ss W hW
  have HST : Hid (∀ W : World, Dl W av rs → Calls Tryz.prog 58 #[av, .int .i64 (age - life)] W fun e w' => e = .returned (.bool b6) ∧ Below W.heap.size W w') := fun W hW => by rw [← e6]; exact fstale_at av rs _ W hW hma
  rw [HR.out]
  obtain ⟨ad, cap, hv, hnc, hcm, hcx⟩ := id ha
  obtain ⟨ad', cap', hv', hnc', hcm', hcx'⟩ := id hs
  subst hv hv'
  unfold maxLen at hcm hcm'
  clear hcx hcx' ha hs hma e1 e2 e3 e4 e5 e6 HR
  go_enter Tryz.func39, Tryz.ntmps39
  go_wp2_with fail
  refine (khas_at _ _ rs b1 H1.out _ HA.out).mono ?_
  rintro e w1 ⟨rfl, hb1⟩
  have HB1 : Hid (Below w.heap.size w w1) := hb1
  clear hb1
  cases b1
  rotate_left
  · go_wp2_with fail
    go_ret
    exact ⟨ret_bool (by simp), HB1.out⟩
  go_wp2_with fail
  refine (khas_at _ _ ss b2 H2.out _ (HS.out.below HB1.out)).mono ?_
  rintro e w2 ⟨rfl, hb2⟩
  have HB2 : Hid (Below w.heap.size w w2) := HB1.out.trans (hb2.mono HB1.out.size)
  clear hb2
  cases b2
  rotate_left
  · go_wp2_with fail
    go_ret
    exact ⟨ret_bool (by simp), HB2.out⟩
  go_wp2_with fail
  refine (ksec_at _ _ rs n3 b3 H3.out _ (HA.out.below HB2.out) HM.out).mono ?_
  rintro e w3 ⟨rfl, hb3⟩
  have HB3 : Hid (Below w.heap.size w w3) := HB2.out.trans (hb3.mono HB2.out.size)
  clear hb3
  by_cases h3 : b3 = true ∧ n3 < age
  · obtain ⟨rfl, h3⟩ := h3
    have HZ : Hid (decide (n3 < age) = true) := decide_eq_true h3
    go_wp2_with fail
    go_ret
    exact ⟨ret_bool (by rw [HZ.out]; simp), HB3.out⟩
  have HZ3 : Hid ((b3 && decide (n3 < age)) = false) := by
    show _ = _
    cases b3
    · rfl
    · simp at h3 ⊢; exact h3
  have h3' : b3 = false ∨ (b3 = true ∧ ¬ n3 < age) := by
    cases b3
    · exact .inl rfl
    · exact .inr ⟨rfl, fun h => h3 ⟨rfl, h⟩⟩
  clear h3
  rcases h3' with rfl | ⟨rfl, h3⟩
  all_goals
    go_wp2_with fail
    refine (ksec_at _ _ rs n4 b4 H4.out _ (HA.out.below HB3.out) HM.out).mono ?_
    rintro e w4 ⟨rfl, hb4⟩
    have HB4 : Hid (Below w.heap.size w w4) := HB3.out.trans (hb4.mono HB3.out.size)
    clear hb4
    by_cases h4 : b4 = true ∧ life - age < n4
    · obtain ⟨rfl, h4⟩ := h4
      have HZ : Hid (decide (life - age < n4) = true) := decide_eq_true h4
      go_wp2_with fail
      go_ret
      exact ⟨ret_bool (by rw [HZ.out]; simp), HB4.out⟩
    · have HZ4 : Hid ((b4 && decide (life - age < n4)) = false) := by
        show _ = _
        cases b4
        · rfl
        · simp at h4 ⊢; exact h4
      have h4' : b4 = false ∨ (b4 = true ∧ ¬ life - age < n4) := by
        cases b4
        · exact .inl rfl
        · exact .inr ⟨rfl, fun h => h4 ⟨rfl, h⟩⟩
      clear h4
      rcases h4' with rfl | ⟨rfl, h4⟩
      all_goals
        by_cases hla : age < life
        · have HLA : Hid (decide (age < life) = true) := decide_eq_true hla
          go_wp2_with fail
          go_ret
          exact ⟨ret_bool (by rw [HZ3.out, HZ4.out, HLA.out]; rfl), HB4.out⟩
        · have HLA : Hid (decide (age < life) = false) := decide_eq_false hla
          go_wp2_with fail
          refine (HBO.out _ (HS.out.below HB4.out)).mono ?_
          rintro e w5 ⟨rfl, hb5⟩
          have HB5 : Hid (Below w.heap.size w w5) := HB4.out.trans (hb5.mono HB4.out.size)
          clear hb5
          cases b5
          · go_wp2_with fail
            refine (HST.out _ (HA.out.below HB5.out)).mono ?_
            rintro e w6 ⟨rfl, hb6⟩
            have HB6 : Hid (Below w.heap.size w w6) := HB5.out.trans (hb6.mono HB5.out.size)
            clear hb6
            go_wp2_with fail
            go_ret
            exact ⟨ret_bool (by rw [HZ3.out, HZ4.out, HLA.out]; cases b6 <;> rfl), HB6.out⟩
          · go_wp2_with fail
            go_ret
            exact ⟨ret_bool (by rw [HZ3.out, HZ4.out, HLA.out]; rfl), HB5.out⟩
end Go.Proofs.YtigbjhkkbgdkcabGreatDoor
