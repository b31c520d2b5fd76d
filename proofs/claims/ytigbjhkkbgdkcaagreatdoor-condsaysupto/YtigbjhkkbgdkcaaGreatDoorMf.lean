/-
  What DateParse of the document's answers computes, a contract over the program's text; the variable that strings.Index reads holds some number.
-/
import Derived.Test.YtigbjhkkbgdkcaaGreatDoorMe
import Derived.Deep.QuietTactic
import Derived.BigQuiet
import Derived.Lib.Join
import Derived.Test.YtigbjhkkbgdkcaaGreatDoorShelf
import Derived.Test.YtigbjhkkbgdkcaaGreatDoorRows
import Derived.Lib.IndexAny
import Derived.Handy
namespace Go.Proofs.YtigbjhkkbgdkcaaGreatDoor
open Go.RowKit

theorem ext_sl (s : ByteArray) (i j : Nat) : (s.extract i j).data.toList = sl s.data.toList i j := by
  rw [ByteArray.data_extract, Array.toList_extract]
  rfl

theorem ext_le (s : ByteArray) (i j : Nat) (hs : s.size = 29) : (s.extract i j).size ≤ 29 := by rw [ByteArray.size_extract]; omega
theorem digs_at (s : ByteArray) (i j : Nat) (w : World) (hs : s.size = 29) :
    Calls Tryz.prog 65 #[.string (s.extract i j), .string ⟨#[48, 49, 50, 51, 52, 53, 54, 55, 56, 57]⟩] w fun e w' => e = .returned (.bool ((sl s.data.toList i j).all isDig)) ∧ w' = w := by
  have c := allOf_any (s.extract i j) ⟨#[48, 49, 50, 51, 52, 53, 54, 55, 56, 57]⟩ w (by have := ext_le s i j hs; unfold maxLen; omega)
  rw [ext_sl, show (⟨#[48, 49, 50, 51, 52, 53, 54, 55, 56, 57]⟩ : ByteArray).data.toList = [48, 49, 50, 51, 52, 53, 54, 55, 56, 57] from rfl, tens_all] at c
  exact c
theorem rtrimp_at (s : ByteArray) (i j : Nat) (w : World) :
    Calls Tryz.prog 67 #[.string (s.extract i j), .string ⟨#[48]⟩] w fun e w' => e = .returned (.string ⟨(Lib.trimLeftB (sl s.data.toList i j) 48).toArray⟩) ∧ w' = w := by
  have c := Tryz.strings_TrimLeft_one (s.extract i j) 48 (by decide) w
  rw [ext_sl] at c
  exact c
theorem cn_at (l : List UInt8) (w : World) (h : l.length ≤ 29) :
    Calls Tryz.prog 66 #[.string ⟨(Lib.trimLeftB l 48).toArray⟩, .int .i64 9999] w fun e w' => e = .returned (.int .i64 (cn l)) ∧ w' = w :=
  count_any ⟨(Lib.trimLeftB l 48).toArray⟩ 9999 w (by rw [← size_list]; have := trim_len l; show (Lib.trimLeftB l 48).length ≤ maxLen; unfold maxLen; omega)

/-- memory behind k rounds of the loop -/
def dA (l : List UInt8) : Nat → Array Value
  | 0 => #[.int .i64 0, .int .i64 0, .int .i64 0, .int .i64 0, .int .i64 0]
  | 1 => #[.int .i64 (cn (sl l 5 7)), .int .i64 0, .int .i64 0, .int .i64 0, .int .i64 0]
  | 2 => #[.int .i64 (cn (sl l 5 7)), .int .i64 (cn (sl l 12 16)), .int .i64 0, .int .i64 0, .int .i64 0]
  | 3 => #[.int .i64 (cn (sl l 5 7)), .int .i64 (cn (sl l 12 16)), .int .i64 (cn (sl l 17 19)), .int .i64 0, .int .i64 0]
  | 4 => #[.int .i64 (cn (sl l 5 7)), .int .i64 (cn (sl l 12 16)), .int .i64 (cn (sl l 17 19)), .int .i64 (cn (sl l 20 22)), .int .i64 0]
  | _ => #[.int .i64 (cn (sl l 5 7)), .int .i64 (cn (sl l 12 16)), .int .i64 (cn (sl l 17 19)), .int .i64 (cn (sl l 20 22)), .int .i64 (cn (sl l 23 25))]
def dW (w : World) (s : ByteArray) (k : Nat) : World :=
  ((w.alloc (.cells (dA s.data.toList k) 94)).alloc (.cells #[.string (s.extract 5 7), .string (s.extract 12 16), .string (s.extract 17 19), .string (s.extract 20 22), .string (s.extract 23 25)] 9)).drew
theorem two_below (w : World) (a b : Obj) : Below w.heap.size w ((w.alloc a).alloc b).drew := (((Below.refl _ w).alloc (Nat.le_refl _) _).alloc (by simp) _).drew

set_option maxHeartbeats 2000000 in
set_option maxRecDepth 100000 in
theorem rdparse_29 (s : ByteArray) (w : World) (hs : s.size = 29) (m0 : Int) (hm0 : w.cell? ⟨2, 0, none⟩ = some (.int .i64 m0)) :
    Calls Tryz.prog 40 #[.string s] w fun e w' => ∃ n c : Int, e = .returned (.tuple #[.int .i64 n, .int .i64 c]) ∧ PR s.data.toList n c ∧ Below w.heap.size w w' := by
  have c := Tryz.strings_Index ⟨#[74, 97, 110, 32, 70, 101, 98, 32, 77, 97, 114, 32, 65, 112, 114, 32, 77, 97, 121, 32, 74, 117, 110, 32, 74, 117, 108, 32, 65, 117, 103, 32, 83, 101, 112, 32, 79, 99, 116, 32, 78, 111, 118, 32, 68, 101, 99]⟩ (s.extract 8 11) m0 w (by decide) hm0
  obtain ⟨m, hm⟩ : ∃ m, m = Lib.index mtext (sl s.data.toList 8 11) := ⟨_, rfl⟩
  rw [ext_sl, show (⟨#[74, 97, 110, 32, 70, 101, 98, 32, 77, 97, 114, 32, 65, 112, 114, 32, 77, 97, 121, 32, 74, 117, 110, 32, 74, 117, 108, 32, 65, 117, 103, 32, 83, 101, 112, 32, 79, 99, 116, 32, 78, 111, 118, 32, 68, 101, 99]⟩ : ByteArray).data.toList = mtext from rfl, ← hm] at c
  have hmb := mtext_bd (sl s.data.toList 8 11)
  rw [← hm] at hmb
  have HM : Hid (m = Lib.index mtext (sl s.data.toList 8 11)) := hm
  have hl : s.data.toList.length = 29 := by rw [size_list]; exact hs
  have HL : Hid (s.data.toList.length = 29) := hl
  clear hm0 hm hl
  go_enter Tryz.func40, Tryz.ntmps40
  go_wp2_with fail
  refine c.mono ?_
  rintro e w ⟨rfl, rfl⟩
  clear c
  go_wp2_with fail
  go_region
  go_wp2_with fail
  go_loopw [31] (fun i wr => ∃ k : Nat, k ≤ 5 ∧ i = .int .i64 k ∧ (∀ j : Nat, j < k → (part s.data.toList j).all isDig = true) ∧ wr = dW w s k) (fun i _ => 5 - (intOf i).toNat)
  case atStart => exact ⟨0, by omega, rfl, fun j hj => absurd hj (Nat.not_lt_zero _), rfl⟩
  case round =>
    obtain ⟨k, hk, rfl, hall, rfl⟩ := hrel
    have HA : Hid (∀ j : Nat, j < k → (part s.data.toList j).all isDig = true) := hall
    clear hall
    by_cases hlt : k < 5
    · have HPL : Hid ((part s.data.toList k).length ≤ 29) := Nat.le_trans (part_len _ HL.out k hlt) (by decide)
      cases hd : (part s.data.toList k).all isDig
      · have HD : Hid ((part s.data.toList k).all isDig = false) := hd
        have HP : Hid (PR s.data.toList 0 3) := .inr ⟨rfl, rfl, fun n h => by have := (dt_ref h).1 k hlt; rw [hd] at this; cases this⟩
        clear hd
        rcases (show k = 0 ∨ k = 1 ∨ k = 2 ∨ k = 3 ∨ k = 4 by omega) with rfl | rfl | rfl | rfl | rfl
        all_goals
          simp only [dW, dA]
          go_wp2_with fail
          refine (digs_at s _ _ _ hs).mono ?_
          rintro e w2 ⟨rfl, rfl⟩
          rw [show List.all (sl _ _ _) isDig = false from HD.out]
          go_wp2_with fail
          go_ret2
          exact ⟨0, 3, rfl, HP.out, two_below _ _ _⟩
      · have HD : Hid ((part s.data.toList k).all isDig = true) := hd
        have HA' : Hid (∀ j : Nat, j < k + 1 → (part s.data.toList j).all isDig = true) := by
          intro j hj
          by_cases h : j < k
          · exact HA.out j h
          · obtain rfl : j = k := by omega
            exact hd
        clear hd HA
        rcases (show k = 0 ∨ k = 1 ∨ k = 2 ∨ k = 3 ∨ k = 4 by omega) with rfl | rfl | rfl | rfl | rfl
        all_goals
          simp only [dW, dA]
          go_wp2_with fail
          refine (digs_at s _ _ _ hs).mono ?_
          rintro e w2 ⟨rfl, rfl⟩
          rw [show List.all (sl _ _ _) isDig = true from HD.out]
          go_wp2_with fail
          refine (rtrimp_at s _ _ _).mono ?_
          rintro e w2 ⟨rfl, rfl⟩
          go_wp2_with fail
          refine (cn_at _ _ HPL.out).mono ?_
          rintro e w2 ⟨rfl, rfl⟩
          go_wp2_with fail
          go_roundw
          case rel => refine ⟨_, ?_, ?_, HA'.out, ?_⟩ <;> first | decide | rfl
          case measure => simp [intOf]
    · obtain rfl : k = 5 := by omega
      have HG : Hid (digs s.data.toList) := HA.out
      clear HA
      obtain ⟨x0, h0⟩ : ∃ x, x = cn (sl s.data.toList 5 7) := ⟨_, rfl⟩
      obtain ⟨x1, h1⟩ : ∃ x, x = cn (sl s.data.toList 12 16) := ⟨_, rfl⟩
      obtain ⟨x2, h2⟩ : ∃ x, x = cn (sl s.data.toList 17 19) := ⟨_, rfl⟩
      obtain ⟨x3, h3⟩ : ∃ x, x = cn (sl s.data.toList 20 22) := ⟨_, rfl⟩
      obtain ⟨x4, h4⟩ : ∃ x, x = cn (sl s.data.toList 23 25) := ⟨_, rfl⟩
      have b0 := cn_bd _ (HG.out 0 (by decide)) (part_len _ HL.out 0 (by decide))
      have b1 := cn_bd _ (HG.out 1 (by decide)) (part_len _ HL.out 1 (by decide))
      have b2 := cn_bd _ (HG.out 2 (by decide)) (part_len _ HL.out 2 (by decide))
      have b3 := cn_bd _ (HG.out 3 (by decide)) (part_len _ HL.out 3 (by decide))
      have b4 := cn_bd _ (HG.out 4 (by decide)) (part_len _ HL.out 4 (by decide))
      have e0 := cn_max _ (HG.out 0 (by decide)) (part_len _ HL.out 0 (by decide))
      have e2 := cn_max _ (HG.out 2 (by decide)) (part_len _ HL.out 2 (by decide))
      have e3 := cn_max _ (HG.out 3 (by decide)) (part_len _ HL.out 3 (by decide))
      have e4 := cn_max _ (HG.out 4 (by decide)) (part_len _ HL.out 4 (by decide))
      rw [part0, ← h0] at b0 e0
      rw [part1, ← h1] at b1
      rw [part2, ← h2] at b2 e2
      rw [part3, ← h3] at b3 e3
      rw [part4, ← h4] at b4 e4
      simp only [dW, dA]
      rw [← h0, ← h1, ← h2, ← h3, ← h4]
      have H1 : Hid (x1 = cn (part s.data.toList 1)) := h1
      have E0 : Hid (max 0 x0 = numb (part s.data.toList 0)) := e0
      have E2 : Hid (max 0 x2 = numb (part s.data.toList 2)) := e2
      have E3 : Hid (max 0 x3 = numb (part s.data.toList 3)) := e3
      have E4 : Hid (max 0 x4 = numb (part s.data.toList 4)) := e4
      clear h0 h1 h2 h3 h4 e0 e2 e3 e4
      have HQ : Hid (∀ n, IsDT s.data.toList n → 0 ≤ m ∧ vldB x1 (m / 4 + 1) (max 0 x0) = true ∧ num x1 (m / 4 + 1) (max 0 x0) * 86400 + 3600 * max 0 x2 + 60 * max 0 x3 + max 0 x4 = n) := by
        intro n h
        obtain ⟨_, g1, g2, g3⟩ := dt_ref h
        rw [← HM.out] at g1 g2 g3
        unfold rN at g3
        rw [← H1.out, ← E0.out] at g2 g3
        rw [← E2.out, ← E3.out, ← E4.out] at g3
        exact ⟨g1, g2, g3⟩
      have HW := two_below w (.cells #[.int .i64 x0, .int .i64 x1, .int .i64 x2, .int .i64 x3, .int .i64 x4] 94) (.cells #[.string (s.extract 5 7), .string (s.extract 12 16), .string (s.extract 17 19), .string (s.extract 20 22), .string (s.extract 23 25)] 9)
      have HW' : Hid (Below _ _ _) := HW
      clear HM H1 E0 E2 E3 E4 HW HG
      by_cases hm : m < 0
      · have HP : Hid (PR s.data.toList 0 3) := .inr ⟨rfl, rfl, fun n h => by have := (HQ.out n h).1; omega⟩
        obtain rfl : m = -1 := by omega
        clear hm hmb HQ
        cases hv : vldB x1 1 (max 0 x0)
        · have HV : Hid (vldB x1 1 (max 0 x0) = false) := hv
          clear hv
          go_wp2_with fail
          refine (rdays_no _ _ _ _ HV.out).mono ?_
          rintro e w2 ⟨rfl, hb⟩
          have HB : Hid (Below w.heap.size w w2) := HW'.out.trans (hb.mono HW'.out.size)
          clear hb HW'
          go_wp2_with fail
          go_ret2
          exact ⟨0, 3, rfl, HP.out, HB.out⟩
        · have HV : Hid (vldB x1 1 (max 0 x0) = true) := hv
          clear hv
          go_wp2_with fail
          refine (rdays_yes _ _ _ _ HV.out).mono ?_
          rintro e w2 ⟨rfl, hb⟩
          have HB : Hid (Below w.heap.size w w2) := HW'.out.trans (hb.mono HW'.out.size)
          clear hb HW'
          go_wp2_with fail
          go_ret2
          exact ⟨0, 3, rfl, HP.out, HB.out⟩
      · have hm0 : 0 ≤ m := by omega
        have hm1 : m ≤ 47 := hmb.2
        clear hm hmb
        have hd : decide (m < 0) = false := decide_eq_false (by omega)
        cases hv : vldB x1 (m / 4 + 1) (max 0 x0)
        · have HP : Hid (PR s.data.toList 0 3) := .inr ⟨rfl, rfl, fun n h => by have := (HQ.out n h).2.1; rw [hv] at this; cases this⟩
          have HV : Hid (vldB x1 (m / 4 + 1) (max 0 x0) = false) := hv
          clear hv HQ
          go_wp2_with fail
          refine (rdays_no _ _ _ _ HV.out).mono ?_
          rintro e w2 ⟨rfl, hb⟩
          have HB : Hid (Below w.heap.size w w2) := HW'.out.trans (hb.mono HW'.out.size)
          clear hb HW'
          go_wp2_with fail
          go_ret2
          exact ⟨0, 3, rfl, HP.out, HB.out⟩
        · have hnb := num_bd hv
          have HV : Hid (vldB x1 (m / 4 + 1) (max 0 x0) = true) := hv
          clear hv
          go_wp2_with fail
          refine (rdays_yes _ _ _ _ HV.out).mono ?_
          rintro e w2 ⟨rfl, hb⟩
          have HB : Hid (Below w.heap.size w w2) := HW'.out.trans (hb.mono HW'.out.size)
          have c2 := hb.cell (p := ⟨w.heap.size, 2, none⟩) (by simp; omega)
          have c3 := hb.cell (p := ⟨w.heap.size, 3, none⟩) (by simp; omega)
          have c4 := hb.cell (p := ⟨w.heap.size, 4, none⟩) (by simp; omega)
          simp [go_sem] at c2 c3 c4
          clear hb HW'
          go_wp2_with fail
          have HN : Hid (∀ k, IsDT s.data.toList k → 86400 * num x1 (m / 4 + 1) (max 0 x0) + 3600 * max 0 x2 + 60 * max 0 x3 + max 0 x4 = k) := fun k h => by have := (HQ.out k h).2.2; omega
          have hn0 : 0 ≤ 86400 * num x1 (m / 4 + 1) (max 0 x0) + 3600 * max 0 x2 + 60 * max 0 x3 + max 0 x4 := by omega
          generalize 86400 * num x1 (m / 4 + 1) (max 0 x0) + 3600 * max 0 x2 + 60 * max 0 x3 + max 0 x4 = n at HN hn0 ⊢
          clear c2 c3 c4 HQ HV hnb hd
          by_cases hmx : n ≤ 253402300799
          · refine (rdprint_yes _ _ hn0 hmx).mono ?_
            rintro e w3 ⟨y, mo, d, rfl, hv, hn, hb⟩
            have HB3 : Hid (Below w.heap.size w w3) := HB.out.trans (hb.mono HB.out.size)
            obtain ⟨a, ha⟩ : ∃ a : ByteArray, a = ⟨(dtext n y mo d).toArray⟩ := ⟨_, rfl⟩
            rw [← ha]
            have HD : Hid (IsDT a.data.toList n) := ⟨hn0, hmx, y, mo, d, hv, hn, by rw [ha]⟩
            clear hv hn hb ha HB
            cases hq : (a.toList == s.toList)
            · have HP : Hid (PR s.data.toList 0 3) := .inr ⟨rfl, rfl, fun k hk => by
                have e := HN.out k hk
                subst e
                rw [ByteArray.toList_eq, ByteArray.toList_eq, beq_eq_false_iff_ne] at hq
                obtain ⟨_, _, y, m, d, hv, hn, e⟩ := HD.out
                obtain ⟨_, _, z, l, c, hv', hn', e'⟩ := hk
                exact hq (by rw [e, e']; exact dt_text hv hn hv' hn')⟩
              go_wp2_with fail
              go_ret2
              exact ⟨0, 3, rfl, HP.out, HB3.out⟩
            · have HP : Hid (PR s.data.toList n 0) := .inl ⟨rfl, by
                have h := HD.out
                rw [ByteArray.toList_eq, ByteArray.toList_eq, beq_iff_eq] at hq
                rw [hq] at h; exact h⟩
              go_wp2_with fail
              go_ret2
              exact ⟨n, 0, rfl, HP.out, HB3.out⟩
          · have HP : Hid (PR s.data.toList 0 3) := .inr ⟨rfl, rfl, fun k hk => by
              have e := HN.out k hk
              subst e
              exact hmx hk.2.1⟩
            refine (rdprint_no _ _ (.inr (by omega))).mono ?_
            rintro e w3 ⟨rfl, rfl⟩
            have he : s.toList.isEmpty = false := by rw [ByteArray.toList_eq, isEmpty_size, hs]; rfl
            have hq : ((⟨#[]⟩ : ByteArray).toList == s.toList) = false := by
              rw [ByteArray.toList_eq, ByteArray.toList_eq, beq_eq_false_iff_ne]
              intro h
              have := congrArg List.length h
              rw [size_list s, hs] at this
              cases this
            go_wp2_with fail
            go_ret2
            exact ⟨0, 3, rfl, HP.out, HB.out⟩

set_option maxHeartbeats 1000000 in
theorem rdparse_short (s : ByteArray) (w : World) (hs : s.size ≠ 29) :
    Calls Tryz.prog 40 #[.string s] w fun e w' => e = .returned (.tuple #[.int .i64 0, .int .i64 3]) ∧ w' = w := by
  have hn : ((s.size : Int) == 29) = false := by rw [beq_eq_false_iff_ne]; omega
  clear hs
  go_enter Tryz.func40, Tryz.ntmps40
  go_wp2_with fail
  go_ret2
  exact ⟨rfl, rfl⟩

theorem rdparse_any (s : ByteArray) (w : World) (hm : ∃ m, w.cell? ⟨2, 0, none⟩ = some (.int .i64 m)) :
    Calls Tryz.prog 40 #[.string s] w fun e w' => ∃ n c : Int, e = .returned (.tuple #[.int .i64 n, .int .i64 c]) ∧ PR s.data.toList n c ∧ Below w.heap.size w w' := by
  by_cases hs : s.size = 29
  · obtain ⟨m, hm⟩ := hm
    exact rdparse_29 s w hs m hm
  · refine (rdparse_short s w hs).mono ?_
    rintro e w' ⟨rfl, rfl⟩
    exact ⟨0, 3, rfl, .inr ⟨rfl, rfl, fun k h => by have := dt_len h; rw [size_list] at this; exact hs this⟩, Below.refl _ _⟩
end Go.Proofs.YtigbjhkkbgdkcaaGreatDoor

/-
  What dateOf of the document's answers says.
-/
namespace Go.Proofs.YtigbjhkkbgdkcaaGreatDoor
open Go.RowKit

set_option maxHeartbeats 1000000 in
set_option maxRecDepth 100000 in
theorem rdateOf_at (v : Value) (ls : List Fld) (s : ByteArray) (n c : Int) (hp : PR (jn (vals ls s.data.toList)) n c) (b : Bool) (hb : b = (!(vals ls s.data.toList).isEmpty && (c == 0))) (w : World) (hf : Fl w v ls) (hbk : bulkF ls ≤ 1048576) (hs : s.size ≤ 100) (hm : ∃ m, w.cell? ⟨2, 0, none⟩ = some (.int .i64 m)) :
    Calls Tryz.prog 21 #[v, .string s] w fun e w' => e = .returned (.tuple #[.int .i64 n, .bool b]) ∧ Below w.heap.size w w' := by
  obtain ⟨x, hx⟩ : ∃ x : ByteArray, x.data.toList = jn (vals ls s.data.toList) := ⟨⟨(jn (vals ls s.data.toList)).toArray⟩, rfl⟩
  have HX : Hid (x.data.toList = jn (vals ls s.data.toList)) := hx
  rw [← hx] at hp
  have HP : Hid (PR x.data.toList n c) := hp
  obtain ⟨q, hq⟩ : ∃ q, q = !(vals ls s.data.toList).isEmpty := ⟨_, rfl⟩
  have HQ : Hid (q = !(vals ls s.data.toList).isEmpty) := hq
  rw [← hq] at hb
  have HF : Hid (Fl w v ls) := hf
  have HBK : Hid (bulkF ls ≤ 1048576) := hbk
  obtain ⟨m, hm⟩ := hm
  have HM : Hid (w.cell? ⟨2, 0, none⟩ = some (.int .i64 m)) := hm
  obtain ⟨ad, cap, hv, hnc, hcm, hcx⟩ := id hf
  subst hv
  unfold maxLen at hcm
  clear hcx
  have hcb : (c == 0) = true ∨ (c == 0) = false := by cases (c == 0) <;> simp
  clear hx hp hq hf hbk hm
  go_enter Tryz.func21, Tryz.ntmps21
  go_wp2_with fail
  refine (rget_at _ ls s x q HX.out HQ.out _ HF.out HBK.out (by omega)).mono ?_
  rintro e w1 ⟨rfl, hb1⟩
  have HM1 : Hid (w1.cell? ⟨2, 0, none⟩ = some (.int .i64 m)) := cell_keep hb1 HM.out
  go_wp2_with fail
  refine (rdparse_any x _ ⟨m, HM1.out⟩).mono ?_
  rintro e w2 ⟨n', c', rfl, hp', hb2⟩
  obtain ⟨rfl, rfl⟩ := PR_one hp' HP.out
  have HB2 : Hid (Below w.heap.size w w2) := hb1.trans (hb2.mono hb1.size)
  clear hb1 hb2 hp'
  subst hb
  cases q
  · go_wp2_with fail
    go_ret2
    exact ⟨rfl, HB2.out⟩
  · rcases hcb with hcb | hcb
    all_goals
      go_wp2_with fail
      go_ret2
      exact ⟨by rw [hcb]; rfl, HB2.out⟩
end Go.Proofs.YtigbjhkkbgdkcaaGreatDoor

/-
  Plain lemmas: what is read between two signs, put together again with such signs, is cut at the same places; a quoted text is never cut; no program is named here.
-/
namespace Go.Proofs.YtigbjhkkbgdkcaaGreatDoor
open Go.RowKit

/-- Where one stands behind a text, if no sign that counts was met. -/
def run (sep : UInt8) : Bool × Bool → List UInt8 → Option (Bool × Bool)
  | st, [] => some st
  | st, c :: l => if c = sep ∧ st.1 = false then none else
      run sep (if st.2 = true then st.1 else if c = 34 then !st.1 else st.1, if st.2 = true then false else if c = 34 then false else if c = 92 then st.1 else false) l
def closed (sep : UInt8) (r : List UInt8) : Prop := run sep (false, false) r = some (false, false)

theorem run_cons (sep : UInt8) (st : Bool × Bool) (c : UInt8) (l : List UInt8) : run sep st (c :: l) = if c = sep ∧ st.1 = false then none else
      run sep (if st.2 = true then st.1 else if c = 34 then !st.1 else st.1, if st.2 = true then false else if c = 34 then false else if c = 92 then st.1 else false) l := rfl
theorem run_app (sep : UInt8) (a b : List UInt8) : ∀ st, run sep st (a ++ b) = (run sep st a).bind (fun x => run sep x b) := by
  induction a with
  | nil => intro st; rfl
  | cons c a ih =>
    intro st
    rw [List.cons_append, run_cons, run_cons]
    split
    · rfl
    · exact ih _

theorem run_fold (sep : UInt8) (r : List UInt8) : ∀ (X : List (List UInt8)) (cur : List UInt8) (q cn q' cn' : Bool), run sep (q, cn) r = some (q', cn') → r.foldl (cstep sep) ⟨X, cur, q, cn⟩ = ⟨X, cur ++ r, q', cn'⟩ := by
  induction r with
  | nil => intro X cur q cn q' cn' h; simp [run] at h; obtain ⟨rfl, rfl⟩ := h; simp
  | cons c r ih =>
    intro X cur q cn q' cn' h
    unfold run at h
    split at h
    · cases h
    · rename_i hs
      rw [List.foldl_cons]
      have e : cstep sep ⟨X, cur, q, cn⟩ c = ⟨X, cur ++ [c], if cn = true then q else if c = 34 then !q else q, if cn = true then false else if c = 34 then false else if c = 92 then q else false⟩ := by
        unfold cstep; rw [if_neg hs]
      rw [e, ih X (cur ++ [c]) _ _ q' cn' h]
      simp

theorem pieces_closed (sep : UInt8) (l : List UInt8) (h : ends sep l = true) : ∀ p ∈ pieces sep l, closed sep p := by
  have gen : ∀ (l : List UInt8) (x : Cut), (∀ p ∈ x.ps, closed sep p) → run sep (false, false) x.cur = some (x.q, x.cn) → (x.cn = true → x.q = true) →
      (∀ p ∈ (l.foldl (cstep sep) x).ps, closed sep p) ∧ run sep (false, false) (l.foldl (cstep sep) x).cur = some ((l.foldl (cstep sep) x).q, (l.foldl (cstep sep) x).cn) ∧ ((l.foldl (cstep sep) x).cn = true → (l.foldl (cstep sep) x).q = true) := by
    intro l
    induction l with
    | nil => intro x h1 h2 h3; exact ⟨h1, h2, h3⟩
    | cons c l ih =>
      intro x h1 h2 h3
      rw [List.foldl_cons]
      apply ih
      · unfold cstep
        split
        · rename_i hs
          intro p hp
          simp only [List.mem_append, List.mem_singleton] at hp
          rcases hp with hp | rfl
          · exact h1 p hp
          · have hcn : x.cn = false := by
              cases hc : x.cn
              · rfl
              · have := h3 hc; rw [hs.2] at this; cases this
            unfold closed
            rw [h2, hs.2, hcn]
        · exact h1
      · unfold cstep
        split
        · rename_i hs
          have hcn : x.cn = false := by
            cases hc : x.cn
            · rfl
            · have := h3 hc; rw [hs.2] at this; cases this
          simp [run, hs.2, hcn]
        · rename_i hs
          simp only
          rw [run_app, h2]
          simp only [Option.bind_some]
          unfold run
          rw [if_neg hs]
          rfl
      · unfold cstep
        split
        · rename_i hs
          intro hc
          have := h3 hc
          rw [hs.2] at this; cases this
        · simp only
          cases hc : x.cn
          · simp only [Bool.false_eq_true, if_false]
            intro h
            by_cases h34 : c = 34
            · simp [h34] at h
            · by_cases h92 : c = 92
              · simp only [h92, if_true] at h ⊢
                simpa using h
              · simp [h34, h92] at h
          · simp
  have hg := gen l ⟨[], [], false, false⟩ (fun p hp => by cases hp) rfl (fun h => by cases h)
  unfold ends at h
  intro p hp
  unfold pieces at hp
  simp only [List.mem_append, List.mem_singleton] at hp
  have hq : (cutS sep l).q = false := by simpa using h
  have hcn : (cutS sep l).cn = false := by
    cases hc : (cutS sep l).cn
    · rfl
    · have := hg.2.2 hc
      exact absurd (hq.symm.trans this) (by simp)
  rcases hp with hp | rfl
  · exact hg.1 p hp
  · unfold closed
    have := hg.2.1
    unfold cutS at hq hcn ⊢
    rw [this, hq, hcn]

theorem run_cn (sep : UInt8) (r : List UInt8) : ∀ (st : Bool × Bool) (q cn : Bool), (st.2 = true → st.1 = true) → run sep st r = some (q, cn) → cn = true → q = true := by
  induction r with
  | nil => intro st q cn h hr; simp [run] at hr; rw [hr] at h; exact h
  | cons c r ih =>
    intro st q cn h hr
    unfold run at hr
    split at hr
    · cases hr
    · refine ih _ q cn ?_ hr
      simp only
      cases hc : st.2
      · simp only [Bool.false_eq_true, if_false]
        intro h'
        by_cases h34 : c = 34
        · simp [h34] at h'
        · by_cases h92 : c = 92
          · simp only [h92, if_true] at h' ⊢
            simpa using h'
          · simp [h34, h92] at h'
      · simp
theorem run_cnq (sep : UInt8) (r : List UInt8) (q cn : Bool) (h : run sep (false, false) r = some (q, cn)) : cn = true → q = true := run_cn sep r (false, false) q cn (fun h => by cases h) h

theorem blank_ne (b : UInt8) (h : blank b = true) : b ≠ 34 ∧ b ≠ 92 := by
  unfold blank at h
  simp at h
  rcases h with rfl | rfl <;> exact ⟨by decide, by decide⟩

theorem closed_first (sep : UInt8) (b : UInt8) (r : List UInt8) (hb : blank b = true) (h : closed sep (b :: r)) : closed sep r := by
  obtain ⟨h1, h2⟩ := blank_ne b hb
  unfold closed at h ⊢
  unfold run at h
  split at h
  · cases h
  · simpa [h1, h2] using h
theorem closed_last (sep : UInt8) (b : UInt8) (r : List UInt8) (hb : blank b = true) (h : closed sep (r ++ [b])) : closed sep r := by
  obtain ⟨h1, h2⟩ := blank_ne b hb
  unfold closed at h ⊢
  rw [run_app] at h
  cases hr : run sep (false, false) r with
  | none => rw [hr] at h; cases h
  | some st =>
    rw [hr] at h
    obtain ⟨q, cn⟩ := st
    simp only [Option.bind_some, run, h1, h2, if_false] at h
    split at h
    · cases h
    · have hcnq : cn = true → q = true := run_cnq sep r q cn hr
      cases cn
      · simp at h; rw [h]
      · have := hcnq rfl
        subst this
        simp at h
theorem drop_closed (sep : UInt8) : ∀ (r : List UInt8), closed sep r → closed sep (r.dropWhile blank)
  | [], h => h
  | b :: r, h => by
    rw [List.dropWhile_cons]
    split
    · rename_i hb
      exact drop_closed sep r (closed_first sep b r hb h)
    · exact h
theorem dropr_closed (sep : UInt8) : ∀ (r : List UInt8), closed sep r.reverse → closed sep (r.dropWhile blank).reverse
  | [], h => h
  | b :: r, h => by
    rw [List.dropWhile_cons]
    split
    · rename_i hb
      rw [List.reverse_cons] at h
      exact dropr_closed sep r (closed_last sep b _ hb h)
    · exact h
theorem trim_closed (sep : UInt8) (r : List UInt8) (h : closed sep r) : closed sep (trimL r) := by
  rw [trimL_eq]
  apply drop_closed
  apply dropr_closed
  rw [List.reverse_reverse]
  exact h

/-- Texts with the sign between them. -/
theorem join_fold (sep : UInt8) : ∀ (ps : List (List UInt8)) (p : List UInt8) (X : List (List UInt8)), (∀ r ∈ p :: ps, closed sep r) →
    (Lib.join (p :: ps) [sep]).foldl (cstep sep) ⟨X, [], false, false⟩ = ⟨X ++ (p :: ps).dropLast, (p :: ps).getLast (by simp), false, false⟩
  | [], p, X, h => by
    have hj : Lib.join [p] [sep] = p := Lib.join_one p [sep]
    rw [hj, run_fold sep p X [] false false false false (h p (by simp))]
    simp
  | q :: ps, p, X, h => by
    have hj : Lib.join (p :: q :: ps) [sep] = p ++ (sep :: Lib.join (q :: ps) [sep]) := by
      rw [Lib.join_cons, Lib.join_cons]; simp [Lib.joinTail]
    rw [hj, List.foldl_append, run_fold sep p X [] false false false false (h p (by simp)), List.foldl_cons]
    have e : cstep sep ⟨X, [] ++ p, false, false⟩ sep = ⟨X ++ [p], [], false, false⟩ := by simp [cstep]
    rw [e, join_fold sep ps q (X ++ [p]) (fun r hr => h r (by simp at hr ⊢; rcases hr with hr | hr <;> simp [hr]))]
    simp

theorem pieces_join (sep : UInt8) (p : List UInt8) (ps : List (List UInt8)) (h : ∀ r ∈ p :: ps, closed sep r) : pieces sep (Lib.join (p :: ps) [sep]) = p :: ps ∧ ends sep (Lib.join (p :: ps) [sep]) = true := by
  have e : cutS sep (Lib.join (p :: ps) [sep]) = ⟨[] ++ (p :: ps).dropLast, (p :: ps).getLast (by simp), false, false⟩ := join_fold sep ps p [] h
  refine ⟨?_, by unfold ends; rw [e]; rfl⟩
  unfold pieces
  rw [e]
  simp only [List.nil_append]
  exact List.dropLast_concat_getLast (by simp)

def tot (ps : List (List UInt8)) : Nat := (ps.map fun p => p.length + 1).sum
theorem tot_app (a b : List (List UInt8)) : tot (a ++ b) = tot a + tot b := by simp [tot]
theorem tot_one (a : List UInt8) : tot [a] = a.length + 1 := by simp [tot]
theorem pieces_tot (sep : UInt8) (l : List UInt8) : tot (pieces sep l) = l.length + 1 := by
  have gen : ∀ (l : List UInt8) (x : Cut), tot (l.foldl (cstep sep) x).ps + (l.foldl (cstep sep) x).cur.length = tot x.ps + x.cur.length + l.length := by
    intro l
    induction l with
    | nil => intro x; simp
    | cons c l ih =>
      intro x
      rw [List.foldl_cons, ih, List.length_cons]
      have : tot (cstep sep x c).ps + (cstep sep x c).cur.length = tot x.ps + x.cur.length + 1 := by
        unfold cstep
        split
        · simp only [tot_app, tot_one, List.length_nil]; omega
        · simp; omega
      omega
  have h := gen l ⟨[], [], false, false⟩
  unfold pieces
  rw [tot_app, tot_one]
  have h0 : tot ([] : List (List UInt8)) = 0 := rfl
  simp only [h0, List.length_nil] at h
  unfold cutS
  omega
theorem tot_filter (f : List UInt8 → Bool) (ps : List (List UInt8)) : tot (ps.filter f) ≤ tot ps := by
  induction ps with
  | nil => simp [tot]
  | cons p ps ih =>
    have e : tot (p :: ps) = p.length + 1 + tot ps := by simp [tot]
    rw [List.filter_cons]
    split
    · have e2 : tot (p :: ps.filter f) = p.length + 1 + tot (ps.filter f) := by simp [tot]
      omega
    · omega
theorem tot_trim (ps : List (List UInt8)) : tot (ps.map trimL) ≤ tot ps := by
  induction ps with
  | nil => simp [tot]
  | cons p ps ih =>
    have e : tot (p :: ps) = p.length + 1 + tot ps := by simp [tot]
    have e2 : tot ((p :: ps).map trimL) = (trimL p).length + 1 + tot (ps.map trimL) := by simp [tot]
    have := trimL_len p
    omega
theorem tot_join (sep : UInt8) : ∀ (ps : List (List UInt8)) (p : List UInt8), (Lib.join (p :: ps) [sep]).length + 1 = tot (p :: ps)
  | [], p => by rw [Lib.join_one]; simp [tot]
  | q :: ps, p => by
    have hj : Lib.join (p :: q :: ps) [sep] = p ++ (sep :: Lib.join (q :: ps) [sep]) := by rw [Lib.join_cons, Lib.join_cons]; simp [Lib.joinTail]
    have ih := tot_join sep ps q
    have e : tot (p :: q :: ps) = p.length + 1 + tot (q :: ps) := by simp [tot]
    rw [hj, List.length_append, List.length_cons]
    omega

/-- A quoted text is closed. -/
theorem run_esc (sep : UInt8) (l : List UInt8) : run sep (true, false) (esc l) = some (true, false) := by
  induction l with
  | nil => rfl
  | cons c l ih =>
    have e : esc (c :: l) = esc1 c ++ esc l := by simp [esc]
    rw [e, run_app]
    have : run sep (true, false) (esc1 c) = some (true, false) := by
      unfold esc1
      split
      · simp [run]
      · rename_i hc
        have h1 : c ≠ 34 := fun e => hc (.inl e)
        have h2 : c ≠ 92 := fun e => hc (.inr e)
        simp [run, h1, h2]
    rw [this]
    exact ih
theorem closed_quoted (sep : UInt8) (h34 : sep ≠ 34) (l : List UInt8) : closed sep (34 :: (esc l ++ [34])) := by
  unfold closed
  have e : run sep (false, false) (34 :: (esc l ++ [34])) = run sep (true, false) (esc l ++ [34]) := by
    conv => lhs; unfold run
    rw [if_neg (fun h => h34 h.1.symm)]
    simp
  rw [e, run_app, run_esc sep]
  simp [run]
theorem trimL_quoted (m : List UInt8) : trimL (34 :: (m ++ [34])) = 34 :: (m ++ [34]) := by
  apply trimL_stays
  · intro b hb; simp at hb; subst hb; rfl
  · intro b hb
    rw [show (34 :: (m ++ [34])) = (34 :: m) ++ [34] from rfl, List.getLast?_append] at hb
    simp at hb; subst hb; rfl
end Go.Proofs.YtigbjhkkbgdkcaaGreatDoor

/-
  Plain lemmas on tokens: none has a sign that is cut at, a quote, a stroke or a blank; no program is named here.
-/
namespace Go.Proofs.YtigbjhkkbgdkcaaGreatDoor
open Go.RowKit

theorem tok_ne (c : UInt8) (h : isTok c = true) : c ≠ 34 ∧ c ≠ 92 ∧ c ≠ 44 ∧ c ≠ 59 ∧ c ≠ 61 ∧ blank c = false := by
  have := byAll (fun c => !isTok c || (decide (c ≠ 34) && decide (c ≠ 92) && decide (c ≠ 44) && decide (c ≠ 59) && decide (c ≠ 61) && !blank c)) (by decide +kernel) c
  rw [h] at this
  simp at this
  obtain ⟨⟨⟨⟨⟨h1, h2⟩, h3⟩, h4⟩, h5⟩, h6⟩ := this
  exact ⟨h1, h2, h3, h4, h5, h6⟩
theorem tok_run (sep : UInt8) (hsep : sep = 44 ∨ sep = 59) (l : List UInt8) (h : l.all isTok = true) : run sep (false, false) l = some (false, false) := by
  induction l with
  | nil => rfl
  | cons c l ih =>
    rw [List.all_cons, Bool.and_eq_true] at h
    obtain ⟨h1, h2, h3, h4, _, _⟩ := tok_ne c h.1
    have hs : c ≠ sep := by rcases hsep with rfl | rfl <;> assumption
    rw [run_cons, if_neg (fun x => hs x.1)]
    simp only [Bool.false_eq_true, if_false, h1, h2]
    exact ih h.2
theorem token_parts (l : List UInt8) (h : token l = true) : l.isEmpty = false ∧ l.all isTok = true := by
  unfold token at h
  rw [Bool.and_eq_true] at h
  exact ⟨by simpa using h.1, h.2⟩
theorem trimL_token (l : List UInt8) (h : token l = true) : trimL l = l := by
  obtain ⟨_, h2⟩ := token_parts l h
  rw [List.all_eq_true] at h2
  apply trimL_stays
  · intro b hb
    exact (tok_ne b (h2 b (List.mem_of_mem_head? hb))).2.2.2.2.2
  · intro b hb
    exact (tok_ne b (h2 b (List.mem_of_getLast? hb))).2.2.2.2.2
end Go.Proofs.YtigbjhkkbgdkcaaGreatDoor

/-
  What the function outside of the document's answers computes.
-/
namespace Go.Proofs.YtigbjhkkbgdkcaaGreatDoor
open Go.RowKit

set_option maxHeartbeats 400000 in
set_option maxRecDepth 100000 in
theorem outside_any (a b c : Int) (w : World) :
    Calls Tryz.prog 99 #[.int .i64 a, .int .i64 b, .int .i64 c] w fun e w' => e = .returned (.bool (decide (a < b ∨ c < a))) ∧ w' = w := by
  by_cases h : a < b
  · rw [decide_eq_true (Or.inl h)]
    go_enter Tryz.func99, Tryz.ntmps99
    go_wp2
    go_ret
    exact ⟨rfl, rfl⟩
  · have hd : decide (a < b) = false := decide_eq_false h
    by_cases h2 : c < a
    · rw [decide_eq_true (Or.inr h2)]
      go_enter Tryz.func99, Tryz.ntmps99
      go_wp2
      go_ret
      exact ⟨ret_bool (by simp), rfl⟩
    · rw [decide_eq_false (by omega)]
      have hd2 : decide (c < a) = false := decide_eq_false h2
      go_enter Tryz.func99, Tryz.ntmps99
      go_wp2
      go_ret
      exact ⟨ret_bool (by simp), rfl⟩
end Go.Proofs.YtigbjhkkbgdkcaaGreatDoor

/-
  What the functions plain and outside of the document's answers compute; a string is no longer than Go allows.
-/
namespace Go.Proofs.YtigbjhkkbgdkcaaGreatDoor
open Go.RowKit

set_option maxHeartbeats 400000 in
set_option maxRecDepth 100000 in
theorem rplain_any (s : ByteArray) (w : World) (hs : s.size ≤ maxLen) :
    Calls Tryz.prog 91 #[.string s] w fun e w' => e = .returned (.bool (allPlain s.data.toList)) ∧ w' = w := by
  unfold maxLen at hs
  go_enter Tryz.func91, Tryz.ntmps91
  go_wp2_with fail
  go_loop [6] (fun i => ∃ k : Nat, k ≤ s.size ∧ i = .int .i64 k ∧ allPlain (s.data.toList.take k) = true) (fun i => s.size - (intOf i).toNat)
  case atStart => exact ⟨0, Nat.zero_le _, rfl, rfl⟩
  case round =>
    obtain ⟨k, hk, rfl, hall⟩ := hrel
    have HA : Hid (allPlain (s.data.toList.take k) = true) := hall
    clear hall
    by_cases hlt : k < s.size
    · have hc1 : (s[k].toNat : Int) < 256 := by have := s[k].toNat_lt; omega
      by_cases h9 : (s[k].toNat : Int) = 9
      · have hd : ((s[k].toNat : Int) != 9) = false := by simp [h9]
        have HP : Hid (plainB s[k] = true) := by show plainB s[k] = true; rw [plainB_iff]; simp [h9]
        clear h9
        go_wp2_with fail
        go_round
        case rel => exact ⟨k + 1, by omega, by go_num, by rw [take_snoc s k hlt]; exact allPlain_snoc _ _ HA.out HP.out⟩
        case measure => simp [intOf]; omega
      · have hd : ((s[k].toNat : Int) != 9) = true := by simp [h9]
        by_cases ho : (s[k].toNat : Int) < 32 ∨ 126 < (s[k].toNat : Int)
        · have HP : Hid (plainB s[k] = false) := by show plainB s[k] = false; rw [plainB_iff, decide_eq_false]; omega
          have HO : Hid ((s[k].toNat : Int) < 32 ∨ 126 < (s[k].toNat : Int)) := ho
          clear h9 ho
          go_wp2_with fail
          refine (outside_any _ _ _ _).mono ?_
          rintro e w' ⟨rfl, rfl⟩
          rw [decide_eq_true HO.out]
          go_wp2_with fail
          go_ret
          exact ⟨ret_bool (allPlain_dead s k hlt HP.out).symm, rfl⟩
        · have HP : Hid (plainB s[k] = true) := by show plainB s[k] = true; rw [plainB_iff, decide_eq_true]; omega
          have HO : Hid (¬ ((s[k].toNat : Int) < 32 ∨ 126 < (s[k].toNat : Int))) := ho
          clear h9 ho
          go_wp2_with fail
          refine (outside_any _ _ _ _).mono ?_
          rintro e w' ⟨rfl, rfl⟩
          rw [decide_eq_false HO.out]
          go_wp2_with fail
          go_round
          case rel => exact ⟨k + 1, by omega, by go_num, by rw [take_snoc s k hlt]; exact allPlain_snoc _ _ HA.out HP.out⟩
          case measure => simp [intOf]; omega
    · obtain rfl : k = s.size := by omega
      go_wp2_with fail
      go_ret
      have h := HA.out
      rw [take_all] at h
      exact ⟨ret_bool h.symm, rfl⟩
end Go.Proofs.YtigbjhkkbgdkcaaGreatDoor

/-
  Parts of a text, as laws of the slice operation.
-/
namespace Go.Proofs.YtigbjhkkbgdkcaaGreatDoor
open Go.RowKit

theorem slice_from (s : ByteArray) (a : Nat) (ha : a ≤ s.size) : ∃ r : ByteArray, r.data.toList = s.data.toList.drop a ∧ r.size = s.size - a ∧ ∀ w, (Instr.slice 9 (.string s) (some (.int .i64 (a : Int))) none none).run Tryz.prog w = .ok (.string r) w := by
  refine ⟨s.extract a s.size, ?_, ?_, fun w => ?_⟩
  · rw [Lib.extract_data, List.take_of_length_le (by rw [List.length_drop, size_list]; omega)]
  · rw [ByteArray.size_extract]; omega
  · rw [run_slice_string_l w 9 s Tryz.underlying9 .i64 (a : Int) (by omega) (by omega)]; rfl
theorem slice_part (s : ByteArray) (a b : Nat) (ha : a ≤ b) (hb : b ≤ s.size) : ∃ r : ByteArray, r.data.toList = (s.data.toList.drop a).take (b - a) ∧ r.size = b - a ∧ ∀ w, (Instr.slice 9 (.string s) (some (.int .i64 (a : Int))) (some (.int .i64 (b : Int))) none).run Tryz.prog w = .ok (.string r) w := by
  refine ⟨s.extract a b, ?_, ?_, fun w => ?_⟩
  · rw [Lib.extract_data]
  · rw [ByteArray.size_extract]; omega
  · rw [run_slice_string w 9 s .i64 .i64 _ _ Tryz.underlying9 (by omega) (by omega) (by omega)]; rfl
theorem slice_to (s : ByteArray) (b : Nat) (hb : b ≤ s.size) : ∃ r : ByteArray, r.data.toList = s.data.toList.take b ∧ r.size = b ∧ ∀ w, (Instr.slice 9 (.string s) none (some (.int .i64 (b : Int))) none).run Tryz.prog w = .ok (.string r) w := by
  refine ⟨s.extract 0 b, ?_, ?_, fun w => ?_⟩
  · rw [Lib.extract_data]; simp
  · rw [ByteArray.size_extract]; omega
  · rw [run_slice_string_h w 9 s Tryz.underlying9 .i64 (b : Int) (by omega) (by omega)]; rfl
end Go.Proofs.YtigbjhkkbgdkcaaGreatDoor

/-
  What TagPrint and TagParse of the document's answers compute.
-/
namespace Go.Proofs.YtigbjhkkbgdkcaaGreatDoor
open Go.RowKit

theorem et_parts (l : List UInt8) : (allPlain l && !Lib.containsAny l [32, 9, 34]) = l.all etB := by
  unfold allPlain Lib.containsAny
  induction l with
  | nil => rfl
  | cons c l ih =>
    rw [List.all_cons, List.all_cons, ← ih, Lib.indexAny]
    have hc := byAll (fun c => decide ((plainB c && !([32, 9, 34] : List UInt8).contains c) = etB c)) (by decide +kernel) c
    have hc := of_decide_eq_true hc
    have hg := Lib.indexAny_ge [32, 9, 34] l
    rw [← hc]
    generalize ([32, 9, 34] : List UInt8).contains c = b
    cases b
    · by_cases h2 : Lib.indexAny l [32, 9, 34] = -1
      · rw [h2]
        cases plainB c <;> simp
      · have h5 : (Lib.indexAny l [32, 9, 34] == -1) = false := by simpa using h2
        have h3 : 0 ≤ Lib.indexAny l [32, 9, 34] := by omega
        have h4 : 0 ≤ Lib.indexAny l [32, 9, 34] + 1 := by omega
        rw [h5]
        cases plainB c <;> simp [h3, h4]
    · cases plainB c <;> simp
theorem et_low (l : List UInt8) (h : allPlain l = true) : ∀ (j : Nat) b, l[j]? = some b → b.toNat < 128 := by
  intro j b hb
  have hb := List.all_eq_true.1 h b (List.mem_of_getElem? hb)
  have := byAll (fun c => decide (plainB c = true → c.toNat < 128)) (by decide +kernel) b
  exact of_decide_eq_true this hb
theorem et_low3 : ∀ (j : Nat) b, (⟨#[32, 9, 34]⟩ : ByteArray).data.toList[j]? = some b → b.toNat < 128 := by
  intro j b hb
  have := List.mem_of_getElem? hb
  simp at this
  rcases this with rfl | rfl | rfl <;> decide
set_option maxHeartbeats 2000000 in
set_option maxRecDepth 100000 in
theorem rtprint_at (k : Bool) (x s : ByteArray) (c : Int) (h : prE (k, x.data.toList) = (s.data.toList, c)) (w : World) :
    Calls Tryz.prog 63 #[.agg #[.bool k, .string x]] w fun e w' => e = .returned (.tuple #[.string s, .int .i64 c]) ∧ Below w.heap.size w w' := by
  have H : Hid (prE (k, x.data.toList) = (s.data.toList, c)) := h
  have HB : Hid (∀ (y : ByteArray) (d : Int), prE (k, x.data.toList) = (y.data.toList, d) → Ending.returned (.tuple #[.string y, .int .i64 d]) = .returned (.tuple #[.string s, .int .i64 c])) := by
    intro y d hy
    rw [h] at hy
    exact et_two (Prod.mk.inj hy).1.symm (Prod.mk.inj hy).2.symm
  have hw0 : Below w.heap.size w (w.alloc (.cells #[.bool k, .string x] 30)) := (Below.refl _ w).alloc (Nat.le_refl _) _
  clear h
  by_cases hx : x.size ≤ 100
  · have hxi : ¬ (100 : Int) < (x.size : Int) := by omega
    have hl : ¬ 100 < x.data.toList.length := by rw [size_list]; omega
    cases hp : allPlain x.data.toList
    · have HP : Hid (allPlain x.data.toList = false) := hp
      have HR : Hid (prE (k, x.data.toList) = ((⟨#[]⟩ : ByteArray).data.toList, 3)) := by
        show _ = _
        unfold prE
        rw [if_neg hl, ← et_parts, hp]; rfl
      clear hp hl
      go_enter Tryz.func63, Tryz.ntmps63
      go_wp2_with fail
      refine (rplain_any x _ (by unfold maxLen; omega)).mono ?_
      rintro e w1 ⟨rfl, rfl⟩
      rw [HP.out]
      go_wp2_with fail
      go_ret2
      exact ⟨HB.out ⟨#[]⟩ 3 HR.out, hw0⟩
    · have HP : Hid (allPlain x.data.toList = true) := hp
      cases hq : Lib.containsAny x.data.toList [32, 9, 34]
      · have HQ : Hid (Lib.containsAny x.data.toList [32, 9, 34] = false) := hq
        cases k
        · have HR : Hid (prE (false, x.data.toList) = ((⟨#[34]⟩ ++ x ++ ⟨#[34]⟩ : ByteArray).data.toList, 0)) := by
            show _ = _
            unfold prE
            rw [if_neg hl, ← et_parts, hp, hq, ByteArray.data_append, Array.toList_append, ByteArray.data_append, Array.toList_append]
            simp [prG]
          have hz1 : ¬ 9223372036854775807 < 1 + x.size := by omega
          clear hp hq hl
          go_enter Tryz.func63, Tryz.ntmps63
          go_wp2_with fail
          refine (rplain_any x _ (by unfold maxLen; omega)).mono ?_
          rintro e w1 ⟨rfl, rfl⟩
          rw [HP.out]
          go_wp2_with fail
          refine (Tryz.strings_ContainsAny_laid x ⟨#[32, 9, 34]⟩ _ (by omega) (by decide) (et_low _ HP.out) et_low3).mono ?_
          rintro e w2 ⟨rfl, hb2⟩
          rw [show (⟨#[32, 9, 34]⟩ : ByteArray).data.toList = [32, 9, 34] from rfl, HQ.out]
          have hw2 := hw0.trans (hb2.mono hw0.size)
          have hc1 : w2.cell? ⟨w.heap.size, 0, none⟩ = some (.bool false) := (hb2.cell (p := ⟨w.heap.size, 0, none⟩) (by simp)).trans (by simp)
          have hc2 : w2.cell? ⟨w.heap.size, 1, none⟩ = some (.string x) := (hb2.cell (p := ⟨w.heap.size, 1, none⟩) (by simp)).trans (by simp)
          go_wp2_with fail
          go_ret2
          exact ⟨HB.out _ 0 HR.out, hw2⟩
        · have HR : Hid (prE (true, x.data.toList) = ((⟨#[87, 47, 34]⟩ ++ x ++ ⟨#[34]⟩ : ByteArray).data.toList, 0)) := by
            show _ = _
            unfold prE
            rw [if_neg hl, ← et_parts, hp, hq, ByteArray.data_append, Array.toList_append, ByteArray.data_append, Array.toList_append]
            simp [prG]
          have hz1 : ¬ 9223372036854775807 < 3 + x.size := by omega
          clear hp hq hl
          go_enter Tryz.func63, Tryz.ntmps63
          go_wp2_with fail
          refine (rplain_any x _ (by unfold maxLen; omega)).mono ?_
          rintro e w1 ⟨rfl, rfl⟩
          rw [HP.out]
          go_wp2_with fail
          refine (Tryz.strings_ContainsAny_laid x ⟨#[32, 9, 34]⟩ _ (by omega) (by decide) (et_low _ HP.out) et_low3).mono ?_
          rintro e w2 ⟨rfl, hb2⟩
          rw [show (⟨#[32, 9, 34]⟩ : ByteArray).data.toList = [32, 9, 34] from rfl, HQ.out]
          have hw2 := hw0.trans (hb2.mono hw0.size)
          have hc1 : w2.cell? ⟨w.heap.size, 0, none⟩ = some (.bool true) := (hb2.cell (p := ⟨w.heap.size, 0, none⟩) (by simp)).trans (by simp)
          have hc2 : w2.cell? ⟨w.heap.size, 1, none⟩ = some (.string x) := (hb2.cell (p := ⟨w.heap.size, 1, none⟩) (by simp)).trans (by simp)
          go_wp2_with fail
          go_ret2
          exact ⟨HB.out _ 0 HR.out, hw2⟩
      · have HQ : Hid (Lib.containsAny x.data.toList [32, 9, 34] = true) := hq
        have HR : Hid (prE (k, x.data.toList) = ((⟨#[]⟩ : ByteArray).data.toList, 3)) := by
          show _ = _
          unfold prE
          rw [if_neg hl, ← et_parts, hp, hq]; rfl
        clear hp hq hl
        go_enter Tryz.func63, Tryz.ntmps63
        go_wp2_with fail
        refine (rplain_any x _ (by unfold maxLen; omega)).mono ?_
        rintro e w1 ⟨rfl, rfl⟩
        rw [HP.out]
        go_wp2_with fail
        refine (Tryz.strings_ContainsAny_laid x ⟨#[32, 9, 34]⟩ _ (by omega) (by decide) (et_low _ HP.out) et_low3).mono ?_
        rintro e w2 ⟨rfl, hb2⟩
        rw [show (⟨#[32, 9, 34]⟩ : ByteArray).data.toList = [32, 9, 34] from rfl, HQ.out]
        have hw2 := hw0.trans (hb2.mono hw0.size)
        go_wp2_with fail
        go_ret2
        exact ⟨HB.out ⟨#[]⟩ 3 HR.out, hw2⟩
  · have hxi : (100 : Int) < (x.size : Int) := by omega
    have HR : Hid (prE (k, x.data.toList) = ((⟨#[]⟩ : ByteArray).data.toList, 2)) := by
      show _ = _
      unfold prE
      rw [if_pos (by rw [size_list]; omega)]
    go_enter Tryz.func63, Tryz.ntmps63
    go_wp2_with fail
    go_ret2
    exact ⟨HB.out ⟨#[]⟩ 2 HR.out, hw0⟩
set_option maxHeartbeats 2000000 in
set_option maxRecDepth 100000 in
theorem rtparse_at (s x : ByteArray) (k : Bool) (c : Int) (h : paE s.data.toList = ((k, x.data.toList), c)) (w : World) (hs : s.size ≤ 140737488351232) :
    Calls Tryz.prog 39 #[.string s] w fun e w' => e = .returned (.tuple #[.agg #[.bool k, .string x], .int .i64 c]) ∧ Below w.heap.size w w' := by
  obtain ⟨wk, hwk⟩ : ∃ wk, Lib.hasPrefix s.data.toList [87, 47] = wk := ⟨_, rfl⟩
  have HWK : Hid (Lib.hasPrefix s.data.toList [87, 47] = wk) := hwk
  obtain ⟨r, hr⟩ : ∃ r : ByteArray, (⟨(Lib.trimPrefix s.data.toList [87, 47]).toArray⟩ : ByteArray) = r := ⟨_, rfl⟩
  have HRE : Hid ((⟨(Lib.trimPrefix s.data.toList [87, 47]).toArray⟩ : ByteArray) = r) := hr
  have hrl : r.data.toList = restE s.data.toList := by
    rw [← hr]
    show Lib.trimPrefix _ _ = _
    unfold Lib.trimPrefix restE weakB
    rfl
  have hrs : r.size ≤ s.size := by
    rw [← size_list, ← size_list, hrl]
    unfold restE; split
    · rw [List.length_drop]; omega
    · exact Nat.le_refl _
  by_cases h1 : 1 < r.size
  · obtain ⟨y, hy⟩ : ∃ y, y = r.extract 1 (r.size - 1) := ⟨_, rfl⟩
    have hyl : textE (restE s.data.toList) = y.data.toList := by
      rw [hy, Lib.extract_data, ← hrl]
      unfold textE
      rw [if_pos (by rw [size_list]; omega), size_list, Nat.sub_sub]
    have h1i : (1 : Int) < (r.size : Int) := by omega
    have hsl : ∀ w, (Instr.slice 9 (.string r) (some (.int .i64 1)) (some (.int .i64 ((r.size : Int) - 1))) none).run Tryz.prog w = .ok (.string y) w := fun w => by
      obtain ⟨q, hq, _, hsl⟩ := slice_part r 1 (r.size - 1) (by omega) (by omega)
      have hqe : q = y := by apply ByteArray.ext; apply Array.ext'; rw [hq, hy, Lib.extract_data]
      have := hsl w
      rw [hqe, show ((r.size - 1 : Nat) : Int) = (r.size : Int) - 1 by omega] at this
      exact this
    obtain ⟨u, d, hu⟩ := pair_bi (prE (wk, y.data.toList))
    have HPR : Hid (prE (wk, y.data.toList) = (u.data.toList, d)) := hu
    have hcand : candE s.data.toList = (wk, y.data.toList) := by unfold candE weakB; rw [hwk, hyl]
    have HFIN : Hid (d = 0 → u = s → wk = k ∧ y = x ∧ c = 0) := by
      intro e1 e2
      subst e1 e2
      unfold paE at h
      rw [hcand, if_pos hu] at h
      have h2 := (Prod.mk.inj h).1
      exact ⟨(Prod.mk.inj h2).1, ByteArray.ext (Array.ext' (Prod.mk.inj h2).2), (Prod.mk.inj h).2.symm⟩
    have HBAD : Hid (¬ (d = 0 ∧ u = s) → k = false ∧ x = ⟨#[]⟩ ∧ c = 3) := by
      intro e
      unfold paE at h
      rw [hcand, hu, if_neg (fun e2 => e ⟨(Prod.mk.inj e2).2, ByteArray.ext (Array.ext' (Prod.mk.inj e2).1)⟩)] at h
      have h2 := (Prod.mk.inj h).1
      exact ⟨(Prod.mk.inj h2).1.symm, ByteArray.ext (Array.ext' (Prod.mk.inj h2).2.symm), (Prod.mk.inj h).2.symm⟩
    clear hy hr hrl hyl hwk h hu hcand h1
    go_enter Tryz.func39, Tryz.ntmps39
    go_wp2_with fail
    refine (Tryz.strings_HasPrefix s ⟨#[87, 47]⟩ _).mono ?_
    rintro e w1 ⟨rfl, rfl⟩
    rw [show (⟨#[87, 47]⟩ : ByteArray).data.toList = [87, 47] from rfl, HWK.out]
    go_wp2_with fail
    refine (Tryz.strings_TrimPrefix s ⟨#[87, 47]⟩ _).mono ?_
    rintro e w2 ⟨rfl, rfl⟩
    rw [show (⟨#[87, 47]⟩ : ByteArray).data.toList = [87, 47] from rfl, HRE.out]
    go_wp2_with fail
    refine (rtprint_at wk y u d HPR.out _).mono ?_
    rintro e w3 ⟨rfl, hb3⟩
    have hf0 : w3.cell? ⟨w.heap.size, 0, none⟩ = some (.bool false) := (hb3.cell (p := ⟨w.heap.size, 0, none⟩) (by simp; omega)).trans (by simp)
    have hf1 : w3.cell? ⟨w.heap.size, 1, none⟩ = some (.string ⟨#[]⟩) := (hb3.cell (p := ⟨w.heap.size, 1, none⟩) (by simp; omega)).trans (by simp)
    have hf2 : w3.cell? ⟨w.heap.size + 1, 0, none⟩ = some (.bool wk) := (hb3.cell (p := ⟨w.heap.size + 1, 0, none⟩) (by simp)).trans (by simp)
    have hf3 : w3.cell? ⟨w.heap.size + 1, 1, none⟩ = some (.string y) := (hb3.cell (p := ⟨w.heap.size + 1, 1, none⟩) (by simp)).trans (by simp)
    have hfz : ∀ o, w3.frozen? ⟨w.heap.size, o, none⟩ = false := fun o => (hb3.frozen (p := ⟨w.heap.size, o, none⟩) (by simp; omega)).trans (by simp)
    have hz0 := hfz 0
    have hz1 := hfz 1
    have hbel : Below w.heap.size w w3 := (((Below.refl _ w).alloc (Nat.le_refl _) _).alloc (by simp) _).trans (hb3.mono (by simp; omega))
    have hgs3 : w.heap.size + 1 < w3.heap.size := by have := hb3.size; simp at this; omega
    clear hb3 hfz
    by_cases hd : d = 0
    · subst hd
      by_cases hus : u = s
      · subst hus
        obtain ⟨rfl, rfl, rfl⟩ := HFIN.out rfl rfl
        go_wp2_with fail
        obtain ⟨c0, c1⟩ := two_set (.bool wk) (.string y) hf0 hf1
        obtain ⟨w4, hw4⟩ : ∃ w4, w4 = (w3.setCell ⟨w.heap.size, 0, none⟩ (.bool wk)).setCell ⟨w.heap.size, 1, none⟩ (.string y) := ⟨_, rfl⟩
        have hb4 : Below w.heap.size w w4 := by rw [hw4]; exact (hbel.setCell (p := ⟨w.heap.size, 0, none⟩) (Nat.le_refl _) _).setCell (p := ⟨w.heap.size, 1, none⟩) (Nat.le_refl _) _
        rw [← hw4] at c0 c1 ⊢
        clear hw4
        refine bodyPost_ret (by simp [results, Tryz.results39, go_sem, c0, c1]; try rfl) rfl ?_
        exact ⟨rfl, hb4⟩
      · have hne : (u.toList == s.toList) = false := by
          rw [beq_eq_false_iff_ne, ByteArray.toList_eq, ByteArray.toList_eq]
          intro e; apply hus; apply ByteArray.ext; apply Array.ext'; exact e
        obtain ⟨rfl, rfl, rfl⟩ := HBAD.out (fun e => hus e.2)
        go_wp2_with fail
        obtain ⟨c0, c1⟩ := two_set (.bool false) (.string ⟨#[]⟩) hf0 hf1
        obtain ⟨w4, hw4⟩ : ∃ w4, w4 = (w3.setCell ⟨w.heap.size, 0, none⟩ (.bool false)).setCell ⟨w.heap.size, 1, none⟩ (.string ⟨#[]⟩) := ⟨_, rfl⟩
        have hb4 : Below w.heap.size w w4 := by rw [hw4]; exact (hbel.setCell (p := ⟨w.heap.size, 0, none⟩) (Nat.le_refl _) _).setCell (p := ⟨w.heap.size, 1, none⟩) (Nat.le_refl _) _
        rw [← hw4] at c0 c1 ⊢
        clear hw4
        refine bodyPost_ret (by simp [results, Tryz.results39, go_sem, c0, c1]; try rfl) rfl ?_
        exact ⟨rfl, hb4⟩
    · have hdb : (d == 0) = false := by simp [hd]
      obtain ⟨rfl, rfl, rfl⟩ := HBAD.out (fun e => hd e.1)
      go_wp2_with fail
      obtain ⟨c0, c1⟩ := two_set (.bool false) (.string ⟨#[]⟩) hf0 hf1
      obtain ⟨w4, hw4⟩ : ∃ w4, w4 = (w3.setCell ⟨w.heap.size, 0, none⟩ (.bool false)).setCell ⟨w.heap.size, 1, none⟩ (.string ⟨#[]⟩) := ⟨_, rfl⟩
      have hb4 : Below w.heap.size w w4 := by rw [hw4]; exact (hbel.setCell (p := ⟨w.heap.size, 0, none⟩) (Nat.le_refl _) _).setCell (p := ⟨w.heap.size, 1, none⟩) (Nat.le_refl _) _
      rw [← hw4] at c0 c1 ⊢
      clear hw4
      refine bodyPost_ret (by simp [results, Tryz.results39, go_sem, c0, c1]; try rfl) rfl ?_
      exact ⟨rfl, hb4⟩
  · have hyl : textE (restE s.data.toList) = (⟨#[]⟩ : ByteArray).data.toList := by
      rw [← hrl]
      unfold textE
      rw [if_neg (by rw [size_list]; omega)]
    have h1i : ¬ (1 : Int) < (r.size : Int) := by omega
    obtain ⟨u, d, hu⟩ := pair_bi (prE (wk, (⟨#[]⟩ : ByteArray).data.toList))
    have HPR : Hid (prE (wk, (⟨#[]⟩ : ByteArray).data.toList) = (u.data.toList, d)) := hu
    have hcand : candE s.data.toList = (wk, (⟨#[]⟩ : ByteArray).data.toList) := by unfold candE weakB; rw [hwk, hyl]
    have HFIN : Hid (d = 0 → u = s → wk = k ∧ ⟨#[]⟩ = x ∧ c = 0) := by
      intro e1 e2
      subst e1 e2
      unfold paE at h
      rw [hcand, if_pos hu] at h
      have h2 := (Prod.mk.inj h).1
      exact ⟨(Prod.mk.inj h2).1, ByteArray.ext (Array.ext' (Prod.mk.inj h2).2), (Prod.mk.inj h).2.symm⟩
    have HBAD : Hid (¬ (d = 0 ∧ u = s) → k = false ∧ x = ⟨#[]⟩ ∧ c = 3) := by
      intro e
      unfold paE at h
      rw [hcand, hu, if_neg (fun e2 => e ⟨(Prod.mk.inj e2).2, ByteArray.ext (Array.ext' (Prod.mk.inj e2).1)⟩)] at h
      have h2 := (Prod.mk.inj h).1
      exact ⟨(Prod.mk.inj h2).1.symm, ByteArray.ext (Array.ext' (Prod.mk.inj h2).2.symm), (Prod.mk.inj h).2.symm⟩
    clear hr hrl hyl hwk h hu hcand h1
    go_enter Tryz.func39, Tryz.ntmps39
    go_wp2_with fail
    refine (Tryz.strings_HasPrefix s ⟨#[87, 47]⟩ _).mono ?_
    rintro e w1 ⟨rfl, rfl⟩
    rw [show (⟨#[87, 47]⟩ : ByteArray).data.toList = [87, 47] from rfl, HWK.out]
    go_wp2_with fail
    refine (Tryz.strings_TrimPrefix s ⟨#[87, 47]⟩ _).mono ?_
    rintro e w2 ⟨rfl, rfl⟩
    rw [show (⟨#[87, 47]⟩ : ByteArray).data.toList = [87, 47] from rfl, HRE.out]
    go_wp2_with fail
    refine (rtprint_at wk ⟨#[]⟩ u d HPR.out _).mono ?_
    rintro e w3 ⟨rfl, hb3⟩
    have hf0 : w3.cell? ⟨w.heap.size, 0, none⟩ = some (.bool false) := (hb3.cell (p := ⟨w.heap.size, 0, none⟩) (by simp; omega)).trans (by simp)
    have hf1 : w3.cell? ⟨w.heap.size, 1, none⟩ = some (.string ⟨#[]⟩) := (hb3.cell (p := ⟨w.heap.size, 1, none⟩) (by simp; omega)).trans (by simp)
    have hf2 : w3.cell? ⟨w.heap.size + 1, 0, none⟩ = some (.bool wk) := (hb3.cell (p := ⟨w.heap.size + 1, 0, none⟩) (by simp)).trans (by simp)
    have hf3 : w3.cell? ⟨w.heap.size + 1, 1, none⟩ = some (.string ⟨#[]⟩) := (hb3.cell (p := ⟨w.heap.size + 1, 1, none⟩) (by simp)).trans (by simp)
    have hfz : ∀ o, w3.frozen? ⟨w.heap.size, o, none⟩ = false := fun o => (hb3.frozen (p := ⟨w.heap.size, o, none⟩) (by simp; omega)).trans (by simp)
    have hz0 := hfz 0
    have hz1 := hfz 1
    have hbel : Below w.heap.size w w3 := (((Below.refl _ w).alloc (Nat.le_refl _) _).alloc (by simp) _).trans (hb3.mono (by simp; omega))
    have hgs3 : w.heap.size + 1 < w3.heap.size := by have := hb3.size; simp at this; omega
    clear hb3 hfz
    by_cases hd : d = 0
    · subst hd
      by_cases hus : u = s
      · subst hus
        obtain ⟨rfl, rfl, rfl⟩ := HFIN.out rfl rfl
        go_wp2_with fail
        obtain ⟨c0, c1⟩ := two_set (.bool wk) (.string ⟨#[]⟩) hf0 hf1
        obtain ⟨w4, hw4⟩ : ∃ w4, w4 = (w3.setCell ⟨w.heap.size, 0, none⟩ (.bool wk)).setCell ⟨w.heap.size, 1, none⟩ (.string ⟨#[]⟩) := ⟨_, rfl⟩
        have hb4 : Below w.heap.size w w4 := by rw [hw4]; exact (hbel.setCell (p := ⟨w.heap.size, 0, none⟩) (Nat.le_refl _) _).setCell (p := ⟨w.heap.size, 1, none⟩) (Nat.le_refl _) _
        rw [← hw4] at c0 c1 ⊢
        clear hw4
        refine bodyPost_ret (by simp [results, Tryz.results39, go_sem, c0, c1]; try rfl) rfl ?_
        exact ⟨rfl, hb4⟩
      · have hne : (u.toList == s.toList) = false := by
          rw [beq_eq_false_iff_ne, ByteArray.toList_eq, ByteArray.toList_eq]
          intro e; apply hus; apply ByteArray.ext; apply Array.ext'; exact e
        obtain ⟨rfl, rfl, rfl⟩ := HBAD.out (fun e => hus e.2)
        go_wp2_with fail
        obtain ⟨c0, c1⟩ := two_set (.bool false) (.string ⟨#[]⟩) hf0 hf1
        obtain ⟨w4, hw4⟩ : ∃ w4, w4 = (w3.setCell ⟨w.heap.size, 0, none⟩ (.bool false)).setCell ⟨w.heap.size, 1, none⟩ (.string ⟨#[]⟩) := ⟨_, rfl⟩
        have hb4 : Below w.heap.size w w4 := by rw [hw4]; exact (hbel.setCell (p := ⟨w.heap.size, 0, none⟩) (Nat.le_refl _) _).setCell (p := ⟨w.heap.size, 1, none⟩) (Nat.le_refl _) _
        rw [← hw4] at c0 c1 ⊢
        clear hw4
        refine bodyPost_ret (by simp [results, Tryz.results39, go_sem, c0, c1]; try rfl) rfl ?_
        exact ⟨rfl, hb4⟩
    · have hdb : (d == 0) = false := by simp [hd]
      obtain ⟨rfl, rfl, rfl⟩ := HBAD.out (fun e => hd e.1)
      go_wp2_with fail
      obtain ⟨c0, c1⟩ := two_set (.bool false) (.string ⟨#[]⟩) hf0 hf1
      obtain ⟨w4, hw4⟩ : ∃ w4, w4 = (w3.setCell ⟨w.heap.size, 0, none⟩ (.bool false)).setCell ⟨w.heap.size, 1, none⟩ (.string ⟨#[]⟩) := ⟨_, rfl⟩
      have hb4 : Below w.heap.size w w4 := by rw [hw4]; exact (hbel.setCell (p := ⟨w.heap.size, 0, none⟩) (Nat.le_refl _) _).setCell (p := ⟨w.heap.size, 1, none⟩) (Nat.le_refl _) _
      rw [← hw4] at c0 c1 ⊢
      clear hw4
      refine bodyPost_ret (by simp [results, Tryz.results39, go_sem, c0, c1]; try rfl) rfl ?_
      exact ⟨rfl, hb4⟩
end Go.Proofs.YtigbjhkkbgdkcaaGreatDoor

/-
  What Trim of the document's answers computes, by recursion on the text's length; a text is no longer than Go allows.
-/
namespace Go.Proofs.YtigbjhkkbgdkcaaGreatDoor
open Go.RowKit

theorem drop_data (s : ByteArray) : (s.extract 1 s.size).data.toList = s.data.toList.drop 1 := by
  rw [Lib.extract_data, List.take_of_length_le (by rw [List.length_drop, size_list]; omega)]
theorem take_data (s : ByteArray) : (s.extract 0 (s.size - 1)).data.toList = s.data.toList.take (s.data.toList.length - 1) := by
  rw [Lib.extract_data, List.drop_zero, size_list]; rfl

set_option maxHeartbeats 2000000 in
set_option maxRecDepth 100000 in
theorem rtrim_at (n : Nat) : ∀ (s t : ByteArray) (w : World), s.size ≤ n → n ≤ 9223372036854775807 → t.data.toList = trimL s.data.toList →
    Calls Tryz.prog 60 #[.string s] w fun e w' => e = .returned (.string t) ∧ Below w.heap.size w w' := by
  induction n using Nat.strongRecOn with
  | _ n ih =>
    intro s t w hn hN ht
    have IH : Hid (∀ m, m < n → ∀ (s t : ByteArray) (w : World), s.size ≤ m → m ≤ 9223372036854775807 → t.data.toList = trimL s.data.toList → Calls Tryz.prog 60 #[.string s] w fun e w' => e = .returned (.string t) ∧ Below w.heap.size w w') :=
      ih
    clear ih
    have HT : Hid (t.data.toList = trimL s.data.toList) := ht
    clear ht
    go_enter Tryz.func60, Tryz.ntmps60
    go_wp2_with fail
    go_loop [7] (fun i => ∃ k : Nat, k ≤ 2 ∧ i = .int .i64 k ∧ (1 ≤ k → Lib.hasPrefix s.data.toList [32] = false ∧ Lib.hasSuffix s.data.toList [32] = false) ∧ (2 ≤ k → Lib.hasPrefix s.data.toList [9] = false ∧ Lib.hasSuffix s.data.toList [9] = false)) (fun i => 2 - (intOf i).toNat)
    case atStart => exact ⟨0, by omega, rfl, fun h => absurd h (by omega), fun h => absurd h (by omega)⟩
    case round =>
      obtain ⟨k, hk, rfl, h1, h2⟩ := hrel
      have HH1 : Hid (1 ≤ k → Lib.hasPrefix s.data.toList [32] = false ∧ Lib.hasSuffix s.data.toList [32] = false) := h1
      have HH2 : Hid (2 ≤ k → Lib.hasPrefix s.data.toList [9] = false ∧ Lib.hasSuffix s.data.toList [9] = false) := h2
      clear h1 h2
      rcases (show k = 0 ∨ k = 1 ∨ k = 2 from by omega) with rfl | rfl | rfl
      · cases hp : Lib.hasPrefix s.data.toList [32]
        · cases hq : Lib.hasSuffix s.data.toList [32]
          · have HP : Hid (Lib.hasPrefix s.data.toList [32] = false) := hp
            have HQ : Hid (Lib.hasSuffix s.data.toList [32] = false) := hq
            clear hp hq
            go_wp2_with fail
            refine (Tryz.strings_HasPrefix s ⟨#[32]⟩ _).mono ?_
            rintro e w1 ⟨rfl, rfl⟩
            rw [show Lib.hasPrefix s.data.toList (⟨#[32]⟩ : ByteArray).data.toList = false from HP.out]
            go_wp2_with fail
            refine (Tryz.strings_HasSuffix s ⟨#[32]⟩ _ (by omega)).mono ?_
            rintro e w1 ⟨rfl, rfl⟩
            rw [show Lib.hasSuffix s.data.toList (⟨#[32]⟩ : ByteArray).data.toList = false from HQ.out]
            go_wp2_with fail
            go_round
            case rel => exact ⟨1, by omega, rfl, fun _ => by first | exact ⟨HP.out, HQ.out⟩ | simp, fun h => absurd h (by omega)⟩
            case measure => simp [intOf]
          · obtain ⟨e1, e2⟩ := trimL_suf _ 32 rfl hq
            rw [size_list] at e2
            have HP : Hid (Lib.hasPrefix s.data.toList [32] = false) := hp
            have HQ : Hid (Lib.hasSuffix s.data.toList [32] = true) := hq
            have HR : Hid (t.data.toList = trimL (s.extract 0 (s.size - 1)).data.toList) := by show _ = _; rw [take_data, e1]; exact HT.out
            have hz : (s.extract 0 (s.size - 1)).size ≤ n - 1 := by rw [ByteArray.size_extract]; omega
            clear hp hq e1
            go_wp2_with fail
            refine (Tryz.strings_HasPrefix s ⟨#[32]⟩ _).mono ?_
            rintro e w1 ⟨rfl, rfl⟩
            rw [show Lib.hasPrefix s.data.toList (⟨#[32]⟩ : ByteArray).data.toList = false from HP.out]
            go_wp2_with fail
            refine (Tryz.strings_HasSuffix s ⟨#[32]⟩ _ (by omega)).mono ?_
            rintro e w1 ⟨rfl, rfl⟩
            rw [show Lib.hasSuffix s.data.toList (⟨#[32]⟩ : ByteArray).data.toList = true from HQ.out]
            go_wp2_with fail
            refine (IH.out (n - 1) (by omega) _ t _ hz (by omega) HR.out).mono ?_
            rintro e w2 ⟨rfl, hb⟩
            go_wp2_with fail
            go_ret
            exact ⟨rfl, ((Below.refl _ w).alloc (Nat.le_refl _) _).trans (hb.mono (by simp))⟩
        · obtain ⟨e1, e2⟩ := trimL_pre _ 32 rfl hp
          rw [size_list] at e2
          have HP : Hid (Lib.hasPrefix s.data.toList [32] = true) := hp
          have HR : Hid (t.data.toList = trimL (s.extract 1 s.size).data.toList) := by show _ = _; rw [drop_data, e1]; exact HT.out
          have hz : (s.extract 1 s.size).size ≤ n - 1 := by rw [ByteArray.size_extract]; omega
          clear hp e1
          go_wp2_with fail
          refine (Tryz.strings_HasPrefix s ⟨#[32]⟩ _).mono ?_
          rintro e w1 ⟨rfl, rfl⟩
          rw [show Lib.hasPrefix s.data.toList (⟨#[32]⟩ : ByteArray).data.toList = true from HP.out]
          go_wp2_with fail
          refine (IH.out (n - 1) (by omega) _ t _ hz (by omega) HR.out).mono ?_
          rintro e w2 ⟨rfl, hb⟩
          go_wp2_with fail
          go_ret
          exact ⟨rfl, ((Below.refl _ w).alloc (Nat.le_refl _) _).trans (hb.mono (by simp))⟩
      · cases hp : Lib.hasPrefix s.data.toList [9]
        · cases hq : Lib.hasSuffix s.data.toList [9]
          · have HP : Hid (Lib.hasPrefix s.data.toList [9] = false) := hp
            have HQ : Hid (Lib.hasSuffix s.data.toList [9] = false) := hq
            clear hp hq
            go_wp2_with fail
            refine (Tryz.strings_HasPrefix s ⟨#[9]⟩ _).mono ?_
            rintro e w1 ⟨rfl, rfl⟩
            rw [show Lib.hasPrefix s.data.toList (⟨#[9]⟩ : ByteArray).data.toList = false from HP.out]
            go_wp2_with fail
            refine (Tryz.strings_HasSuffix s ⟨#[9]⟩ _ (by omega)).mono ?_
            rintro e w1 ⟨rfl, rfl⟩
            rw [show Lib.hasSuffix s.data.toList (⟨#[9]⟩ : ByteArray).data.toList = false from HQ.out]
            go_wp2_with fail
            go_round
            case rel => exact ⟨2, by omega, rfl, fun _ => HH1.out (by omega), fun _ => by first | exact ⟨HP.out, HQ.out⟩ | simp⟩
            case measure => simp [intOf]
          · obtain ⟨e1, e2⟩ := trimL_suf _ 9 rfl hq
            rw [size_list] at e2
            have HP : Hid (Lib.hasPrefix s.data.toList [9] = false) := hp
            have HQ : Hid (Lib.hasSuffix s.data.toList [9] = true) := hq
            have HR : Hid (t.data.toList = trimL (s.extract 0 (s.size - 1)).data.toList) := by show _ = _; rw [take_data, e1]; exact HT.out
            have hz : (s.extract 0 (s.size - 1)).size ≤ n - 1 := by rw [ByteArray.size_extract]; omega
            clear hp hq e1
            go_wp2_with fail
            refine (Tryz.strings_HasPrefix s ⟨#[9]⟩ _).mono ?_
            rintro e w1 ⟨rfl, rfl⟩
            rw [show Lib.hasPrefix s.data.toList (⟨#[9]⟩ : ByteArray).data.toList = false from HP.out]
            go_wp2_with fail
            refine (Tryz.strings_HasSuffix s ⟨#[9]⟩ _ (by omega)).mono ?_
            rintro e w1 ⟨rfl, rfl⟩
            rw [show Lib.hasSuffix s.data.toList (⟨#[9]⟩ : ByteArray).data.toList = true from HQ.out]
            go_wp2_with fail
            refine (IH.out (n - 1) (by omega) _ t _ hz (by omega) HR.out).mono ?_
            rintro e w2 ⟨rfl, hb⟩
            go_wp2_with fail
            go_ret
            exact ⟨rfl, ((Below.refl _ w).alloc (Nat.le_refl _) _).trans (hb.mono (by simp))⟩
        · obtain ⟨e1, e2⟩ := trimL_pre _ 9 rfl hp
          rw [size_list] at e2
          have HP : Hid (Lib.hasPrefix s.data.toList [9] = true) := hp
          have HR : Hid (t.data.toList = trimL (s.extract 1 s.size).data.toList) := by show _ = _; rw [drop_data, e1]; exact HT.out
          have hz : (s.extract 1 s.size).size ≤ n - 1 := by rw [ByteArray.size_extract]; omega
          clear hp e1
          go_wp2_with fail
          refine (Tryz.strings_HasPrefix s ⟨#[9]⟩ _).mono ?_
          rintro e w1 ⟨rfl, rfl⟩
          rw [show Lib.hasPrefix s.data.toList (⟨#[9]⟩ : ByteArray).data.toList = true from HP.out]
          go_wp2_with fail
          refine (IH.out (n - 1) (by omega) _ t _ hz (by omega) HR.out).mono ?_
          rintro e w2 ⟨rfl, hb⟩
          go_wp2_with fail
          go_ret
          exact ⟨rfl, ((Below.refl _ w).alloc (Nat.le_refl _) _).trans (hb.mono (by simp))⟩
      · go_wp2_with fail
        go_ret
        obtain ⟨p1, p2⟩ := HH1.out (by omega)
        obtain ⟨p3, p4⟩ := HH2.out (by omega)
        refine ⟨ret_str ?_, (Below.refl _ w).alloc (Nat.le_refl _) _⟩
        apply ByteArray.ext
        apply Array.ext'
        rw [HT.out, trimL_none _ p1 p2 p3 p4]
end Go.Proofs.YtigbjhkkbgdkcaaGreatDoor

/-
  What TagList of the document's answers computes.
-/
namespace Go.Proofs.YtigbjhkkbgdkcaaGreatDoor
open Go.RowKit

theorem el_set (ps : List (List UInt8)) (cur : List UInt8) (c : UInt8) : (strs (ps ++ [cur])).set ps.length (.string ⟨(cur ++ [c]).toArray⟩) = strs (ps ++ [cur ++ [c]]) := by
  rw [← strs_snoc, ← strs_snoc, List.set_append_right _ _ (by rw [strs_length]; exact Nat.le_refl _), strs_length, Nat.sub_self]; rfl
theorem el_get (ps : List (List UInt8)) (cur : List UInt8) : (strs (ps ++ [cur]))[ps.length]? = some (.string ⟨cur.toArray⟩) := by
  rw [← strs_snoc, List.getElem?_append_right (by rw [strs_length]; exact Nat.le_refl _), strs_length, Nat.sub_self]; rfl
theorem el_app (cur : List UInt8) (c : UInt8) : (⟨cur.toArray⟩ : ByteArray) ++ ⟨#[c]⟩ = ⟨(cur ++ [c]).toArray⟩ := by
  rw [ByteArray.mk_append_mk]
theorem el_form {w : World} {B : Nat} {v : Value} {n : Nat} {xs : List Value} (h : w.ownsRow B 9 1 v n xs) (hn : 0 < n) : ∃ g cap, v = .slice (some ⟨g, 0, none⟩) n cap ∧ B ≤ g ∧ g < w.heap.size ∧ n ≤ cap ∧ cap ≤ maxLen := by
  rcases h.2 with ⟨_, h0⟩ | ⟨g, cap, cur, hv, hb, hg, hnc, hcm, _, _⟩
  · omega
  · exact ⟨g, cap, hv, hb, (Array.getElem?_eq_some_iff.1 hg).1, hnc, hcm⟩
theorem el_one (s : ByteArray) (k : Nat) (h : k < s.size) (d : UInt8) : ((s.extract k (k + 1)).toList == [d]) = (s[k] == d) := by
  have e : (s.extract k (k + 1)).toList = [s[k]] := by rw [extract_one s k h, ByteArray.toList_eq]
  rw [e]; simp
set_option maxHeartbeats 8000000 in
set_option maxRecDepth 100000 in
theorem rtlist_any (s : ByteArray) (w : World) :
    Calls Tryz.prog 38 #[.string s] w fun e w' => ∃ v, e = .returned (.tuple #[v, .bool (liE s.data.toList).1.2, .int .i64 (liE s.data.toList).2]) ∧
      w'.ownsRow w.heap.size 30 2 v (liE s.data.toList).1.1.length (tgs (liE s.data.toList).1.1) ∧ Below w.heap.size w w' := by
  obtain ⟨i0, hi, hz0, hz1, hz2⟩ := info_parts info9
  obtain ⟨i1, hi1, hy0, hy1, hy2⟩ := info_parts infoTg
  by_cases hs : s.size ≤ 1000
  · have hsi : ¬ (1000 : Int) < (s.size : Int) := by omega
    by_cases hst : s.data.toList = [42]
    · have hse : s = ⟨#[42]⟩ := by apply ByteArray.ext; apply Array.ext'; exact hst
      subst hse
      have HR : Hid (liE (⟨#[42]⟩ : ByteArray).data.toList = (([], true), 0)) := rfl
      clear hst
      go_enter Tryz.func38, Tryz.ntmps38
      go_wp2_with fail
      go_ret3
      rw [HR.out]
      exact ⟨_, rfl, World.ownsRow_nil _ _ _ _, Below.refl _ _⟩
    · have hne : (s.toList == [42]) = false := by rw [ByteArray.toList_eq, beq_eq_false_iff_ne]; exact hst
      have HNE : Hid (¬ s.data.toList = [42]) := hst
      have hst0 : (w.alloc (.cells #[.string ⟨#[]⟩] 9)).ownsRow w.heap.size 9 1 (.slice (some ⟨w.heap.size, 0, none⟩) 1 1) (0 + 1) (strs ([] ++ [([] : List UInt8)])) :=
        World.ownsRow_lit w #[.string ⟨#[]⟩] 1 (Nat.le_refl _) (by unfold maxLen; omega) rfl
      clear hst
      go_enter Tryz.func38, Tryz.ntmps38
      go_wp2_with fail
      go_loopw [5, 6, 22] (fun v qv i wr => ∃ (k : Nat) (ps : List (List UInt8)) (cur : List UInt8) (q : Bool), k ≤ s.size ∧ i = .int .i64 k ∧ qv = .bool q ∧
          qcut (s.data.toList.take k) = ⟨ps, cur, q⟩ ∧ wr.ownsRow w.heap.size 9 1 v (ps.length + 1) (strs (ps ++ [cur])) ∧ Below w.heap.size w wr) (fun _ _ i _ => s.size - (intOf i).toNat)
      case atStart => exact ⟨0, [], [], false, by omega, rfl, rfl, rfl, hst0, (Below.refl _ w).alloc (Nat.le_refl _) _⟩
      case round =>
        obtain ⟨k, ps, cur, q, hk, rfl, rfl, hcut, hown, hw⟩ := hrel
        clear hst0
        have hpl : ps.length ≤ 1000 ∧ cur.length ≤ 1000 := by
          have h1 := (qcut_len (s.data.toList.take k)).1
          have h2 := List.length_take_le k s.data.toList
          rw [hcut] at h1
          simp only at h1
          omega
        obtain ⟨hpl, hcl⟩ := hpl
        have hsz := hw.size
        have HC : Hid (qcut (s.data.toList.take k) = ⟨ps, cur, q⟩) := hcut
        clear hcut
        by_cases hlt : k < s.size
        · obtain ⟨g, cap, hv, hgB, hgs, hnc, hcm⟩ := el_form hown (by omega)
          have hcell : wr.cell? ⟨g, ps.length, none⟩ = some (.string ⟨cur.toArray⟩) := by
            rw [hv] at hown
            rw [hown.cellAt ps.length (by omega)]
            exact el_get ps cur
          have hfz : wr.frozen? ⟨g, ps.length, none⟩ = false := by
            rw [hv] at hown
            exact hown.frozenAt ps.length
          obtain ⟨t, ht⟩ : ∃ t : ByteArray, t = ⟨cur.toArray⟩ := ⟨_, rfl⟩
          have hts : t.size ≤ 1000 := by rw [ht, ← size_list]; exact hcl
          rw [← ht] at hcell
          subst hv
          unfold maxLen at hcm
          have hc1 : (s[k].toNat : Int) < 256 := by have := s[k].toNat_lt; omega
          have HSN : Hid (qcut (s.data.toList.take (k + 1)) = qstep ⟨ps, cur, q⟩ s[k]) := by
            show _ = _
            rw [take_snoc s k hlt, qcut_snoc, HC.out]
          have e1 : t ++ s.extract k (k + 1) = ⟨(cur ++ [s[k]]).toArray⟩ := by rw [ht, extract_one s k hlt, el_app]
          have HST : Hid ((wr.setCell ⟨g, ps.length, none⟩ (.string (t ++ s.extract k (k + 1)))).ownsRow w.heap.size 9 1 (.slice (some ⟨g, 0, none⟩) (ps.length + 1) cap) (ps.length + 1) (strs (ps ++ [cur ++ [s[k]]])) ∧ Below w.heap.size w (wr.setCell ⟨g, ps.length, none⟩ (.string (t ++ s.extract k (k + 1))))) := by
            refine ⟨?_, hw.setCell (p := ⟨g, ps.length, none⟩) hgB _⟩
            have h := (hown.stored ps.length (.string (t ++ s.extract k (k + 1)))).1
            rw [e1, el_set] at h
            rw [e1]
            exact h
          have hd1 := el_one s k hlt 44
          have hd2 := el_one s k hlt 34
          have hes : (s.extract k (k + 1)).size = 1 := by rw [ByteArray.size_extract]; omega
          clear e1 ht
          by_cases hsep : s[k] = 44 ∧ q = false
          · obtain ⟨h44, rfl⟩ := hsep
            have HSN2 : Hid (qcut (s.data.toList.take (k + 1)) = ⟨ps ++ [cur], [], false⟩) := by show _ = _; rw [HSN.out]; unfold qstep; rw [if_pos ⟨h44, rfl⟩]
            rw [h44] at hd1
            have hd1 : ((s.extract k (k + 1)).toList == [44]) = true := hd1
            clear h44 hd2 hcell hfz
            go_wp2_with (at_builtin; refine wpList_append_own _ rfl _ _ 50 rfl w.heap.size 9 i0 (.string ⟨#[]⟩) 1 16 Tryz.underlying50 hi hz0 hz1 hz2 rfl (by decide) _ _ _ rfl (hown.alloc _) ⟨wr.heap.size, 0, none⟩ 1 1 [.string ⟨#[]⟩] rfl rfl ?c1 ?c2 ?c3 ?c4 ?c5 ?_)
            case c1 => exact one_cell _ _ _
            case c2 => intro u hu; simp at hu; subst hu; rfl
            case c3 => unfold maxLen; omega
            case c4 => omega
            case c5 => simp; omega
            · intro v' w1 hown' hgrow _
              have hB : Below w.heap.size w w1 := (hw.alloc (by omega) _).grown hgrow (by simp; omega) (fun b hb => ((hown.alloc (.cells #[.string ⟨#[]⟩] 9)).lt b hb).1)
              have hown2 : w1.ownsRow w.heap.size 9 1 v' ((ps ++ [cur]).length + 1) (strs (ps ++ [cur] ++ [[]])) := by
                rw [← strs_snoc, List.length_append]; exact hown'
              clear hown' hgrow hown hw HST
              go_wp2_with fail
              go_roundw
              case rel => exact ⟨k + 1, ps ++ [cur], [], false, by omega, by go_num, rfl, HSN2.out, hown2, hB⟩
              case measure => simp [intOf]; omega
          · have HSN2 : Hid (qcut (s.data.toList.take (k + 1)) = ⟨ps, cur ++ [s[k]], if s[k] = 34 then !q else q⟩) := by show _ = _; rw [HSN.out]; unfold qstep; rw [if_neg hsep]
            clear hown hw
            by_cases h34 : s[k] = 34
            · have HSN3 : Hid (qcut (s.data.toList.take (k + 1)) = ⟨ps, cur ++ [s[k]], !q⟩) := by show _ = _; rw [HSN2.out, if_pos h34]
              rw [show (s[k] == 44) = false by rw [h34]; rfl] at hd1
              rw [show (s[k] == 34) = true by rw [h34]; rfl] at hd2
              clear h34 hsep
              cases q
              all_goals
                go_wp2_with fail
                go_roundw
                case rel => exact ⟨k + 1, ps, cur ++ [s[k]], _, by omega, by go_num, rfl, HSN3.out, HST.out.1, HST.out.2⟩
                case measure => simp [intOf]; omega
            · have HSN3 : Hid (qcut (s.data.toList.take (k + 1)) = ⟨ps, cur ++ [s[k]], q⟩) := by show _ = _; rw [HSN2.out, if_neg h34]
              rw [show (s[k] == 34) = false from beq_eq_false_iff_ne.2 h34] at hd2
              by_cases h44 : s[k] = 44
              · obtain rfl : q = true := by cases q with | false => exact absurd ⟨h44, rfl⟩ hsep | true => rfl
                rw [show (s[k] == 44) = true by rw [h44]; rfl] at hd1
                clear h34 h44 hsep
                go_wp2_with fail
                go_roundw
                case rel => exact ⟨k + 1, ps, cur ++ [s[k]], true, by omega, by go_num, rfl, HSN3.out, HST.out.1, HST.out.2⟩
                case measure => simp [intOf]; omega
              · rw [show (s[k] == 44) = false from beq_eq_false_iff_ne.2 h44] at hd1
                clear h34 h44 hsep
                go_wp2_with fail
                go_roundw
                case rel => exact ⟨k + 1, ps, cur ++ [s[k]], q, by omega, by go_num, rfl, HSN3.out, HST.out.1, HST.out.2⟩
                case measure => simp [intOf]; omega
        · obtain rfl : k = s.size := by omega
          have hP : qps s.data.toList = ps ++ [cur] := by
            have := HC.out
            rw [take_all] at this
            unfold qps; rw [this]
          obtain ⟨P, hPe⟩ : ∃ P, P = ps ++ [cur] := ⟨_, rfl⟩
          have hPl : P.length = ps.length + 1 := by rw [hPe]; simp
          have HPL : Hid (P.length = ps.length + 1) := hPl
          have HLEN : Hid (∀ x ∈ P, x.length ≤ 1000) := by
            intro x hx
            obtain ⟨h1, h2⟩ := qcut_len s.data.toList
            have h3 := HC.out
            rw [take_all] at h3
            rw [h3, size_list] at h1 h2
            rw [hPe] at hx
            simp only at h1 h2
            rcases List.mem_append.1 hx with hx | hx
            · have := h2 x hx; omega
            · rw [List.mem_singleton.1 hx]; omega
          have HLI : Hid (∀ (r : (List Tg × Bool) × Int), (match tagsE (P.map trimL) with | none => (([], false), 3) | some ts => if ts.isEmpty = true then (([], false), 3) else if 20 < ts.length then (([], false), 2) else ((ts, false), 0)) = r → liE s.data.toList = r) := by
            intro r hr
            unfold liE
            rw [if_neg (by rw [size_list]; omega), if_neg HNE.out, hP, ← hPe]
            exact hr
          obtain ⟨g, cap, hv, hgB, hgs, hnc, hcm⟩ := el_form hown (by omega)
          subst hv
          rw [← hPe] at hown
          have HCE : Hid (∀ (k : Nat) (h : k < P.length), wr.cell? ⟨g, k, none⟩ = some (.string ⟨(P[k]).toArray⟩)) := by
            intro k hk
            rw [hown.cellAt k (by omega)]
            exact strs_get P k hk
          unfold maxLen at hcm
          obtain ⟨w1, hw1⟩ : ∃ w1, w1 = wr := ⟨_, rfl⟩
          subst hw1
          obtain ⟨L, hL⟩ : ∃ L, L = ps.length := ⟨_, rfl⟩
          rw [← hL] at hPl hnc HPL hpl ⊢
          clear hown hP hPe hcl hgB hL
          go_wp2_with fail
          go_loopw [9, 55] (fun ov i wr => ∃ (k : Nat) (ts : List Tg), k ≤ P.length ∧ i = .int .i64 k ∧ Hid (tagsE ((P.take k).map trimL) = some ts) ∧ wr.ownsRow w1.heap.size 30 2 ov ts.length (tgs ts) ∧ Below w1.heap.size w1 wr) (fun _ i _ => P.length - (intOf i).toNat)
          case atStart => exact ⟨0, [], Nat.zero_le _, rfl, rfl, World.ownsRow_nil _ _ _ _, Below.refl _ _⟩
          case round =>
            obtain ⟨k, ts, hk, rfl, hts, hown, hwr⟩ := hrel
            have hszr := hwr.size
            have htl : ts.length ≤ 1001 := by
              have h1 := tags_len _ _ hts.out
              rw [List.length_map] at h1
              have h2 := List.length_take_le k P
              omega
            by_cases hlt : k < P.length
            · have hcell := (hwr.cell (p := ⟨g, k, none⟩) hgs).trans (HCE.out k hlt)
              have hstep := tags_take (P.map trimL) k (by simpa using hlt)
              have hmt : (P.map trimL).take k = (P.take k).map trimL := by rw [List.map_take]
              have hmt1 : (P.map trimL).take (k + 1) = (P.take (k + 1)).map trimL := by rw [List.map_take]
              rw [hmt, hmt1, hts.out, List.getElem_map] at hstep
              have HDEAD : Hid (tstep (some ts) (trimL P[k]) = none → tagsE (P.map trimL) = none) := fun h => tags_dead _ k (by simpa using hlt) (by rw [hmt, hts.out, List.getElem_map]; exact h)
              obtain ⟨t, ht⟩ : ∃ t : ByteArray, t = ⟨(P[k]).toArray⟩ := ⟨_, rfl⟩
              have htl2 : t.size ≤ 1000 := by rw [← size_list, ht]; exact HLEN.out _ (List.getElem_mem hlt)
              rw [← ht] at hcell
              obtain ⟨u, hu⟩ : ∃ u : ByteArray, u = ⟨(trimL P[k]).toArray⟩ := ⟨_, rfl⟩
              have HU : Hid (u.data.toList = trimL t.data.toList) := by show _ = _; rw [hu, ht]
              have hul : u.data.toList = trimL P[k] := by rw [hu]
              have hus : u.size ≤ 1000 := by
                have := trimL_len P[k]
                rw [← hul, size_list] at this
                have h2 := HLEN.out _ (List.getElem_mem hlt)
                omega
              rw [← hul] at hstep HDEAD
              have HSTEP : Hid (tagsE ((P.take (k + 1)).map trimL) = tstep (some ts) u.data.toList) := hstep
              have hki : (k : Int) < (P.length : Int) := by omega
              have hki2 : (k : Int) < (L : Int) + 1 := by omega
              have hgr : g < wr.heap.size := Nat.lt_of_lt_of_le hgs hszr
              obtain ⟨ad, oc, hov, hom, honc, _⟩ := own_form2 hown
              subst hov
              unfold maxLen at hom
              clear hstep hmt hmt1 ht hu hul
              cases hem : u.toList.isEmpty
              · have HEM : Hid (u.data.toList.isEmpty = false) := by show _ = _; rw [← ByteArray.toList_eq]; exact hem
                obtain ⟨x, kk, c, hpa⟩ : ∃ (x : ByteArray) (kk : Bool) (c : Int), paE u.data.toList = ((kk, x.data.toList), c) := ⟨⟨(paE u.data.toList).1.2.toArray⟩, (paE u.data.toList).1.1, (paE u.data.toList).2, rfl⟩
                have HPA : Hid (paE u.data.toList = ((kk, x.data.toList), c)) := hpa
                by_cases hc : c = 0
                · subst hc
                  have HT2 : Hid (tagsE ((P.take (k + 1)).map trimL) = some (ts ++ [(kk, x.data.toList)])) := by
                    show _ = _
                    rw [HSTEP.out]
                    unfold tstep
                    simp only [HEM.out, hpa]; rfl
                  clear hpa
                  go_wp2_with fail
                  refine (rtrim_at 1000 t u _ htl2 (by omega) HU.out).mono ?_
                  rintro e w3 ⟨rfl, hb3⟩
                  go_wp2_with fail
                  refine (rtparse_at u x kk 0 HPA.out _ (by omega)).mono ?_
                  rintro e w4 ⟨rfl, hb4⟩
                  have hw4 := (hwr.trans (hb3.mono hszr)).trans (hb4.mono (by have := hb3.size; omega))
                  have hown4 := own_below3 (own_below3 hown hb3) hb4
                  have hsz4 := hw4.size
                  clear hb3 hb4 hown hwr
                  go_wp2_with (at_builtin; refine wpList_append_own _ rfl _ _ 74 rfl w1.heap.size 30 i1 (.agg #[.bool false, .string ⟨#[]⟩]) 2 24 Tryz.underlying74 hi1 hy0 hy1 hy2 rfl (by decide) _ _ _ rfl ((hown4.alloc _).alloc _) ⟨w4.heap.size + 1, 0, none⟩ 1 1 [.bool kk, .string x] rfl rfl ?c1 ?c2 ?c3 ?c4 ?c5 ?_)
                  case c1 =>
                    intro j z h
                    match j, h with
                    | 0, h => simp at h; subst h; simp [Addr.add]
                    | 1, h => simp at h; subst h; simp [Addr.add]
                  case c2 => intro z hx; simp at hx; rcases hx with rfl | rfl <;> rfl
                  case c3 => unfold maxLen; omega
                  case c4 => omega
                  case c5 => simp; omega
                  · intro v' w5 hown' hgrow _
                    have hB : Below w1.heap.size w1 w5 := ((hw4.alloc (by omega) _).alloc (by simp; omega) _).grown hgrow (by simp; omega) (fun b hb => (((hown4.alloc (.cells #[.bool kk, .string x] 30)).alloc (.cells #[.bool kk, .string x] 30)).lt b hb).1)
                    have hown5 : w5.ownsRow w1.heap.size 30 2 v' (ts ++ [(kk, x.data.toList)]).length (tgs (ts ++ [(kk, x.data.toList)])) := by
                      rw [← tgs_snoc, List.length_append]; exact hown'
                    clear hown' hgrow hown4 hw4
                    go_wp2_with fail
                    go_roundw
                    case rel => exact ⟨k + 1, _, by omega, by go_num, HT2, hown5, hB⟩
                    case measure => simp [intOf]; omega
                · have hcb : (c == 0) = false := by simp [hc]
                  have HLE : Hid (liE s.data.toList = (([], false), 3)) := by
                    refine HLI.out _ ?_
                    rw [HDEAD.out]
                    unfold tstep
                    simp only [HEM.out, hpa]
                    simp [hc]
                  have hc3 : c = 3 := by
                    rcases paE_cases u.data.toList with ⟨t', h1, _⟩ | h1
                    · rw [h1] at hpa; exact absurd (Prod.mk.inj hpa).2.symm hc
                    · rw [h1] at hpa; exact (Prod.mk.inj hpa).2.symm
                  subst hc3
                  have HB1 : Hid (Below w.heap.size w w1) := hw
                  clear hpa hcb hc
                  go_wp2_with fail
                  refine (rtrim_at 1000 t u _ htl2 (by omega) HU.out).mono ?_
                  rintro e w3 ⟨rfl, hb3⟩
                  go_wp2_with fail
                  refine (rtparse_at u x kk 3 HPA.out _ (by omega)).mono ?_
                  rintro e w4 ⟨rfl, hb4⟩
                  have hw4 := (hwr.trans (hb3.mono hszr)).trans (hb4.mono (by have := hb3.size; omega))
                  clear hb3 hb4 hown hwr
                  go_wp2_with fail
                  go_ret3
                  rw [HLE.out]
                  exact ⟨_, rfl, World.ownsRow_nil _ _ _ _, HB1.out.trans ((hw4.alloc hw4.size _).mono hsz)⟩
              · have HT2 : Hid (tagsE ((P.take (k + 1)).map trimL) = some ts) := by
                  show _ = _
                  rw [HSTEP.out]
                  unfold tstep
                  rw [ByteArray.toList_eq] at hem
                  simp [hem]
                go_wp2_with fail
                refine (rtrim_at 1000 t u _ htl2 (by omega) HU.out).mono ?_
                rintro e w3 ⟨rfl, hb3⟩
                have hw3 := hwr.trans (hb3.mono hszr)
                have hown3 := own_below3 hown hb3
                clear hb3 hown hwr
                go_wp2_with fail
                go_roundw
                case rel => exact ⟨k + 1, _, by omega, by go_num, HT2, hown3, hw3⟩
                case measure => simp [intOf]; omega
            · obtain rfl : k = P.length := by omega
              have HTS : Hid (tagsE (P.map trimL) = some ts) := by
                have := hts.out
                rw [List.take_length] at this; exact this
              have HB1 : Hid (Below w.heap.size w wr) := hw.trans (hwr.mono hsz)
              obtain ⟨ad, oc, hov, hom, honc, _⟩ := own_form2 hown
              subst hov
              by_cases h0 : ts.length = 0
              · obtain rfl := List.eq_nil_of_length_eq_zero h0
                have HLE : Hid (liE s.data.toList = (([], false), 3)) := by
                  refine HLI.out _ ?_
                  rw [HTS.out]; rfl
                clear h0 hts
                go_wp2_with fail
                go_ret3
                rw [HLE.out]
                exact ⟨_, rfl, World.ownsRow_nil _ _ _ _, HB1.out⟩
              · have h0i : ((ts.length : Int) == 0) = false := beq_eq_false_iff_ne.2 (by omega)
                have hnl : ts.isEmpty = false := by
                  cases ts with
                  | nil => exact absurd rfl h0
                  | cons _ _ => rfl
                by_cases h20 : 20 < ts.length
                · have h20i : (20 : Int) < (ts.length : Int) := by omega
                  have HLE : Hid (liE s.data.toList = (([], false), 2)) := by
                    refine HLI.out _ ?_
                    rw [HTS.out]
                    simp [hnl, h20]
                  clear hnl
                  go_wp2_with fail
                  go_ret3
                  rw [HLE.out]
                  exact ⟨_, rfl, World.ownsRow_nil _ _ _ _, HB1.out⟩
                · have h20i : ¬ (20 : Int) < (ts.length : Int) := by omega
                  have HLE : Hid (liE s.data.toList = ((ts, false), 0)) := by
                    refine HLI.out _ ?_
                    rw [HTS.out]
                    simp [hnl, h20]
                  have HOW : Hid (wr.ownsRow w1.heap.size 30 2 (.slice ad ts.length oc) ts.length (tgs ts)) := hown
                  clear hnl hown
                  go_wp2_with fail
                  go_ret3
                  rw [HLE.out]
                  exact ⟨_, rfl, own_le HOW.out hsz, HB1.out⟩
  · have hsi : (1000 : Int) < (s.size : Int) := by omega
    have HR : Hid (liE s.data.toList = (([], false), 2)) := by show _ = _; unfold liE; rw [if_pos (by rw [size_list]; omega)]
    go_enter Tryz.func38, Tryz.ntmps38
    go_wp2_with fail
    go_ret3
    rw [HR.out]
    exact ⟨_, rfl, World.ownsRow_nil _ _ _ _, Below.refl _ _⟩
end Go.Proofs.YtigbjhkkbgdkcaaGreatDoor
