/-
  What Quote of package token computes; the string fits in Go's limits.
-/
import Derived.Test.YtoccjnbodoiibabDoorWPlain
namespace Go.Proofs.YtoccjnbodoiibabDoor
open Go.RowKit

theorem ret_errq {a b : ByteArray} {c d : Int} (h : a = b) (h' : c = d) : Ending.returned (.tuple #[.string a, .int .i64 c]) = .returned (.tuple #[.string b, .int .i64 d]) := by rw [h, h']

theorem qt_long (l : List UInt8) (h : 1000 < l.length) : qt l = ([], 2) := by unfold qt; rw [if_pos h]
theorem qt_bad (l : List UInt8) (h : ¬ 1000 < l.length) (hp : allPlain l = false) : qt l = ([], 3) := by unfold qt; rw [if_neg h, hp]; rfl
theorem qt_ok (l : List UInt8) (h : ¬ 1000 < l.length) (hp : allPlain l = true) : qt l = (34 :: (esc l ++ [34]), 0) := by unfold qt; rw [if_neg h, if_pos hp]
theorem qt_cases (l q : List UInt8) (n : Int) (h : qt l = (q, n)) : (n ≠ 0 ∧ q = []) ∨ (n = 0 ∧ q.length ≤ 2002 ∧ q = 34 :: (esc l ++ [34])) := by
  unfold qt at h
  split at h
  · simp only [Prod.mk.injEq] at h; exact .inl ⟨by rw [← h.2]; decide, h.1.symm⟩
  · rename_i hl
    split at h
    · simp only [Prod.mk.injEq] at h
      refine .inr ⟨h.2.symm, ?_, h.1.symm⟩
      rw [← h.1]
      have := esc_len l
      simp; omega
    · simp only [Prod.mk.injEq] at h; exact .inl ⟨by rw [← h.2]; decide, h.1.symm⟩
theorem cells_c (a : List UInt8) (c : UInt8) : Lib.byteCells a ++ [Value.int .u8 (c.toNat : Int)] = Lib.byteCells (a ++ [c]) := by rw [Lib.byteCells_append]; rfl
theorem esc1_yes (c : UInt8) (h : (c.toNat : Int) = 34 ∨ (c.toNat : Int) = 92) : esc1 c = [92, c] := by
  unfold esc1; rw [if_pos]
  rcases h with h | h
  · exact .inl (eq_of_int c 34 h)
  · exact .inr (eq_of_int c 92 h)
theorem esc1_no (c : UInt8) (h : (c.toNat : Int) ≠ 34) (h' : (c.toNat : Int) ≠ 92) : esc1 c = [c] := by
  unfold esc1; rw [if_neg]
  rintro (e | e)
  · exact ne_of_int c 34 h e
  · exact ne_of_int c 92 h' e

set_option maxHeartbeats 4000000 in
set_option maxRecDepth 100000 in
theorem quote_at (s t : ByteArray) (n : Int) (hu : qt s.data.toList = (t.data.toList, n)) (w : World) :
    Calls Tryd.prog 9 #[.string s] w fun e w' => e = .returned (.tuple #[.string t, .int .i64 n]) ∧ Below w.heap.size w w' := by
  have fin : ∀ t' : ByteArray, ∀ n' : Int, qt s.data.toList = (t'.data.toList, n') → (t' = t ∧ n' = n) := by
    intro t' n' h
    rw [hu, Prod.mk.injEq] at h
    refine ⟨?_, h.2.symm⟩
    apply ByteArray.ext
    apply Array.ext'
    exact h.1.symm
  have HF : Hid (∀ t' : ByteArray, ∀ n' : Int, qt s.data.toList = (t'.data.toList, n') → (t' = t ∧ n' = n)) := fin
  clear fin hu
  by_cases h1 : 1000 < (s.size : Int)
  · have HL : Hid (1000 < s.data.toList.length) := by show 1000 < s.data.toList.length; rw [size_list]; omega
    go_enter Tryd.func9, Tryd.ntmps9
    go_wp2_with fail
    go_ret2
    obtain ⟨e1, e2⟩ := HF.out ⟨#[]⟩ 2 (qt_long _ HL.out)
    exact ⟨ret_errq e1 e2, Below.refl _ _⟩
  · have HL : Hid (¬ 1000 < s.data.toList.length) := by show ¬ 1000 < s.data.toList.length; rw [size_list]; omega
    have hs : (s.size : Int) ≤ 1000 := by omega
    have hfr := Lib.fresh_isBuilder 45 5 w
    clear h1
    go_enter Tryd.func9, Tryd.ntmps9
    go_wp2_with fail
    refine (Tryd.Builder_WriteByte w.heap.size w.heap.size [] _ _ hfr (by simp) (by simp)).mono ?_
    rintro e w1 ⟨rfl, hb1, hw1⟩
    have hw1' : Below w.heap.size w w1 := ((Below.refl _ w).alloc (Nat.le_refl _) _).trans hw1
    clear hw1 hfr
    go_wp2_with fail
    go_loopw [13] (fun i wr => ∃ (k : Nat), k ≤ s.size ∧ i = .int .i64 k ∧ allPlain (s.data.toList.take k) = true ∧ Lib.BuilderAt 45 5 w.heap.size w.heap.size (.pointer (some ⟨w.heap.size, 0, none⟩)) (Lib.byteCells (34 :: esc (s.data.toList.take k))) wr ∧ Below w.heap.size w wr) (fun i _ => s.size - (intOf i).toNat)
    case atStart => exact ⟨0, Nat.zero_le _, rfl, rfl, hb1, hw1'⟩
    case round =>
      obtain ⟨k, hk, rfl, hp, hb, hw⟩ := hrel
      clear hb1 hw1'
      have hsz := hw.size
      have hlen : (Lib.byteCells (34 :: esc (s.data.toList.take k))).length + 2 ≤ 140737488355328 := by
        rw [Lib.byteCells_length, List.length_cons]
        have := esc_len (s.data.toList.take k)
        have h2 := List.length_take_le k s.data.toList
        omega
      have HP : Hid (allPlain (s.data.toList.take k) = true) := hp
      clear hp
      by_cases hlt : k < s.size
      · have hc1 : (s[k].toNat : Int) < 256 := by have := s[k].toNat_lt; omega
        cases hpc : plainB s[k]
        · have HPC : Hid (plainB s[k] = false) := hpc
          clear hpc
          go_wp2_with fail
          refine (isPlain_any _ _).mono ?_
          rintro e w' ⟨rfl, rfl⟩
          rw [HPC.out]
          go_wp2_with fail
          go_ret2
          obtain ⟨e1, e2⟩ := HF.out ⟨#[]⟩ 3 (qt_bad _ HL.out (allPlain_dead s k hlt HPC.out))
          exact ⟨ret_errq e1 e2, hw⟩
        · have HPC : Hid (plainB s[k] = true) := hpc
          clear hpc
          have HPL : Hid (allPlain (s.data.toList.take (k + 1)) = true) := by
            show allPlain (s.data.toList.take (k + 1)) = true
            rw [take_snoc s k hlt]; exact allPlain_snoc _ _ HP.out HPC.out
          by_cases hq : (s[k].toNat : Int) = 34 ∨ (s[k].toNat : Int) = 92
          · have HE : Hid (34 :: esc (s.data.toList.take (k + 1)) = (34 :: esc (s.data.toList.take k)) ++ [92] ++ [s[k]]) := by
              show _ = _
              rw [take_snoc s k hlt, esc_snoc, esc1_yes _ hq]; simp
            have hd : ((s[k].toNat : Int) == 34 || (s[k].toNat : Int) == 92) = true := by simpa using hq
            rcases hq with hq | hq
            · have hd1 : ((s[k].toNat : Int) == 34) = true := by simp [hq]
              clear hq hd
              go_wp2_with fail
              refine (isPlain_any _ _).mono ?_
              rintro e w' ⟨rfl, rfl⟩
              rw [HPC.out]
              go_wp2_with fail
              refine (Tryd.Builder_WriteByte w.heap.size w.heap.size _ _ _ (.inr hb) (by omega) hsz).mono ?_
              rintro e w2 ⟨rfl, hb2, hw2⟩
              have hsz2 := hw2.size
              have hw3 := hw.trans hw2
              rw [show (Value.int .u8 92) = Value.int .u8 (((92 : UInt8).toNat : Nat) : Int) from rfl, cells_c] at hb2
              clear hw2 hb hw
              go_wp2_with fail
              refine (Tryd.Builder_WriteByte w.heap.size w.heap.size _ _ _ (.inr hb2) (by rw [Lib.byteCells_length, List.length_append]; rw [Lib.byteCells_length] at hlen; simp only [List.length_singleton]; omega) (by omega)).mono ?_
              rintro e w4 ⟨rfl, hb4, hw4⟩
              rw [cells_c] at hb4
              go_wp2_with fail
              go_roundw
              case rel => exact ⟨k + 1, by omega, by go_num, HPL.out, by rw [HE.out]; exact hb4, hw3.trans hw4⟩
              case measure => simp [intOf]; omega
            · have hd1 : ((s[k].toNat : Int) == 34) = false := by simp [hq]
              have hd2 : ((s[k].toNat : Int) == 92) = true := by simp [hq]
              clear hq hd
              go_wp2_with fail
              refine (isPlain_any _ _).mono ?_
              rintro e w' ⟨rfl, rfl⟩
              rw [HPC.out]
              go_wp2_with fail
              refine (Tryd.Builder_WriteByte w.heap.size w.heap.size _ _ _ (.inr hb) (by omega) hsz).mono ?_
              rintro e w2 ⟨rfl, hb2, hw2⟩
              have hsz2 := hw2.size
              have hw3 := hw.trans hw2
              rw [show (Value.int .u8 92) = Value.int .u8 (((92 : UInt8).toNat : Nat) : Int) from rfl, cells_c] at hb2
              clear hw2 hb hw
              go_wp2_with fail
              refine (Tryd.Builder_WriteByte w.heap.size w.heap.size _ _ _ (.inr hb2) (by rw [Lib.byteCells_length, List.length_append]; rw [Lib.byteCells_length] at hlen; simp only [List.length_singleton]; omega) (by omega)).mono ?_
              rintro e w4 ⟨rfl, hb4, hw4⟩
              rw [cells_c] at hb4
              go_wp2_with fail
              go_roundw
              case rel => exact ⟨k + 1, by omega, by go_num, HPL.out, by rw [HE.out]; exact hb4, hw3.trans hw4⟩
              case measure => simp [intOf]; omega
          · have HE : Hid (34 :: esc (s.data.toList.take (k + 1)) = (34 :: esc (s.data.toList.take k)) ++ [s[k]]) := by
              show _ = _
              rw [take_snoc s k hlt, esc_snoc, esc1_no _ (by omega) (by omega)]; simp
            have hd1 : ((s[k].toNat : Int) == 34) = false := by rw [beq_eq_false_iff_ne]; omega
            have hd2 : ((s[k].toNat : Int) == 92) = false := by rw [beq_eq_false_iff_ne]; omega
            clear hq
            go_wp2_with fail
            refine (isPlain_any _ _).mono ?_
            rintro e w' ⟨rfl, rfl⟩
            rw [HPC.out]
            go_wp2_with fail
            refine (Tryd.Builder_WriteByte w.heap.size w.heap.size _ _ _ (.inr hb) (by omega) hsz).mono ?_
            rintro e w2 ⟨rfl, hb2, hw2⟩
            rw [cells_c] at hb2
            go_wp2_with fail
            go_roundw
            case rel => exact ⟨k + 1, by omega, by go_num, HPL.out, by rw [HE.out]; exact hb2, hw.trans hw2⟩
            case measure => simp [intOf]; omega
      · obtain rfl : k = s.size := by omega
        go_wp2_with fail
        refine (Tryd.Builder_WriteByte w.heap.size w.heap.size _ _ _ (.inr hb) (by omega) hsz).mono ?_
        rintro e w2 ⟨rfl, hb2, hw2⟩
        have hsz2 := hw2.size
        have hw3 := hw.trans hw2
        rw [show (Value.int .u8 34) = Value.int .u8 (((34 : UInt8).toNat : Nat) : Int) from rfl, cells_c, take_all] at hb2
        clear hw2 hb hw
        go_wp2_with fail
        refine (Tryd.Builder_String_any w.heap.size w.heap.size _ _ (.inr hb2) (by omega)).mono ?_
        rintro e w4 ⟨rfl, hw4⟩
        go_wp2_with fail
        go_ret2
        have hp := HP.out
        rw [take_all] at hp
        obtain ⟨e1, e2⟩ := HF.out ⟨(34 :: esc s.data.toList ++ [34]).toArray⟩ 0 (by rw [qt_ok _ HL.out hp]; simp)
        exact ⟨ret_errq e1 e2, hw3.trans hw4⟩
end Go.Proofs.YtoccjnbodoiibabDoor
