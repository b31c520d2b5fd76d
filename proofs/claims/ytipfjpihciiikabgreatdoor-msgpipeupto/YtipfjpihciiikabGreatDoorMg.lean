/-
  What ReadRequest of package msg computes; how the first line and the fields are parsed is told by hypotheses; then of texts of less than 2^32 - 15 bytes.
-/
import Derived.Test.YtipfjpihciiikabGreatDoorMf
import Derived.Test.YtipfjpihciiikabGreatDoorShelf
import Derived.Test.YtipfjpihciiikabGreatDoorRows
import Derived.BigQuiet
import Derived.Deep.QuietTactic
import Derived.Deep.SlicePairs
import Derived.Lib.SmallJoins
namespace Go.Proofs.YtipfjpihciiikabGreatDoor
open Go.RowKit

abbrev KQr : List UInt8 → Kd := fun m => kd true m 0
/-- How the first line of s is parsed in the world W. -/
def LinesAt (s : ByteArray) (W : World) : Prop :=
  Calls Tryz.prog 13 #[.string s] W fun e w' => e = .returned (.tuple #[.string ⟨(paR s.data.toList).1.1.toArray⟩, .string ⟨(paR s.data.toList).1.2.toArray⟩, .int .i64 (paR s.data.toList).2.1, .int .i64 (paR s.data.toList).2.2]) ∧ Below W.heap.size W w'
theorem ret_q {a b c : ByteArray} {v v' : Value} {a' b' c' : ByteArray} {i j k l : Int} (h1 : a = a') (h2 : b = b') (h3 : v = v') (h4 : c = c') (h5 : i = j) (h6 : k = l) :
    Ending.returned (.tuple #[.agg #[.string a, .string b, v, .string c], .int .i64 i, .int .i64 k]) = .returned (.tuple #[.agg #[.string a', .string b', v', .string c'], .int .i64 j, .int .i64 l]) := by rw [h1, h2, h3, h4, h5, h6]
theorem paR_num {s : List UInt8} (h : (paR s).2.2 = 0) : 0 ≤ (paR s).2.1 ∧ (paR s).2.1 ≤ s.length := by
  rcases paR_two s with ⟨c, hc, he⟩ | ⟨m, t, r, _, _, hs, he⟩
  · rw [he] at h; exact absurd h hc
  · rw [he]
    have := congrArg List.length hs
    simp only [List.length_append, List.length_cons] at this
    simp only
    omega
set_option maxHeartbeats 2000000 in
set_option maxRecDepth 100000 in
theorem readQ_of (s x y t : ByteArray) (fs : List Fld) (i : Nat) (c : Int) (h : rdQ KQr s.data.toList = ((x.data.toList, y.data.toList), fs, t.data.toList, i, c)) (m : Int) (w : World) (hs : s.size ≤ maxLen) (hS : STabs w) (hm : w.cell? ⟨0, 0, none⟩ = some (.int .i64 m))
    (hL : ∀ W : World, W.cell? ⟨0, 0, none⟩ = some (.int .i64 m) → LinesAt s W) (hP : (paR s.data.toList).2.2 = 0 → ∀ (r : ByteArray) (W : World), r.data.toList = s.data.toList.drop (paR s.data.toList).2.1.toNat → W.cell? ⟨0, 0, none⟩ = some (.int .i64 m) → ParsesAt r W) :
    Calls Tryz.prog 8 #[.string s] w fun e w' => ∃ v, e = .returned (.tuple #[.agg #[.string x, .string y, v, .string t], .int .i64 (i : Int), .int .i64 c]) ∧ FlO w.heap.size w' v fs ∧ Below w.heap.size w w' := by
  have HM : Hid (w.cell? ⟨0, 0, none⟩ = some (.int .i64 m)) := hm
  have HS : Hid (STabs w) := hS
  have HL : Hid (∀ W : World, W.cell? ⟨0, 0, none⟩ = some (.int .i64 m) → LinesAt s W) := hL
  have HZ : Hid (s.size ≤ maxLen) := hs
  clear hm hS hL hs
  have emp : ∀ z : Int, (([], []), [], [], 0, z) = ((x.data.toList, y.data.toList), fs, t.data.toList, i, c) → x = ⟨#[]⟩ ∧ y = ⟨#[]⟩ ∧ fs = [] ∧ t = ⟨#[]⟩ ∧ i = 0 ∧ c = z := by
    intro z hx
    simp only [Prod.mk.injEq] at hx
    obtain ⟨⟨h1, h2⟩, h3, h4, h5, h6⟩ := hx
    exact ⟨by apply ByteArray.ext; apply Array.ext'; exact h1.symm, by apply ByteArray.ext; apply Array.ext'; exact h2.symm, h3.symm, by apply ByteArray.ext; apply Array.ext'; exact h4.symm, h5.symm, h6.symm⟩
  obtain ⟨p, q, n, d, hp⟩ : ∃ (p q : ByteArray) (n d : Int), paR s.data.toList = ((p.data.toList, q.data.toList), n, d) := ⟨⟨(paR s.data.toList).1.1.toArray⟩, ⟨(paR s.data.toList).1.2.toArray⟩, _, _, rfl⟩
  have HL2 : Hid (∀ o : Obj, Calls Tryz.prog 13 #[.string s] (w.alloc o) fun e w' => e = .returned (.tuple #[.string p, .string q, .int .i64 n, .int .i64 d]) ∧ Below (w.alloc o).heap.size (w.alloc o) w') := by
    intro o
    have := HL.out (w.alloc o) (cell_keep (below_alloc w o) HM.out)
    unfold LinesAt at this
    rw [hp] at this
    exact this
  unfold rdQ at h
  rw [hp] at h
  simp only at h
  by_cases hd : d = 0
  · subst hd
    rw [if_neg (by simp)] at h
    have hn := paR_num (s := s.data.toList) (by rw [hp])
    rw [hp, size_list] at hn
    simp only at hn
    obtain ⟨a, rfl⟩ : ∃ a : Nat, n = (a : Int) := ⟨n.toNat, by omega⟩
    obtain ⟨r, hr, hrs, hsl⟩ := slice_from s a (by omega)
    have HPP : Hid (∀ W : World, W.cell? ⟨0, 0, none⟩ = some (.int .i64 m) → ParsesAt r W) := fun W hW => hP (by rw [hp]) r W (by rw [hp]; simpa using hr) hW
    rw [Int.toNat_natCast, ← hr] at h
    obtain ⟨gs, u, j, f, hu⟩ : ∃ (gs : List Fld) (u : ByteArray) (j : Nat) (f : Int), rdB (KQr p.data.toList) r.data.toList = (gs, u.data.toList, j, f) := ⟨_, ⟨(rdB (KQr p.data.toList) r.data.toList).2.1.toArray⟩, _, _, rfl⟩
    have HU : Hid (rdB (kd true p.data.toList 0) r.data.toList = (gs, u.data.toList, j, f)) := hu
    rw [hu] at h
    simp only at h
    have HRS : Hid (r.size ≤ maxLen) := by show _ ≤ _; have := HZ.out; omega
    have hsz : s.size ≤ 9223372036854775807 := by have := HZ.out; unfold maxLen at this; omega
    have hal : a ≤ s.size := by omega
    by_cases hf0 : f = 0
    · subst hf0
      rw [if_neg (by simp)] at h
      simp only [Prod.mk.injEq] at h
      obtain ⟨⟨h1, h2⟩, rfl, h4, h5, rfl⟩ := h
      obtain rfl : x = p := by apply ByteArray.ext; apply Array.ext'; exact h1.symm
      obtain rfl : y = q := by apply ByteArray.ext; apply Array.ext'; exact h2.symm
      obtain rfl : t = u := by apply ByteArray.ext; apply Array.ext'; exact h4.symm
      have hj : j ≤ r.size := by
        have := (rdB_is (kd_ok true x.data.toList 0) r.data.toList (kd_four x.data.toList 0)).2 (by rw [hu])
        rw [hu, size_list] at this
        exact this.2
      have hsum : a + j ≤ s.size := by omega
      have HI : Hid ((a : Int) + (j : Int) = (i : Int)) := by show _ = _; omega
      clear hp h1 h2 h4 h5 hu hr hrs emp HL hP hn
      go_enter Tryz.func8, Tryz.ntmps8
      go_wp2_with fail
      refine (HL2.out _).mono ?_
      rintro e w1 ⟨rfl, hb0⟩
      have hz1 := hb0.size
      rw [World.size_alloc] at hz1
      have hk1 := (hb0.block w.heap.size (by simp)).trans (heap_alloc_new _ _)
      have hb1 := below_new hb0
      clear hb0
      have HM1 : Hid (w1.cell? ⟨0, 0, none⟩ = some (.int .i64 m)) := cell_keep hb1 HM.out
      go_wp2_with fail
      refine (rrest_of true x 0 r t gs j 0 HU.out m _ HRS.out (HS.out.below hb1) HM1.out HPP.out).mono ?_
      rintro e w2 ⟨v, rfl, hfl, hb2⟩
      obtain ⟨ad, cap, rfl, _⟩ := own_form2 hfl
      have HFL : Hid (FlO (w.heap.size + 1) w2 (.slice ad gs.length cap) gs) := hfl.le hz1
      have hk2 := (hb2.block w.heap.size (by omega)).trans hk1
      clear hk1
      have hw2 := hb1.trans (hb2.mono hb1.size)
      clear hb1 hb2 hfl
      have z0 := Lib.frozen_of_heap hk2 0
      have z1 := Lib.frozen_of_heap hk2 1
      have z2 := Lib.frozen_of_heap hk2 2
      have z3 := Lib.frozen_of_heap hk2 3
      have c0 : w2.cell? ⟨w.heap.size, 0, none⟩ = some (.string ⟨#[]⟩) := by simp [World.cell?, hk2]
      have c1 : w2.cell? ⟨w.heap.size, 1, none⟩ = some (.string ⟨#[]⟩) := by simp [World.cell?, hk2]
      have c2 : w2.cell? ⟨w.heap.size, 2, none⟩ = some (.slice none 0 0) := by simp [World.cell?, hk2]
      have c3 : w2.cell? ⟨w.heap.size, 3, none⟩ = some (.string ⟨#[]⟩) := by simp [World.cell?, hk2]
      have HK2 : Hid (w2.heap[w.heap.size]? = _) := hk2
      clear hk2
      go_wp2_with fail
      have e0 := set4_cell (a := .string x) (b := .string y) (c := .slice ad gs.length cap) (d := .string t) HK2.out 0
      have e1 := set4_cell (a := .string x) (b := .string y) (c := .slice ad gs.length cap) (d := .string t) HK2.out 1
      have e2 := set4_cell (a := .string x) (b := .string y) (c := .slice ad gs.length cap) (d := .string t) HK2.out 2
      have e3 := set4_cell (a := .string x) (b := .string y) (c := .slice ad gs.length cap) (d := .string t) HK2.out 3
      have hfin := HFL.out.set4 (show w.heap.size < w.heap.size + 1 by omega) (.string x) (.string y) (.slice ad gs.length cap) (.string t)
      have hbl := set4_below (.string x) (.string y) (.slice ad gs.length cap) (.string t) hw2 (Nat.le_refl _)
      change bodyPost _ _ _ _ _ (set4 w2 w.heap.size (.string x) (.string y) (.slice ad gs.length cap) (.string t))
      generalize set4 w2 w.heap.size (.string x) (.string y) (.slice ad gs.length cap) (.string t) = w3 at e0 e1 e2 e3 hfin hbl ⊢
      refine bodyPost_ret (v := .tuple #[.agg #[.string x, .string y, .slice ad gs.length cap, .string t], .int .i64 ((a : Int) + j), .int .i64 0]) (by simp [results, Tryz.results8, go_sem, e0, e1, e2, e3]) rfl ?_
      exact ⟨_, ret_q rfl rfl rfl rfl HI.out rfl, hfin.le (by omega), hbl⟩
    · rw [if_pos hf0] at h
      obtain ⟨rfl, rfl, rfl, rfl, rfl, rfl⟩ := emp _ h
      have hfb : (c != 0) = true := by simpa using hf0
      clear hp h hu hr hrs emp HL hP hn hf0
      go_enter Tryz.func8, Tryz.ntmps8
      go_wp2_with fail
      refine (HL2.out _).mono ?_
      rintro e w1 ⟨rfl, hb0⟩
      have hz1 := hb0.size
      rw [World.size_alloc] at hz1
      have hk1 := (hb0.block w.heap.size (by simp)).trans (heap_alloc_new _ _)
      have hb1 := below_new hb0
      clear hb0
      have HM1 : Hid (w1.cell? ⟨0, 0, none⟩ = some (.int .i64 m)) := cell_keep hb1 HM.out
      go_wp2_with fail
      refine (rrest_of true p 0 r u gs j c HU.out m _ HRS.out (HS.out.below hb1) HM1.out HPP.out).mono ?_
      rintro e w2 ⟨v, rfl, hfl, hb2⟩
      have hk2 := (hb2.block w.heap.size (by omega)).trans hk1
      have hw2 := hb1.trans (hb2.mono hb1.size)
      clear hb1 hb2 hfl hk1
      have z0 := Lib.frozen_of_heap hk2 0
      have z1 := Lib.frozen_of_heap hk2 1
      have z2 := Lib.frozen_of_heap hk2 2
      have z3 := Lib.frozen_of_heap hk2 3
      have c0 : w2.cell? ⟨w.heap.size, 0, none⟩ = some (.string ⟨#[]⟩) := by simp [World.cell?, hk2]
      have c1 : w2.cell? ⟨w.heap.size, 1, none⟩ = some (.string ⟨#[]⟩) := by simp [World.cell?, hk2]
      have c2 : w2.cell? ⟨w.heap.size, 2, none⟩ = some (.slice none 0 0) := by simp [World.cell?, hk2]
      have c3 : w2.cell? ⟨w.heap.size, 3, none⟩ = some (.string ⟨#[]⟩) := by simp [World.cell?, hk2]
      have HK2 : Hid (w2.heap[w.heap.size]? = _) := hk2
      clear hk2
      go_wp2_with fail
      have e0 := set4_cell (a := .string ⟨#[]⟩) (b := .string ⟨#[]⟩) (c := .slice none 0 0) (d := .string ⟨#[]⟩) HK2.out 0
      have e1 := set4_cell (a := .string ⟨#[]⟩) (b := .string ⟨#[]⟩) (c := .slice none 0 0) (d := .string ⟨#[]⟩) HK2.out 1
      have e2 := set4_cell (a := .string ⟨#[]⟩) (b := .string ⟨#[]⟩) (c := .slice none 0 0) (d := .string ⟨#[]⟩) HK2.out 2
      have e3 := set4_cell (a := .string ⟨#[]⟩) (b := .string ⟨#[]⟩) (c := .slice none 0 0) (d := .string ⟨#[]⟩) HK2.out 3
      have hbl := set4_below (.string ⟨#[]⟩) (.string ⟨#[]⟩) (.slice none 0 0) (.string ⟨#[]⟩) hw2 (Nat.le_refl _)
      change bodyPost _ _ _ _ _ (set4 w2 w.heap.size (.string ⟨#[]⟩) (.string ⟨#[]⟩) (.slice none 0 0) (.string ⟨#[]⟩))
      generalize set4 w2 w.heap.size (.string ⟨#[]⟩) (.string ⟨#[]⟩) (.slice none 0 0) (.string ⟨#[]⟩) = w9 at e0 e1 e2 e3 hbl ⊢
      refine bodyPost_ret (v := .tuple #[.agg #[.string ⟨#[]⟩, .string ⟨#[]⟩, .slice none 0 0, .string ⟨#[]⟩], .int .i64 0, .int .i64 c]) (by simp [results, Tryz.results8, go_sem, e0, e1, e2, e3]) rfl ?_
      exact ⟨_, rfl, FlO.nil _ _, hbl⟩
  · rw [if_pos hd] at h
    obtain ⟨rfl, rfl, rfl, rfl, rfl, rfl⟩ := emp _ h
    have hdb : (c != 0) = true := by simpa using hd
    clear hp h emp HL hP hd
    go_enter Tryz.func8, Tryz.ntmps8
    go_wp2_with fail
    refine (HL2.out _).mono ?_
    rintro e w1 ⟨rfl, hb0⟩
    have hk1 := (hb0.block w.heap.size (by simp)).trans (heap_alloc_new _ _)
    have hb1 := below_new hb0
    clear hb0
    have z0 := Lib.frozen_of_heap hk1 0
    have z1 := Lib.frozen_of_heap hk1 1
    have z2 := Lib.frozen_of_heap hk1 2
    have z3 := Lib.frozen_of_heap hk1 3
    have c0 : w1.cell? ⟨w.heap.size, 0, none⟩ = some (.string ⟨#[]⟩) := by simp [World.cell?, hk1]
    have c1 : w1.cell? ⟨w.heap.size, 1, none⟩ = some (.string ⟨#[]⟩) := by simp [World.cell?, hk1]
    have c2 : w1.cell? ⟨w.heap.size, 2, none⟩ = some (.slice none 0 0) := by simp [World.cell?, hk1]
    have c3 : w1.cell? ⟨w.heap.size, 3, none⟩ = some (.string ⟨#[]⟩) := by simp [World.cell?, hk1]
    have HK2 : Hid (w1.heap[w.heap.size]? = _) := hk1
    clear hk1
    go_wp2_with fail
    have e0 := set4_cell (a := .string ⟨#[]⟩) (b := .string ⟨#[]⟩) (c := .slice none 0 0) (d := .string ⟨#[]⟩) HK2.out 0
    have e1 := set4_cell (a := .string ⟨#[]⟩) (b := .string ⟨#[]⟩) (c := .slice none 0 0) (d := .string ⟨#[]⟩) HK2.out 1
    have e2 := set4_cell (a := .string ⟨#[]⟩) (b := .string ⟨#[]⟩) (c := .slice none 0 0) (d := .string ⟨#[]⟩) HK2.out 2
    have e3 := set4_cell (a := .string ⟨#[]⟩) (b := .string ⟨#[]⟩) (c := .slice none 0 0) (d := .string ⟨#[]⟩) HK2.out 3
    have hbl := set4_below (.string ⟨#[]⟩) (.string ⟨#[]⟩) (.slice none 0 0) (.string ⟨#[]⟩) hb1 (Nat.le_refl _)
    change bodyPost _ _ _ _ _ (set4 w1 w.heap.size (.string ⟨#[]⟩) (.string ⟨#[]⟩) (.slice none 0 0) (.string ⟨#[]⟩))
    generalize set4 w1 w.heap.size (.string ⟨#[]⟩) (.string ⟨#[]⟩) (.slice none 0 0) (.string ⟨#[]⟩) = w9 at e0 e1 e2 e3 hbl ⊢
    refine bodyPost_ret (v := .tuple #[.agg #[.string ⟨#[]⟩, .string ⟨#[]⟩, .slice none 0 0, .string ⟨#[]⟩], .int .i64 0, .int .i64 c]) (by simp [results, Tryz.results8, go_sem, e0, e1, e2, e3]) rfl ?_
    exact ⟨_, rfl, FlO.nil _ _, hbl⟩
theorem linesQ_at (s : ByteArray) (hs : s.size < 4294967281) (m : Int) (W : World) (hW : W.cell? ⟨0, 0, none⟩ = some (.int .i64 m)) : LinesAt s W := parseR_at s _ _ _ _ rfl m W hW hs
theorem parsesF_at (s : ByteArray) (hs : s.size < 4294967281) (m : Int) (W : World) (hW : W.cell? ⟨0, 0, none⟩ = some (.int .i64 m)) : ParsesAt s W := parse_any s m W hW hs
theorem readQ_at (s x y t : ByteArray) (fs : List Fld) (i : Nat) (c : Int) (h : rdQ KQr s.data.toList = ((x.data.toList, y.data.toList), fs, t.data.toList, i, c)) (m : Int) (w : World) (hs : s.size < 4294967281) (hS : STabs w) (hm : w.cell? ⟨0, 0, none⟩ = some (.int .i64 m)) :
    Calls Tryz.prog 8 #[.string s] w fun e w' => ∃ v, e = .returned (.tuple #[.agg #[.string x, .string y, v, .string t], .int .i64 (i : Int), .int .i64 c]) ∧ FlO w.heap.size w' v fs ∧ Below w.heap.size w w' :=
  readQ_of s x y t fs i c h m w (by unfold maxLen; omega) hS hm (fun W hW => linesQ_at s hs m W hW) (fun _ r W hr hW => parsesF_at r (by rw [← size_list, hr, List.length_drop, size_list]; omega) m W hW)
end Go.Proofs.YtipfjpihciiikabGreatDoor

/-
  What strings.Cut computes at 13, 10, where the first 13 of the text has a 10 behind it: of texts of whatever size that Go allows; the package variable that the library reads holds some number.
-/
namespace Go.Proofs.YtipfjpihciiikabGreatDoor
open Go.RowKit

theorem indexByte_at (c : UInt8) (l t : List UInt8) (h : ∀ b ∈ l, b ≠ c) : Lib.indexByte (l ++ c :: t) c = (l.length : Int) := by
  rw [← Lib.index_one]; exact index_byte_at c l t h
/-- The text from its second byte on, up to its last one: where the first 13 lies. -/
theorem early_byte (s : ByteArray) (c0 : UInt8) (l r : List UInt8) (h : s.data.toList = c0 :: (l ++ 13 :: 10 :: r)) (hl : ∀ b ∈ l, b ≠ 13) :
    Lib.indexByte (s.extract 1 (s.size - 1)).data.toList 13 = (l.length : Int) := by
  have hz := size_list s
  rw [h] at hz
  simp at hz
  rw [Lib.extract_data, h, List.drop_succ_cons, List.drop_zero]
  have e : (l ++ 13 :: 10 :: r).take (s.size - 1 - 1) = l ++ 13 :: (10 :: r).take (s.size - 1 - 1 - l.length - 1) := by
    rw [List.take_append, List.take_of_length_le (by omega)]
    congr 1
    obtain ⟨q, hq⟩ : ∃ q, s.size - 1 - 1 - l.length = q + 1 := ⟨s.size - 1 - 1 - l.length - 1, by omega⟩
    rw [hq, List.take_succ_cons]; rfl
  rw [e]
  exact indexByte_at 13 l _ hl
theorem early_pair (s : ByteArray) (l r : List UInt8) (k : Nat) (h : s.data.toList = l ++ 13 :: 10 :: r) (hk : l.length = k) : s.extract k (k + 2) = ⟨#[13, 10]⟩ := by
  apply ByteArray.ext; apply Array.ext'
  rw [Lib.extract_data, h, ← hk, List.drop_left' rfl, Nat.add_sub_cancel_left]; rfl
theorem early_second (s : ByteArray) (l r : List UInt8) (k : Nat) (h : s.data.toList = l ++ 13 :: 10 :: r) (hk : l.length = k) (hlt : k + 1 < s.size) : s[k + 1] = 10 := by
  have e : s.data.toList[k + 1]? = some 10 := by
    rw [h, List.getElem?_append_right (by omega), hk, Nat.add_sub_cancel_left]; rfl
  have h' : k + 1 < s.data.toList.length := by rw [size_list]; exact hlt
  rw [List.getElem?_eq_getElem h', Option.some.injEq] at e
  exact e
theorem early_first (s : ByteArray) (c0 : UInt8) (l : List UInt8) (h : s.data.toList = c0 :: l) (hlt : 0 < s.size) : s[0] = c0 := by
  have e : s.data.toList[0]? = some c0 := by rw [h]; rfl
  have h' : 0 < s.data.toList.length := by rw [size_list]; exact hlt
  rw [List.getElem?_eq_getElem h', Option.some.injEq] at e
  exact e

theorem ib_at (s : ByteArray) (k : Nat) (h : Lib.indexByte (s.extract 1 (s.size - 2 + 1)).data.toList 13 = (k : Int)) (w : World) :
    Calls Tryz.prog 72 #[.string (s.extract 1 (s.size - 2 + 1)), .int .u8 ((⟨#[13, 10]⟩ : ByteArray)[0].toNat : Int)] w fun e w' => e = .returned (.int .i64 (k : Int)) ∧ w' = w := by
  refine (Tryz.stringslite_IndexByte _ _ _).mono ?_
  rintro e w' ⟨rfl, rfl⟩
  refine ⟨?_, rfl⟩
  rw [← h]
  rfl

set_option maxHeartbeats 4000000 in
set_option maxRecDepth 100000 in
theorem index_core (s : ByteArray) (k : Nat) (hk : k + 1 + 1 < s.size) (hfst : (s[0].toNat : Int) ≠ 13) (hI : Lib.indexByte (s.extract 1 (s.size - 1)).data.toList 13 = (k : Int)) (hP : s.extract (k + 1) (k + 1 + 2) = ⟨#[13, 10]⟩) (hsec : s[k + 1 + 1] = 10) (m : Int) (w : World) (hm : w.cell? ⟨0, 0, none⟩ = some (.int .i64 m)) (hlo : 64 < s.size) (hs : s.size ≤ 1152921504606846976) :
    Calls Tryz.prog 68 #[.string s, .string ⟨#[13, 10]⟩] w fun e w' => e = .returned (.int .i64 ((k : Int) + 1)) ∧ w' = w := by
  have HI : Hid (Lib.indexByte (s.extract 1 (s.size - 2 + 1)).data.toList 13 = (k : Int)) := by
    rw [show s.size - 2 + 1 = s.size - 1 by omega]; exact hI
  have hpp : ((s.extract (k + 1) (k + 1 + 2)).toList == [13, 10]) = true := by rw [hP, ByteArray.toList_eq]; rfl
  have h10 : (10 : Int) = ((⟨#[13, 10]⟩ : ByteArray)[1].toNat : Int) := rfl
  have hne' : (([13, 10] : List UInt8) == s.toList) = false := by
    rw [ByteArray.toList_eq, beq_eq_false_iff_ne]
    intro e; have := congrArg List.length e; rw [size_list s] at this; simp at this; omega
  have hlo' : ¬ (s.size : Int) ≤ 64 := by omega
  have hf : ((s[0].toNat : Int) != ((⟨#[13, 10]⟩ : ByteArray)[0].toNat : Int)) = true := by
    rw [bne_iff_ne]; exact hfst
  have b0 : (0 : Int) < (s.size : Int) - 2 + 1 := by omega
  have b1 : (1 : Int) ≤ (s.size : Int) - 2 + 1 := by omega
  have b2 : (s.size : Int) - 2 + 1 ≤ (s.size : Int) := by omega
  clear hI hP
  by_cases hmm : 2 ≤ m
  all_goals
    go_enter Tryz.func68, Tryz.ntmps68
    go_wp2_with fail
    go_loop [8, 10] (fun i f => i = .int .i64 0 ∧ f = .int .i64 0) (fun _ _ => 0)
    case atStart => exact ⟨rfl, rfl⟩
    case round =>
      obtain ⟨rfl, rfl⟩ := hrel
      go_wp2_with fail
      refine (ib_at s k HI.out _).mono ?_
      rintro e w' ⟨rfl, rfl⟩
      go_wp2_with fail
      go_ret
      exact ⟨rfl, rfl⟩

theorem index_early (s : ByteArray) (c0 : UInt8) (l r : List UInt8) (h : s.data.toList = c0 :: (l ++ 13 :: 10 :: r)) (hc0 : c0 ≠ 13) (hl : ∀ b ∈ l, b ≠ 13) (m : Int) (w : World) (hm : w.cell? ⟨0, 0, none⟩ = some (.int .i64 m)) (hlo : 64 < s.size) (hs : s.size ≤ 1152921504606846976) :
    Calls Tryz.prog 68 #[.string s, .string ⟨#[13, 10]⟩] w fun e w' => e = .returned (.int .i64 ((l.length : Int) + 1)) ∧ w' = w := by
  have hz := size_list s
  rw [h] at hz
  simp at hz
  have h' : s.data.toList = (c0 :: l) ++ 13 :: 10 :: r := h
  refine index_core s l.length (by omega) ?_ (early_byte s c0 l r h hl) (early_pair s (c0 :: l) r _ h' rfl) (early_second s (c0 :: l) r (l.length + 1) h' rfl (by omega)) m w hm hlo hs
  rw [early_first s c0 _ h (by omega)]
  intro e
  exact hc0 (UInt8.toNat_inj.1 (by show c0.toNat = 13; omega))

set_option maxHeartbeats 4000000 in
set_option maxRecDepth 100000 in
/-- The same, where 13, 10 stand first. -/
theorem index_first0 (s : ByteArray) (hlo : 64 < s.size) (h0 : s[0] = 13) (h1 : s[1] = 10) (hP : s.extract 0 2 = ⟨#[13, 10]⟩) (m : Int) (w : World) (hm : w.cell? ⟨0, 0, none⟩ = some (.int .i64 m)) (hs : s.size ≤ 1152921504606846976) :
    Calls Tryz.prog 68 #[.string s, .string ⟨#[13, 10]⟩] w fun e w' => e = .returned (.int .i64 0) ∧ w' = w := by
  have hpp : ((s.extract 0 2).toList == [13, 10]) = true := by rw [hP, ByteArray.toList_eq]; rfl
  have h10 : (10 : Int) = ((⟨#[13, 10]⟩ : ByteArray)[1].toNat : Int) := rfl
  have h13 : (13 : Int) = ((⟨#[13, 10]⟩ : ByteArray)[0].toNat : Int) := rfl
  have hne' : (([13, 10] : List UInt8) == s.toList) = false := by
    rw [ByteArray.toList_eq, beq_eq_false_iff_ne]
    intro e; have := congrArg List.length e; rw [size_list s] at this; simp at this; omega
  have hlo' : ¬ (s.size : Int) ≤ 64 := by omega
  have hf : (((s[0]).toNat : Int) != ((⟨#[13, 10]⟩ : ByteArray)[0].toNat : Int)) = false := by rw [h0]; rfl
  have b0 : (0 : Int) < (s.size : Int) - 2 + 1 := by omega
  clear hP
  by_cases hmm : 2 ≤ m
  all_goals
    go_enter Tryz.func68, Tryz.ntmps68
    go_wp2_with fail
    go_loop [8, 10] (fun i f => i = .int .i64 0 ∧ f = .int .i64 0) (fun _ _ => 0)
    case atStart => exact ⟨rfl, rfl⟩
    case round =>
      obtain ⟨rfl, rfl⟩ := hrel
      go_wp2_with fail
      go_ret
      exact ⟨rfl, rfl⟩

theorem ret_ssb {a b c d : ByteArray} {v : Value} (h : a = b) (h' : c = d) : Ending.returned (.tuple #[.string a, .string c, v]) = .returned (.tuple #[.string b, .string d, v]) := by rw [h, h']

set_option maxHeartbeats 1000000 in
set_option maxRecDepth 100000 in
theorem slcut_early (s a b : ByteArray) (h : s.data.toList = a.data.toList ++ 13 :: 10 :: b.data.toList) (w : World) (hs : s.size ≤ 1152921504606846976)
    (hI : ∀ W : World, W = w → Calls Tryz.prog 68 #[.string s, .string ⟨#[13, 10]⟩] W fun e w' => e = .returned (.int .i64 (a.size : Int)) ∧ w' = W) :
    Calls Tryz.prog 51 #[.string s, .string ⟨#[13, 10]⟩] w fun e w' => e = .returned (.tuple #[.string a, .string b, .bool true]) ∧ ∃ n, w' = w.drewN n := by
  have hz := size_list s
  have hza := size_list a
  rw [h] at hz
  simp only [List.length_append, List.length_cons, size_list] at hz
  have HA : Hid (s.extract 0 a.size = a) := by
    show _ = _
    apply ByteArray.ext; apply Array.ext'
    rw [Lib.extract_data, h, List.drop_zero, Nat.sub_zero, List.take_left' hza]
  have HB : Hid (s.extract (a.size + 2) s.size = b) := by
    show _ = _
    apply ByteArray.ext; apply Array.ext'
    rw [Lib.extract_data, h, ← hza, ← List.drop_drop, List.drop_left' rfl]
    simp only [List.drop_succ_cons, List.drop_zero]
    rw [List.take_of_length_le]; rw [size_list]; omega
  have h2 : (a.size : Int) ≤ (s.size : Int) := by omega
  have h3 : (a.size : Int) + 2 ≤ (s.size : Int) := by omega
  have h4 : (0 : Int) ≤ (a.size : Int) + 2 := by omega
  have hwr : IntKind.i64.wrap ((a.size : Int) + 2) = (a.size : Int) + 2 := by rw [IntKind.wrap_i64]; omega
  have hjn : ((a.size : Int) + 2).toNat = a.size + 2 := by omega
  have h1 : (0 : Int) ≤ (a.size : Int) := by omega
  clear h hz hza
  go_enter Tryz.func51, Tryz.ntmps51
  go_wp2_with fail
  refine (hI _ rfl).mono ?_
  rintro e w' ⟨rfl, rfl⟩
  have mixed : Tryz.prog.follows Departure.mixedOrders = true := by kernel_rfl
  go_wp2_with fail
  go_region_o
  go_wp2
  go_ret3
  refine ⟨ret_ssb ?_ ?_, 1, rfl⟩
  · exact HA.out
  · exact HB.out

set_option maxHeartbeats 1000000 in
set_option maxRecDepth 100000 in
/-- strings.Cut at 13, 10, where the first 13 has a 10 behind it. -/
theorem scut_early (s a b : ByteArray) (h : s.data.toList = a.data.toList ++ 13 :: 10 :: b.data.toList) (hn : ∀ c ∈ a.data.toList, c ≠ 13) (m : Int) (w : World) (hm : w.cell? ⟨0, 0, none⟩ = some (.int .i64 m)) (hs : s.size ≤ 1152921504606846976) :
    Calls Tryz.prog 35 #[.string s, .string ⟨#[13, 10]⟩] w fun e w' => e = .returned (.tuple #[.string a, .string b, .bool true]) ∧ ∃ n, w' = w.drewN n := by
  have hz := size_list s
  have hza := size_list a
  rw [h] at hz
  simp only [List.length_append, List.length_cons, size_list] at hz
  by_cases hlt : s.size < 4294967281
  · refine scut_at s _ a b true ?_ m w hm hlt
    have hi := index_at_crlf a.data.toList b.data.toList hn
    rw [h]
    refine (cut_yes _ _ _ hi).trans ?_
    rw [List.take_left' rfl, List.drop_append]
    simp
  · have hI : ∀ W : World, W = w → Calls Tryz.prog 68 #[.string s, .string ⟨#[13, 10]⟩] W fun e w' => e = .returned (.int .i64 (a.size : Int)) ∧ w' = W := by
      rintro W rfl
      cases hl : a.data.toList with
      | nil =>
        rw [hl] at h hza
        have e : (a.size : Int) = 0 := by rw [← hza]; rfl
        rw [e]
        exact index_first0 s (by omega) (early_first s 13 _ h (by omega)) (early_second s [] b.data.toList 0 h rfl (by omega)) (early_pair s [] b.data.toList 0 h rfl) m W hm hs
      | cons c0 l =>
        rw [hl] at h hn hza
        have e : (a.size : Int) = (l.length : Int) + 1 := by rw [← hza]; simp
        rw [e]
        exact index_early s c0 l b.data.toList h (hn c0 (List.mem_cons_self ..)) (fun x hx => hn x (List.mem_cons_of_mem _ hx)) m W hm (by omega) hs
    have hC := slcut_early s a b h w hs hI
    clear h hn hm hz hza hlt hI
    go_enter Tryz.func35, Tryz.ntmps35
    go_wp2_with fail
    refine hC.mono ?_
    rintro e w' ⟨rfl, n, rfl⟩
    go_wp2_with fail
    go_ret3
    exact ⟨rfl, n, rfl⟩
end Go.Proofs.YtipfjpihciiikabGreatDoor

/-
  What Parse of package field computes of fields that are printed, with whatever text behind them, of whatever size that Go allows; the package variable that the library reads holds some number.
-/
namespace Go.Proofs.YtipfjpihciiikabGreatDoor
open Go.RowKit

set_option maxHeartbeats 8000000 in
set_option maxRecDepth 100000 in
theorem parse_early (s u : ByteArray) (ls : List Fld) (hs : s.data.toList = prt ls ++ 13 :: 10 :: u.data.toList) (hls : ∀ x ∈ ls, chk1 x = 0) (hlen : ls.length ≤ 30) (hsz : s.size ≤ 1152921504606846976) (m : Int) (w : World) (hm : w.cell? ⟨0, 0, none⟩ = some (.int .i64 m)) :
    Calls Tryz.prog 24 #[.string s] w fun e w' => ∃ v, e = .returned (.tuple #[v, .int .i64 ((s.size : Int) - (u.size : Int)), .int .i64 0]) ∧
      w'.ownsRow w.heap.size 47 2 v ls.length (flds ls) ∧ Below w.heap.size w w' := by
  obtain ⟨i0, hi, hz0, hz1, hz2⟩ := info_parts infoF
  have HM : Hid (w.cell? ⟨0, 0, none⟩ = some (.int .i64 m)) := hm
  have HLS : Hid (∀ x ∈ ls, chk1 x = 0) := hls
  have HS : Hid (s.data.toList = prt ls ++ 13 :: 10 :: u.data.toList) := hs
  have hus : u.size ≤ s.size := by
    have e := size_list s
    rw [hs, List.length_append, List.length_cons, List.length_cons, size_list] at e; omega
  clear hm hls hs
  go_enter Tryz.func24, Tryz.ntmps24
  go_wp2_with fail
  go_loopw [5, 6] (fun v rv wr => ∃ (r : ByteArray) (ps qs : List Fld), rv = .string r ∧ ls = ps ++ qs ∧ r.data.toList = prt qs ++ 13 :: 10 :: u.data.toList ∧ r.size ≤ s.size ∧ wr.ownsRow w.heap.size 47 2 v ps.length (flds ps) ∧ Below w.heap.size w wr) (fun _ rv _ => lenV rv)
  case atStart => exact ⟨s, [], ls, rfl, rfl, HS.out, Nat.le_refl _, World.ownsRow_nil _ _ _ _, Below.refl _ _⟩
  case round =>
    obtain ⟨r, ps, qs, rfl, hpq, hrd, hrs, hown, hw⟩ := hrel
    have hsw := hw.size
    have HMr : Hid (wr.cell? ⟨0, 0, none⟩ = some (.int .i64 m)) := cell_keep hw HM.out
    obtain ⟨ad, cap, hv, hcm, hnc, hcx⟩ := own_form2 hown
    subst hv
    clear hcx
    unfold maxLen at hcm
    have hpl : ps.length + qs.length = ls.length := by rw [hpq, List.length_append]
    cases qs with
    | nil =>
      obtain rfl : ls = ps := by rw [hpq, List.append_nil]
      have HRD : Hid (r.data.toList = (⟨#[]⟩ : ByteArray).data.toList ++ 13 :: 10 :: u.data.toList) := hrd
      clear hpq hrd
      go_wp2_with fail
      refine (cutLine_of r ⟨#[]⟩ u 1100 (by decide) _ (fun W hW => by subst hW; exact scut_early r ⟨#[]⟩ u HRD.out (fun c hc => by cases hc) m _ HMr.out (by omega))).mono ?_
      rintro e w1 ⟨rfl, nd, rfl⟩
      go_wp2_with fail
      go_ret3
      exact ⟨_, rfl, own_below3 hown (drewN_below _ _ _), hw.trans (drewN_below _ _ _)⟩
    | cons x qs =>
      have hcx : chk1 x = 0 := HLS.out x (by rw [hpq]; simp)
      obtain ⟨c1, c2, c3, _, _⟩ := chk1_is x hcx
      obtain ⟨a, ha⟩ : ∃ a : ByteArray, a.data.toList = lnB x := ⟨⟨(lnB x).toArray⟩, rfl⟩
      obtain ⟨b, hb⟩ : ∃ b : ByteArray, b.data.toList = prt qs ++ 13 :: 10 :: u.data.toList := ⟨⟨(prt qs ++ 13 :: 10 :: u.data.toList).toArray⟩, rfl⟩
      obtain ⟨y, hy⟩ : ∃ y : ByteArray, y.data.toList = x.1 := ⟨⟨x.1.toArray⟩, rfl⟩
      obtain ⟨z, hz⟩ : ∃ z : ByteArray, z.data.toList = x.2 := ⟨⟨x.2.toArray⟩, rfl⟩
      have has : a.size ≤ 1100 := by rw [← size_list, ha, lnB_len]; omega
      have HRD : Hid (r.data.toList = a.data.toList ++ 13 :: 10 :: b.data.toList) := by
        show _ = _
        rw [hrd, prt_cons, ln_eq, ha, hb]; simp
      have hbs : b.size < r.size := by
        have e := size_list r
        rw [HRD.out, List.length_append, List.length_cons, List.length_cons, size_list, size_list] at e; omega
      have HNO : Hid (∀ c ∈ a.data.toList, c ≠ 13) := by show ∀ c ∈ a.data.toList, c ≠ 13; rw [ha]; exact lnB_no13 x hcx
      have HF : Hid (rdF a.data.toList = ((y.data.toList, z.data.toList), 0)) := by show _ = _; rw [ha, rdF_ln x hcx, hy, hz]
      have HB : Hid (b.data.toList = prt qs ++ 13 :: 10 :: u.data.toList) := hb
      have HX : Hid ((y.data.toList, z.data.toList) = x) := by show _ = _; rw [hy, hz]
      have HPQ : Hid (ls = (ps ++ [x]) ++ qs) := by show _ = _; rw [hpq]; simp
      have hl0 : ¬ a.size = 0 := by rw [← size_list, ha, lnB_len]; omega
      have hem : a.toList.isEmpty = false := by rw [ByteArray.toList_eq, isEmpty_size]; exact decide_eq_false hl0
      have hp30 : ps.length < 30 := by simp only [List.length_cons] at hpl; omega
      have hd2 : ((ps.length : Int) == 30) = false := by rw [beq_eq_false_iff_ne]; omega
      clear ha hb hy hz hrd hpq hcx c1 c2 c3 hl0 hpl
      go_wp2_with fail
      refine (cutLine_of r a b 1100 has _ (fun W hW => by subst hW; exact scut_early r a b HRD.out HNO.out m _ HMr.out (by omega))).mono ?_
      rintro e w1 ⟨rfl, nd, rfl⟩
      have hown1 := own_below3 hown (drewN_below wr.heap.size wr nd)
      have hw1 := hw.trans (drewN_below w.heap.size wr nd)
      have HM1 : Hid ((wr.drewN nd).cell? ⟨0, 0, none⟩ = some (.int .i64 m)) := cell_keep hw1 HM.out
      clear hown
      go_wp2_with fail
      refine (readField_at a y z 0 HF.out m _ HM1.out has).mono ?_
      rintro e w3 ⟨rfl, hb3⟩
      have hown3 := own_below3 hown1 hb3
      have hw3 := hw1.trans (hb3.mono hw1.size)
      have hsz3 := hw3.size
      clear hown1 hb3
      go_wp2_with (at_builtin; refine wpList_append_own _ rfl _ _ 23 rfl w.heap.size 47 i0 (.agg #[.string ⟨#[]⟩, .string ⟨#[]⟩]) 2 32 Tryz.underlying23 hi hz0 hz1 hz2 rfl (by decide) _ _ _ rfl ((hown3.alloc _).alloc _) ⟨w3.heap.size + 1, 0, none⟩ 1 1 [.string y, .string z] rfl rfl ?c1 ?c2 ?c3 ?c4 ?c5 ?_)
      case c1 =>
        intro j q h
        match j, h with
        | 0, h => simp at h; subst h; simp [Addr.add]
        | 1, h => simp at h; subst h; simp [Addr.add]
      case c2 => intro q hx; simp at hx; rcases hx with rfl | rfl <;> rfl
      case c3 => unfold maxLen; omega
      case c4 => omega
      case c5 => simp; omega
      · intro v' w4 hown' hgrow _
        have hB : Below w.heap.size w w4 := ((hw3.alloc (by omega) _).alloc (by simp; omega) _).grown hgrow (by simp; omega) (fun b hb => (((hown3.alloc (.cells #[.string y, .string z] 47)).alloc (.cells #[.string y, .string z] 47)).lt b hb).1)
        have hown4 : w4.ownsRow w.heap.size 47 2 v' (ps ++ [x]).length (flds (ps ++ [x])) := by
          rw [← HX.out, ← flds_snoc, List.length_append]; exact hown'
        clear hown' hgrow hown3 hw3
        go_wp2_with fail
        go_roundw
        case rel => exact ⟨b, ps ++ [x], qs, rfl, HPQ.out, HB.out, by omega, hown4, hB⟩
        case measure => simp [lenV]; omega
end Go.Proofs.YtipfjpihciiikabGreatDoor

/-
  What ReadRequest of package msg computes of a text that begins with a request that was written, whatever stands behind it, of whatever size a text may have.
-/
namespace Go.Proofs.YtipfjpihciiikabGreatDoor
open Go.RowKit

theorem rdQ_nil (K : List UInt8 → Kd) : rdQ K [] = (([], []), [], [], 0, 8) := by
  unfold rdQ; rw [paR_nil]; rfl
theorem ba_of (l : List UInt8) : ∃ b : ByteArray, b.data.toList = l := ⟨⟨l.toArray⟩, rfl⟩
theorem ba_same {a b : ByteArray} (h : a.data.toList = b.data.toList) : a = b := by apply ByteArray.ext; apply Array.ext'; exact h
theorem linesQ_back (s m t : ByteArray) (z : List UInt8) (hs : s.data.toList = reqB m.data.toList t.data.toList ++ 13 :: 10 :: z) (hm : meth m.data.toList = true) (ht : targ t.data.toList = true) (hsz : s.size ≤ 1152921504606846976) (mm : Int) (W : World) (hW : W.cell? ⟨0, 0, none⟩ = some (.int .i64 mm)) : LinesAt s W := by
  obtain ⟨l, hl⟩ := ba_of (reqB m.data.toList t.data.toList)
  obtain ⟨b, hb⟩ := ba_of z
  have hs2 : s.data.toList = l.data.toList ++ 13 :: 10 :: b.data.toList := by rw [hl, hb]; exact hs
  have hle := (reqB_le _ _ hm ht).1
  have hls : l.size ≤ 300 := by rw [← size_list, hl]; omega
  have hlen : s.size = l.size + 2 + b.size := by
    have := congrArg List.length hs2
    rw [List.length_append, List.length_cons, List.length_cons, size_list, size_list, size_list] at this
    omega
  have hno : ∀ c ∈ l.data.toList, c ≠ 13 := by rw [hl]; exact reqB_no13 _ _ hm ht
  unfold LinesAt
  rw [hs, paR_back _ _ _ hm ht]
  refine (parseR_of s l b m t hl hm ht hsz (by omega) mm W hW (fun W' e => by subst e; exact cutLine_of s l b 300 hls _ fun W'' e => by subst e; exact scut_early s l b hs2 hno mm _ hW hsz)).mono ?_
  rintro e w1 ⟨rfl, hb1⟩
  refine ⟨?_, hb1⟩
  have h1 : (s.size : Int) - (b.size : Int) = ((reqB m.data.toList t.data.toList).length : Int) + 2 := by
    rw [← hl, size_list]; omega
  rw [h1]
theorem parsesF_back (r : ByteArray) (ls : List Fld) (z : List UInt8) (hr : r.data.toList = prt ls ++ [13, 10] ++ z) (hc : chk ls = 0) (hsz : r.size ≤ 1152921504606846976) (mm : Int) (W : World) (hW : W.cell? ⟨0, 0, none⟩ = some (.int .i64 mm)) : ParsesAt r W := by
  obtain ⟨u, hu⟩ := ba_of z
  have hr2 : r.data.toList = prt ls ++ 13 :: 10 :: u.data.toList := by rw [hu, hr]; simp
  obtain ⟨h30, hall⟩ := chk_zero ls hc
  have hall := chkL_all ls hall
  have hn : parN r.data.toList = (r.size : Int) - (u.size : Int) := by
    unfold parN
    rw [hr, par_back ls z hc, if_pos rfl, ← hr, size_list]
    simp only
    rw [← size_list u, hu]
  unfold ParsesAt
  rw [hn, hr, par_back ls z hc]
  exact parse_early r u ls hr2 hall h30 hsz mm W hW
theorem readQ_back (s m t b x : ByteArray) (ls : List Fld) (z : List UInt8) (h : wrQ (KQr m.data.toList) m.data.toList t.data.toList ls b.data.toList = (x.data.toList, 0)) (hs : s.data.toList = x.data.toList ++ z) (hsz : s.size ≤ 1152921504606846976) (mm : Int) (w : World) (hS : STabs w) (hm : w.cell? ⟨0, 0, none⟩ = some (.int .i64 mm)) :
    Calls Tryz.prog 8 #[.string s] w fun e w' => ∃ v, e = .returned (.tuple #[.agg #[.string m, .string t, v, .string b], .int .i64 (x.size : Int), .int .i64 0]) ∧ FlO w.heap.size w' v ls ∧ Below w.heap.size w w' := by
  have hq := q_back (K := KQr) (kd_ok true m.data.toList 0) (kd_four m.data.toList 0) z h
  rw [← hs, size_list] at hq
  obtain ⟨h1, h2, u, hu, hx⟩ := wrQ_is h
  obtain ⟨hc, _, _, _, _, hu2⟩ := wrB_is hu
  have hs1 : s.data.toList = reqB m.data.toList t.data.toList ++ 13 :: 10 :: (u ++ z) := by rw [hs, hx]; simp
  refine readQ_of s m t b ls x.size 0 hq mm w (by unfold maxLen; omega) hS hm (fun W hW => linesQ_back s m t (u ++ z) hs1 h1 h2 hsz mm W hW) (fun _ r W hr hW => ?_)
  rw [hs1, paR_back _ _ _ h1 h2] at hr
  have hr' : r.data.toList = u ++ z := by
    rw [hr]
    have := line_drop (reqB m.data.toList t.data.toList) (u ++ z)
    simpa using this
  have hrs : r.size ≤ 1152921504606846976 := by
    have h3 := congrArg List.length hs1
    have h4 := congrArg List.length hr'
    rw [size_list] at h3 h4
    rw [List.length_append, List.length_cons, List.length_cons] at h3
    omega
  exact parsesF_back r ls (bdB (KQr m.data.toList ls).1 b.data.toList ++ z) (by rw [hr', hu2, List.append_assoc]) hc hrs mm W hW
end Go.Proofs.YtipfjpihciiikabGreatDoor

/-
  Eq of the document's answers on two lists of the same fields answers true and turns nothing that was there.
-/
namespace Go.Proofs.YtipfjpihciiikabGreatDoor
open Go.RowKit

set_option maxHeartbeats 1000000 in
set_option maxRecDepth 100000 in
theorem eqF_same (v v' : Value) (ls : List Fld) (w : World) (h : Fl w v ls) (h' : Fl w v' ls) :
    Calls Tryz.prog 15 #[v, v'] w fun e w' => e = .returned (.bool true) ∧ Below w.heap.size w w' := by
  obtain ⟨ad, cap, hv, hnc, hcm, hc⟩ := h
  obtain ⟨ad', cap', hv', hnc', hcm', hc'⟩ := h'
  subst hv hv'
  unfold maxLen at hcm hcm'
  have HC : Hid (0 < ls.length → ∃ g off, ad = some ⟨g, off, none⟩ ∧ g < w.heap.size ∧
    ∀ (k : Nat) (h : k < ls.length), w.cell? ⟨g, off + k * 2, none⟩ = some (.string ⟨(ls[k]).1.toArray⟩) ∧ w.cell? ⟨g, off + k * 2 + 1, none⟩ = some (.string ⟨(ls[k]).2.toArray⟩)) := hc
  have HC' : Hid (0 < ls.length → ∃ g off, ad' = some ⟨g, off, none⟩ ∧ g < w.heap.size ∧
    ∀ (k : Nat) (h : k < ls.length), w.cell? ⟨g, off + k * 2, none⟩ = some (.string ⟨(ls[k]).1.toArray⟩) ∧ w.cell? ⟨g, off + k * 2 + 1, none⟩ = some (.string ⟨(ls[k]).2.toArray⟩)) := hc'
  clear hc hc'
  go_enter Tryz.func15, Tryz.ntmps15
  go_wp2_with fail
  go_loopw [14] (fun i wr => ∃ k : Nat, k ≤ ls.length ∧ i = .int .i64 k ∧ Below w.heap.size w wr) (fun i _ => ls.length - (intOf i).toNat)
  case atStart => exact ⟨0, Nat.zero_le _, rfl, Below.refl _ _⟩
  case round =>
    obtain ⟨k, hk, rfl, hw⟩ := hrel
    by_cases hlt : k < ls.length
    · obtain ⟨g, off, rfl, hgs, hce⟩ := HC.out (by omega)
      obtain ⟨g', off', rfl, hgs', hce'⟩ := HC'.out (by omega)
      obtain ⟨p1, p2⟩ := hce k hlt
      obtain ⟨q1, q2⟩ := hce' k hlt
      have c1 : wr.cell? ⟨g, off + k * 2, none⟩ = some (.string ⟨(ls[k]).1.toArray⟩) := by rw [hw.cell (p := ⟨g, off + k * 2, none⟩) hgs]; exact p1
      have c2 : wr.cell? ⟨g, off + k * 2 + 1, none⟩ = some (.string ⟨(ls[k]).2.toArray⟩) := by rw [hw.cell (p := ⟨g, off + k * 2 + 1, none⟩) hgs]; exact p2
      have d1 : wr.cell? ⟨g', off' + k * 2, none⟩ = some (.string ⟨(ls[k]).1.toArray⟩) := by rw [hw.cell (p := ⟨g', off' + k * 2, none⟩) hgs']; exact q1
      have d2 : wr.cell? ⟨g', off' + k * 2 + 1, none⟩ = some (.string ⟨(ls[k]).2.toArray⟩) := by rw [hw.cell (p := ⟨g', off' + k * 2 + 1, none⟩) hgs']; exact q2
      generalize (⟨(ls[k]).1.toArray⟩ : ByteArray) = x at c1 d1
      generalize (⟨(ls[k]).2.toArray⟩ : ByteArray) = y at c2 d2
      have hsz := hw.size
      have hgr : g < wr.heap.size := by omega
      have hgr' : g' < wr.heap.size := by omega
      clear hce hce' p1 p2 q1 q2
      have hki : (k : Int) < (ls.length : Int) := by omega
      have hk0 : (0 : Int) ≤ (k : Int) := by omega
      go_wp2_with fail
      go_quiet (fail)
      go_wp2_with fail
      go_roundw
      case rel => exact ⟨k + 1, by omega, by go_num, (hw.alloc (by omega) _).trans (drewN_below _ _ _)⟩
      case measure => simp [intOf]; omega
    · go_wp2_with fail
      go_ret
      exact ⟨rfl, hw⟩
end Go.Proofs.YtipfjpihciiikabGreatDoor

/-
  What SameRequest of the document's answers computes of two that are the same.
-/
namespace Go.Proofs.YtipfjpihciiikabGreatDoor
open Go.RowKit

set_option maxHeartbeats 1000000 in
set_option maxRecDepth 100000 in
theorem sameQ_at (x y t : ByteArray) (v v' : Value) (ls : List Fld) (w : World) (h : Fl w v ls) (h' : Fl w v' ls) :
    Calls Tryz.prog 9 #[.agg #[.string x, .string y, v, .string t], .agg #[.string x, .string y, v', .string t]] w fun e w' => e = .returned (.bool true) ∧ Below w.heap.size w w' := by
  have H1 : Hid (Fl w v ls) := h
  have H2 : Hid (Fl w v' ls) := h'
  clear h h'
  go_enter Tryz.func9, Tryz.ntmps9
  go_wp2_with fail
  refine (eqF_same _ _ _ _ (H1.out.below (below_alloc2 _ _ _)) (H2.out.below (below_alloc2 _ _ _))).mono ?_
  rintro e w1 ⟨rfl, hb1⟩
  have c3 : w1.cell? ⟨w.heap.size, 3, none⟩ = some (.string t) := (new_cell2 hb1 3).1
  have d3 : w1.cell? ⟨w.heap.size + 1, 3, none⟩ = some (.string t) := (new_cell2 hb1 3).2
  have hw1 := below_new2 hb1
  clear hb1
  go_wp2_with fail
  go_ret
  exact ⟨ret_bool (by simp), hw1⟩
end Go.Proofs.YtipfjpihciiikabGreatDoor

/-
  What ReadRequest of package msg computes of nothing; no condition but that the listed variables that the library reads hold what their text lays.
-/
namespace Go.Proofs.YtipfjpihciiikabGreatDoor
open Go.RowKit

theorem readQ_nil (mm : Int) (w : World) (hS : STabs w) (hm : w.cell? ⟨0, 0, none⟩ = some (.int .i64 mm)) :
    Calls Tryz.prog 8 #[.string ⟨#[]⟩] w fun e w' => ∃ v, e = .returned (.tuple #[.agg #[.string ⟨#[]⟩, .string ⟨#[]⟩, v, .string ⟨#[]⟩], .int .i64 0, .int .i64 8]) ∧ FlO w.heap.size w' v [] ∧ Below w.heap.size w w' :=
  readQ_at ⟨#[]⟩ ⟨#[]⟩ ⟨#[]⟩ ⟨#[]⟩ [] 0 8 (rdQ_nil _) mm w (by decide) hS hm
theorem wrQ_bad {K : Kd} {m t : List UInt8} {ls : List Fld} {b x : List UInt8} {c : Int} (h : wrQ K m t ls b = (x, c)) (hc : c ≠ 0) : x = [] := by
  rcases wrQ_two K m t ls b with ⟨c', _, e⟩ | ⟨s, e, _⟩
  · rw [h] at e; exact (Prod.mk.inj e).1
  · rw [h] at e; exact absurd (Prod.mk.inj e).2 hc
theorem wrQ_full {K : Kd} {m t : List UInt8} {ls : List Fld} {b x : List UInt8} (h : wrQ K m t ls b = (x, 0)) : x ≠ [] := by
  rcases wrQ_two K m t ls b with ⟨c', hc, e⟩ | ⟨s, e, hs⟩
  · rw [h] at e; exact absurd (Prod.mk.inj e).2.symm hc
  · rw [h] at e; rw [(Prod.mk.inj e).1]; exact hs
end Go.Proofs.YtipfjpihciiikabGreatDoor

/-
  A list of requests in memory: four values each, one of them a slice of fields; no program is named here.
-/
namespace Go.Proofs.YtipfjpihciiikabGreatDoor
open Go.RowKit

/-- A request's method, target, fields and body, and the value that its fields are. -/
abbrev Qv := ((List UInt8 × List UInt8) × List Fld × List UInt8) × Value
def q4 (x : Qv) : List Value := [.string ⟨x.1.1.1.toArray⟩, .string ⟨x.1.1.2.toArray⟩, x.2, .string ⟨x.1.2.2.toArray⟩]
def qvs (l : List Qv) : List Value := l.flatMap q4
theorem qvs_snoc (l : List Qv) (x : Qv) : qvs l ++ q4 x = qvs (l ++ [x]) := by simp [qvs]
theorem qvs_cons (l : List Qv) (x : Qv) : qvs (x :: l) = q4 x ++ qvs l := by simp [qvs]
theorem qvs_length (l : List Qv) : (qvs l).length = l.length * 4 := by
  induction l with
  | nil => rfl
  | cons x l ih => rw [qvs_cons, List.length_append, ih, List.length_cons]; simp [q4]; omega
theorem qvs_get (l : List Qv) : ∀ (k : Nat) (h : k < l.length) (j : Nat), j < 4 → (qvs l)[k * 4 + j]? = (q4 l[k])[j]? := by
  induction l with
  | nil => intro k h; simp at h
  | cons x l ih =>
    intro k h j hj
    rw [qvs_cons]
    have h4 : (q4 x).length = 4 := rfl
    cases k with
    | zero => rw [List.getElem?_append_left (by omega)]; simp
    | succ k =>
      rw [List.getElem?_append_right (by omega), h4, show (k + 1) * 4 + j - 4 = k * 4 + j from by omega, ih k (by simpa using h) j hj]
      simp
def QOk (w : World) (x : Qv) : Prop := Fl w x.2 x.1.2.1 ∧ Most maxLen x.1.2.1 ∧ x.1.1.1.length ≤ maxLen ∧ x.1.1.2.length ≤ maxLen ∧ x.1.2.2.length ≤ maxLen
theorem QOk.below {w w' : World} {x : Qv} (h : QOk w x) (hb : Below w.heap.size w w') : QOk w' x := ⟨h.1.below hb, h.2⟩
/-- A slice of requests that can be read. -/
def Rl (w : World) (v : Value) (qs : List Qv) : Prop :=
  (∃ ad cap, v = .slice ad qs.length cap ∧ qs.length ≤ cap ∧ cap ≤ maxLen ∧ (0 < qs.length → ∃ g off, ad = some ⟨g, off, none⟩ ∧ g < w.heap.size ∧
    ∀ (k : Nat) (h : k < qs.length) (j : Nat), j < 4 → w.cell? ⟨g, off + k * 4 + j, none⟩ = (q4 qs[k])[j]?)) ∧ ∀ x ∈ qs, QOk w x
theorem Rl.below {w w' : World} {v : Value} {qs : List Qv} (h : Rl w v qs) (hb : Below w.heap.size w w') : Rl w' v qs := by
  obtain ⟨⟨ad, cap, hv, h1, h2, h3⟩, h4⟩ := h
  refine ⟨⟨ad, cap, hv, h1, h2, fun h0 => ?_⟩, fun x hx => (h4 x hx).below hb⟩
  obtain ⟨g, off, ha, hg, hc⟩ := h3 h0
  exact ⟨g, off, ha, Nat.lt_of_lt_of_le hg hb.size, fun k hk j hj => (hb.cell (p := ⟨g, off + k * 4 + j, none⟩) hg).trans (hc k hk j hj)⟩
theorem Rl.nil (w : World) : Rl w (.slice none 0 0) [] := ⟨⟨none, 0, rfl, Nat.le_refl _, by unfold maxLen; omega, fun h => absurd h (by simp)⟩, fun x hx => by cases hx⟩
/-- A slice of requests that the call made. -/
theorem Rl.own {w : World} {B : Nat} {e : TypeId} {v : Value} {qs : List Qv} (h : w.ownsRow B e 4 v qs.length (qvs qs)) (ho : ∀ x ∈ qs, QOk w x) : Rl w v qs := by
  obtain ⟨ad, cap, hv, h2, h1, h3⟩ := own_form2 h
  refine ⟨⟨ad, cap, hv, h1, h2, fun h0 => ?_⟩, ho⟩
  obtain ⟨g, ha, _, hg, hc⟩ := h3 h0
  refine ⟨g, 0, ha, hg, fun k hk j hj => ?_⟩
  rw [Nat.zero_add, hc (k * 4 + j) (by omega), qvs_get qs k hk j hj]
end Go.Proofs.YtipfjpihciiikabGreatDoor

/-
  Requests one behind the other, as plain lists; no program is named here.
-/
namespace Go.Proofs.YtipfjpihciiikabGreatDoor
open Go.RowKit

abbrev KW (m : List UInt8) : Kd := kd true m 0
/-- What a request is written as. -/
def wT (x : Qv) : List UInt8 × Int := wrQ (KW x.1.1.1) x.1.1.1 x.1.1.2 x.1.2.1 x.1.2.2
def wok (x : Qv) : Bool := decide ((wT x).2 = 0)
def txt (qs : List Qv) : List UInt8 := qs.flatMap fun x => (wT x).1
theorem txt_snoc (qs : List Qv) (x : Qv) : txt (qs ++ [x]) = txt qs ++ (wT x).1 := by simp [txt]
theorem txt_cons (qs : List Qv) (x : Qv) : txt (x :: qs) = (wT x).1 ++ txt qs := by simp [txt]
theorem wT_len (x : Qv) (h : wok x = true) : (wT x).1.length ≤ 80000 ∧ 1 ≤ (wT x).1.length ∧ wT x = ((wT x).1, 0) := by
  have h0 : (wT x).2 = 0 := of_decide_eq_true h
  have h1 : wT x = ((wT x).1, 0) := by rw [← h0]
  refine ⟨wrQ_len (kd_ok true x.1.1.1 0) h1, ?_, h1⟩
  rcases wrQ_two (KW x.1.1.1) x.1.1.1 x.1.1.2 x.1.2.1 x.1.2.2 with ⟨c, hc, e⟩ | ⟨s, e, hs⟩
  · unfold wT at h0; rw [e] at h0; exact absurd h0 hc
  · have : (wT x).1 = s := by unfold wT; rw [e]
    rw [this]
    rcases Nat.eq_zero_or_pos s.length with hz | hz
    · exact absurd (List.eq_nil_of_length_eq_zero hz) hs
    · exact hz
theorem txt_len (qs : List Qv) (h : ∀ x ∈ qs, wok x = true) : (txt qs).length ≤ 80000 * qs.length := by
  induction qs with
  | nil => simp [txt]
  | cons x qs ih =>
    have h1 := (wT_len x (h x (List.mem_cons_self ..))).1
    have h2 := ih fun y hy => h y (List.mem_cons_of_mem _ hy)
    rw [txt_cons, List.length_append, List.length_cons]
    omega
theorem q4_ok (x : Qv) : ∀ u ∈ q4 x, (∃ ad n c, x.2 = .slice ad n c) → u.oneCell' = true := by
  rintro u hu ⟨ad, n, c, hx⟩
  simp only [q4, hx, List.mem_cons, List.not_mem_nil, or_false] at hu
  rcases hu with rfl | rfl | rfl | rfl <;> rfl
theorem filter_next (qs : List Qv) (k : Nat) (h : k < qs.length) : (qs.take (k + 1)).filter wok = (qs.take k).filter wok ++ (if wok qs[k] then [qs[k]] else []) := by
  rw [List.take_succ_eq_append_getElem h, List.filter_append]
  congr 1
  rw [List.filter_cons]; rfl
end Go.Proofs.YtipfjpihciiikabGreatDoor

/-
  The walk through MsgRow: it answers true and turns nothing that was there; the listed variables that the library reads hold what their text lays.
-/
namespace Go.Proofs.YtipfjpihciiikabGreatDoor
open Go.RowKit

theorem infoQ : (Tryz.prog.info? 25).map (fun i => (i.zero, i.size, i.bytes)) = some (some (.agg #[.string ⟨#[]⟩, .string ⟨#[]⟩, .slice none 0 0, .string ⟨#[]⟩]), 4, 72) := by kernel_rfl
set_option maxHeartbeats 4000000 in
set_option maxRecDepth 100000 in
theorem walkMsgRow (a0 : Value) (l0 : List Qv) (w : World) (z0 : Rl w a0 l0) (y0 : l0.length * 72 ≤ 140737488351232) (hm : ∃ m, w.cell? ⟨0, 0, none⟩ = some (.int .i64 m)) (hT : STabs w) (hH : HTab w) :
    Calls Tryz.prog 3 #[a0] w fun e w' => e = .returned (.bool true) ∧ Below w.heap.size w w' := by
  obtain ⟨mm, hm⟩ := hm
  have HB : Hid (w.cell? ⟨0, 0, none⟩ = some (.int .i64 mm)) := hm
  have HS : Hid (STabs w) := hT
  have HT : Hid (HTab w) := hH
  obtain ⟨i0, hi, hz0, hz1, hz2⟩ := info_parts infoQ
  obtain ⟨⟨ad, cap, hv, hcap, hcm, hc⟩, hok⟩ := z0
  subst hv
  have HC : Hid (0 < l0.length → ∃ g off, ad = some ⟨g, off, none⟩ ∧ g < w.heap.size ∧ ∀ (k : Nat) (h : k < l0.length) (j : Nat), j < 4 → w.cell? ⟨g, off + k * 4 + j, none⟩ = (q4 l0[k])[j]?) := hc
  have HOK : Hid (∀ x ∈ l0, QOk w x) := hok
  clear hm hT hH hc hok
  unfold maxLen at hcm
  go_enter Tryz.func3, Tryz.ntmps3
  go_wp2_with fail
  go_loopw [3, 4, 19] (fun al wa i wr => ∃ (k : Nat) (a : ByteArray), k ≤ l0.length ∧ i = .int .i64 k ∧ al = .string a ∧ a.data.toList = txt ((l0.take k).filter wok) ∧ wr.ownsRow w.heap.size 25 4 wa ((l0.take k).filter wok).length (qvs ((l0.take k).filter wok)) ∧ Below w.heap.size w wr) (fun _ _ i _ => l0.length - (intOf i).toNat)
  case atStart => exact ⟨0, ⟨#[]⟩, Nat.zero_le _, rfl, rfl, rfl, World.ownsRow_nil _ _ _ _, Below.refl _ _⟩
  case round =>
    obtain ⟨k, a, hk, rfl, rfl, hal, hown, hw⟩ := hrel
    have hsz := hw.size
    have HAL : Hid (a.data.toList = txt ((l0.take k).filter wok)) := hal
    have hfl : ((l0.take k).filter wok).length ≤ k := by
      have h1 := List.length_filter_le wok (l0.take k)
      have h2 := List.length_take_le k l0
      omega
    have has : a.size ≤ 80000 * k := by
      have := txt_len ((l0.take k).filter wok) (fun x hx => (List.mem_filter.1 hx).2)
      rw [← hal, size_list] at this
      omega
    clear hal
    by_cases hlt : k < l0.length
    · obtain ⟨g, off, rfl, hgs, hce⟩ := HC.out (by omega)
      have hq := HOK.out l0[k] (List.getElem_mem hlt)
      obtain ⟨x, hx⟩ : ∃ x, x = l0[k] := ⟨_, rfl⟩
      rw [← hx] at hq
      have HX : Hid (x = l0[k]) := hx
      have hce' := hce k hlt
      rw [← hx] at hce'
      obtain ⟨⟨⟨m', t'⟩, ls, b'⟩, fv⟩ := x
      obtain ⟨m, rfl⟩ := ba_of m'
      obtain ⟨t, rfl⟩ := ba_of t'
      obtain ⟨b, rfl⟩ := ba_of b'
      obtain ⟨hfl0, hmo, hm1, ht1, hb1⟩ := hq
      simp only at hfl0 hmo hm1 ht1 hb1
      rw [size_list] at hm1 ht1 hb1
      obtain ⟨fad, fcap, hfv, _⟩ := id hfl0
      subst hfv
      have e0 := (hw.cell (p := ⟨g, off + k * 4, none⟩) hgs).trans (hce' 0 (by decide))
      have e1 := (hw.cell (p := ⟨g, off + k * 4 + 1, none⟩) hgs).trans (hce' 1 (by decide))
      have e2 := (hw.cell (p := ⟨g, off + k * 4 + 2, none⟩) hgs).trans (hce' 2 (by decide))
      have e3 := (hw.cell (p := ⟨g, off + k * 4 + 3, none⟩) hgs).trans (hce' 3 (by decide))
      replace e0 : wr.cell? ⟨g, off + k * 4, none⟩ = some (.string m) := e0
      replace e1 : wr.cell? ⟨g, off + k * 4 + 1, none⟩ = some (.string t) := e1
      replace e2 : wr.cell? ⟨g, off + k * 4 + 2, none⟩ = some (.slice fad ls.length fcap) := e2
      replace e3 : wr.cell? ⟨g, off + k * 4 + 3, none⟩ = some (.string b) := e3
      have HF : Hid (Fl wr (.slice fad ls.length fcap) ls) := hfl0.below hw
      have HM : Hid (Most maxLen ls) := hmo
      have H1 : Hid (m.size ≤ maxLen) := hm1
      have H2 : Hid (t.size ≤ maxLen) := ht1
      have hgr : g < wr.heap.size := by omega
      have hki : (k : Int) < (l0.length : Int) := by omega
      have hk0 : (0 : Int) ≤ (k : Int) := by omega
      obtain ⟨y, c, hy⟩ : ∃ (y : ByteArray) (c : Int), wrQ (KQ m.data.toList) m.data.toList t.data.toList ls b.data.toList = (y.data.toList, c) := ⟨⟨(wrQ (KQ m.data.toList) m.data.toList t.data.toList ls b.data.toList).1.toArray⟩, _, rfl⟩
      have HY : Hid (wrQ (KQ m.data.toList) m.data.toList t.data.toList ls b.data.toList = (y.data.toList, c)) := hy
      have hwT : wT (((m.data.toList, t.data.toList), ls, b.data.toList), .slice fad ls.length fcap) = (y.data.toList, c) := hy
      have HN := filter_next l0 k hlt
      rw [← hx] at HN
      clear hce hce' hfl0 hmo hm1 ht1 hb1 hy hx
      by_cases hc : c = 0
      · subst hc
        have hwok : wok (((m.data.toList, t.data.toList), ls, b.data.toList), .slice fad ls.length fcap) = true := by
          unfold wok; rw [hwT]; rfl
        have hys := (wT_len _ hwok).1
        rw [hwT, size_list] at hys
        rw [hwok] at HN
        have HN2 : Hid ((l0.take (k + 1)).filter wok = (l0.take k).filter wok ++ [(((m.data.toList, t.data.toList), ls, b.data.toList), .slice fad ls.length fcap)]) := by show _ = _; rw [HN]; simp
        have hadd : ¬ 9223372036854775807 < a.size + y.size := by omega
        have HAY : Hid ((a ++ y).data.toList = txt ((l0.take (k + 1)).filter wok)) := by
          show _ = _
          rw [HN2.out, txt_snoc, hwT, ByteArray.data_append, Array.toList_append, HAL.out]
        clear HN hwT hwok
        go_wp2_with fail
        refine (writeQ_at m t (.slice fad ls.length fcap) ls b y 0 HY.out _ (HF.out.below (below_alloc _ _)) HM.out ((HS.out.below hw).below (below_alloc _ _)) ((HT.out.below hw).below (below_alloc _ _)) H1.out H2.out).mono ?_
        rintro e w1 ⟨rfl, hb0⟩
        have d0 : w1.cell? ⟨wr.heap.size, 0, none⟩ = some (.string m) := new_cell hb0 0
        have d1 : w1.cell? ⟨wr.heap.size, 1, none⟩ = some (.string t) := new_cell hb0 1
        have d2 : w1.cell? ⟨wr.heap.size, 2, none⟩ = some (.slice fad ls.length fcap) := new_cell hb0 2
        have d3 : w1.cell? ⟨wr.heap.size, 3, none⟩ = some (.string b) := new_cell hb0 3
        have hlt1 : wr.heap.size < w1.heap.size := by have := hb0.size; rw [World.size_alloc] at this; omega
        have hb1 := below_new hb0
        have hw1 := hw.trans (hb1.mono hsz)
        have hown1 := own_below3 hown hb1
        have hsz1 := hw1.size
        clear hb0 hown
        go_wp2_with (at_builtin; refine wpList_append_own _ rfl _ _ 22 rfl w.heap.size 25 i0 (.agg #[.string ⟨#[]⟩, .string ⟨#[]⟩, .slice none 0 0, .string ⟨#[]⟩]) 4 72 Tryz.underlying22 hi hz0 hz1 hz2 rfl (by decide) _ _ _ rfl (hown1.alloc _) ⟨w1.heap.size, 0, none⟩ 1 1 [.string m, .string t, .slice fad ls.length fcap, .string b] rfl rfl ?c1 ?c2 ?c3 ?c4 ?c5 ?_)
        case c1 =>
          intro j z h
          match j, h with
          | 0, h => simp at h; subst h; simp [Addr.add]
          | 1, h => simp at h; subst h; simp [Addr.add]
          | 2, h => simp at h; subst h; simp [Addr.add]
          | 3, h => simp at h; subst h; simp [Addr.add]
        case c2 => intro z hx; simp at hx; rcases hx with rfl | rfl | rfl | rfl <;> rfl
        case c3 => unfold maxLen; omega
        case c4 => omega
        case c5 => simp; omega
        · intro v' w4 hown' hgrow _
          have hB : Below w.heap.size w w4 := (hw1.alloc (by omega) _).grown hgrow (by simp; omega) (fun b' hb => ((hown1.alloc (.cells #[.string m, .string t, .slice fad ls.length fcap, .string b] 25)).lt b' hb).1)
          have hown4 : w4.ownsRow w.heap.size 25 4 v' ((l0.take (k + 1)).filter wok).length (qvs ((l0.take (k + 1)).filter wok)) := by
            rw [HN2.out, ← qvs_snoc, List.length_append]; exact hown'
          clear hown' hgrow hown1 hw1
          go_wp2_with fail
          go_roundw
          case rel => exact ⟨k + 1, _, by omega, by go_num, rfl, HAY.out, hown4, hB⟩
          case measure => simp [intOf]; omega
      · have hwok : wok (((m.data.toList, t.data.toList), ls, b.data.toList), .slice fad ls.length fcap) = false := by
          unfold wok; rw [hwT]; exact decide_eq_false hc
        rw [hwok] at HN
        have HN2 : Hid ((l0.take (k + 1)).filter wok = (l0.take k).filter wok) := by show _ = _; rw [HN]; simp
        have hcb : (c == 0) = false := by simpa using hc
        clear HN hwT hwok hc
        go_wp2_with fail
        refine (writeQ_at m t (.slice fad ls.length fcap) ls b y c HY.out _ (HF.out.below (below_alloc _ _)) HM.out ((HS.out.below hw).below (below_alloc _ _)) ((HT.out.below hw).below (below_alloc _ _)) H1.out H2.out).mono ?_
        rintro e w1 ⟨rfl, hb0⟩
        have hb1 := below_new hb0
        have hw1 := hw.trans (hb1.mono hsz)
        have hown1 := own_below3 hown hb1
        clear hb0 hown
        go_wp2_with fail
        go_roundw
        case rel => exact ⟨k + 1, a, by omega, by go_num, rfl, by rw [HN2.out]; exact HAL.out, by rw [HN2.out]; exact hown1, hw1⟩
        case measure => simp [intOf]; omega
    · obtain rfl : k = l0.length := by omega
      rw [List.take_length] at hown hfl
      clear has
      obtain ⟨ws, hws⟩ : ∃ ws, ws = l0.filter wok := ⟨_, rfl⟩
      have HW : Hid (∀ x ∈ ws, wok x = true ∧ QOk w x) := by
        intro x hx
        rw [hws] at hx
        exact ⟨(List.mem_filter.1 hx).2, HOK.out x (List.mem_filter.1 hx).1⟩
      have HA2 : Hid (a.data.toList = txt ws) := by show _ = _; rw [HAL.out, List.take_length, hws]
      rw [← hws] at hown hfl
      clear hws HAL
      obtain ⟨ad2, cap2, hv2, hcm2, hcap2, hce2⟩ := own_form2 hown
      subst hv2
      have HOWN : Hid (wr.ownsRow w.heap.size 25 4 (.slice ad2 ws.length cap2) ws.length (qvs ws)) := hown
      clear hown hce2
      have HCE : Hid (0 < l0.length → True) := fun _ => trivial
      go_wp2_with fail
      refine (readQ_nil mm _ (HS.out.below hw) (cell_keep hw HB.out)).mono ?_
      rintro e w2 ⟨v2, rfl, hf2, hb2⟩
      obtain ⟨ad3, cap3, rfl, _⟩ := own_form2 hf2
      have hw2 := hw.trans (hb2.mono hsz)
      have hrl : Rl w2 (.slice ad2 ws.length cap2) ws := Rl.own (own_below3 HOWN.out hb2) (fun x hx => (HW.out x hx).2.below hw2)
      have hsz2 := hw2.size
      clear hb2 hf2 HCE HC
      obtain ⟨⟨ad4, cap4, hv4, _, _, hc4⟩, hok4⟩ := hrl
      obtain ⟨rfl, _, rfl⟩ := Value.slice.inj hv4
      have HC4 : Hid (0 < ws.length → ∃ g off, ad2 = some ⟨g, off, none⟩ ∧ g < w2.heap.size ∧ ∀ (k : Nat) (h : k < ws.length) (j : Nat), j < 4 → w2.cell? ⟨g, off + k * 4 + j, none⟩ = (q4 ws[k])[j]?) := hc4
      have HOK4 : Hid (∀ x ∈ ws, QOk w2 x) := hok4
      clear hc4 hok4 hv4
      go_wp2_with fail
      go_loopw [3, 47] (fun al i wr => ∃ (k : Nat) (a : ByteArray), k ≤ ws.length ∧ i = .int .i64 k ∧ al = .string a ∧ a.data.toList = txt (ws.drop k) ∧ Below w2.heap.size w2 wr) (fun _ i _ => ws.length - (intOf i).toNat)
      case atStart => exact ⟨0, a, Nat.zero_le _, rfl, rfl, HA2.out, below_alloc _ _⟩
      case round =>
        obtain ⟨k, a, hk, rfl, rfl, hal, hw3⟩ := hrel
        have hsz3 := hw3.size
        have HAL : Hid (a.data.toList = txt (ws.drop k)) := hal
        have has : a.size ≤ 1152921504606846976 := by
          have := txt_len (ws.drop k) (fun x hx => (HW.out x (List.mem_of_mem_drop hx)).1)
          rw [← hal, size_list, List.length_drop] at this
          omega
        clear hal
        by_cases hlt : k < ws.length
        · obtain ⟨g, off, rfl, hgs, hce⟩ := HC4.out (by omega)
          have hq := HOK4.out ws[k] (List.getElem_mem hlt)
          have hwk := (HW.out ws[k] (List.getElem_mem hlt)).1
          have hdr : ws.drop k = ws[k] :: ws.drop (k + 1) := List.drop_eq_getElem_cons hlt
          obtain ⟨x, hx⟩ : ∃ x, x = ws[k] := ⟨_, rfl⟩
          rw [← hx] at hq hwk hdr
          have hce' := hce k hlt
          rw [← hx] at hce'
          obtain ⟨⟨⟨m', t'⟩, ls, b'⟩, fv⟩ := x
          obtain ⟨m, rfl⟩ := ba_of m'
          obtain ⟨t, rfl⟩ := ba_of t'
          obtain ⟨b, rfl⟩ := ba_of b'
          obtain ⟨hfl0, hmo, hm1, ht1, hb1⟩ := hq
          simp only at hfl0 hmo hm1 ht1 hb1
          obtain ⟨fad, fcap, hfv, _⟩ := id hfl0
          subst hfv
          have e0 := (hw3.cell (p := ⟨g, off + k * 4, none⟩) hgs).trans (hce' 0 (by decide))
          have e1 := (hw3.cell (p := ⟨g, off + k * 4 + 1, none⟩) hgs).trans (hce' 1 (by decide))
          have e2 := (hw3.cell (p := ⟨g, off + k * 4 + 2, none⟩) hgs).trans (hce' 2 (by decide))
          have e3 := (hw3.cell (p := ⟨g, off + k * 4 + 3, none⟩) hgs).trans (hce' 3 (by decide))
          replace e0 : wr.cell? ⟨g, off + k * 4, none⟩ = some (.string m) := e0
          replace e1 : wr.cell? ⟨g, off + k * 4 + 1, none⟩ = some (.string t) := e1
          replace e2 : wr.cell? ⟨g, off + k * 4 + 2, none⟩ = some (.slice fad ls.length fcap) := e2
          replace e3 : wr.cell? ⟨g, off + k * 4 + 3, none⟩ = some (.string b) := e3
          have HF : Hid (Fl wr (.slice fad ls.length fcap) ls) := hfl0.below hw3
          have hgr : g < wr.heap.size := by omega
          have hki : (k : Int) < (ws.length : Int) := by omega
          have hk0 : (0 : Int) ≤ (k : Int) := by omega
          obtain ⟨hys, hy1, hyT⟩ := wT_len _ hwk
          obtain ⟨y, hy⟩ := ba_of (wT (((m.data.toList, t.data.toList), ls, b.data.toList), .slice fad ls.length fcap)).1
          rw [← hy] at hyT
          rw [← hy, size_list] at hys hy1
          have HY : Hid (wrQ (KQ m.data.toList) m.data.toList t.data.toList ls b.data.toList = (y.data.toList, 0)) := hyT
          have hay : a.data.toList = y.data.toList ++ txt (ws.drop (k + 1)) := by rw [HAL.out, hdr, txt_cons, hy]
          have HAY : Hid (a.data.toList = y.data.toList ++ txt (ws.drop (k + 1))) := hay
          have hya : y.size ≤ a.size := by
            have := congrArg List.length hay
            rw [List.length_append, size_list, size_list] at this
            omega
          obtain ⟨r, hr, hrs, hsl⟩ := slice_from a y.size hya
          have HR : Hid (r.data.toList = txt (ws.drop (k + 1))) := by
            show _ = _
            rw [hr, hay]
            exact List.drop_left' (size_list y)
          have hg1 : ¬ (y.size : Int) < 1 := by omega
          have hg2 : ¬ (a.size : Int) < (y.size : Int) := by omega
          have hwb := hw2.trans (hw3.mono hsz2)
          clear hce hce' hfl0 hmo hm1 ht1 hb1 hx hwk hdr hay hr hyT hy
          go_wp2_with fail
          refine (readQ_back a m t b y ls (txt (ws.drop (k + 1))) HY.out HAY.out has mm _ (HS.out.below (hwb.alloc hwb.size _)) (cell_keep (hwb.alloc hwb.size _) HB.out)).mono ?_
          rintro e w5 ⟨v5, rfl, hf5, hb5'⟩
          obtain ⟨ad5, cap5, rfl, _⟩ := own_form2 hf5
          have HF5 : Hid (Fl w5 (.slice ad5 ls.length cap5) ls) := hf5.fl
          have d0 : w5.cell? ⟨wr.heap.size, 0, none⟩ = some (.string m) := new_cell hb5' 0
          have d1 : w5.cell? ⟨wr.heap.size, 1, none⟩ = some (.string t) := new_cell hb5' 1
          have d2 : w5.cell? ⟨wr.heap.size, 2, none⟩ = some (.slice fad ls.length fcap) := new_cell hb5' 2
          have d3 : w5.cell? ⟨wr.heap.size, 3, none⟩ = some (.string b) := new_cell hb5' 3
          have hlt5 : wr.heap.size < w5.heap.size := by have := hb5'.size; rw [World.size_alloc] at this; omega
          have hb5 := below_new hb5'
          have HF0 : Hid (Fl w5 (.slice fad ls.length fcap) ls) := HF.out.below hb5
          have hw5 := hw3.trans (hb5.mono hsz3)
          clear hb5 hb5' hf5 hw3 e0 e1 e2 e3
          go_wp2_with fail
          refine (sameQ_at m t b _ _ ls _ (HF5.out.below (below_alloc _ _)) (HF0.out.below (below_alloc _ _))).mono ?_
          rintro e w6 ⟨rfl, hb6⟩
          have hw6 := hw5.trans ((below_new hb6).mono hw5.size)
          clear hb6 hw5
          go_wp2_with fail
          go_roundw
          case rel => exact ⟨k + 1, r, by omega, by go_num, rfl, HR.out, hw6⟩
          case measure => simp [intOf]; omega
        · obtain rfl : k = ws.length := by omega
          have hae : a = ⟨#[]⟩ := ba_same (by rw [HAL.out, List.drop_length]; rfl)
          subst hae
          go_wp2_with fail
          go_ret
          exact ⟨ret_bool (by simp), hw2.trans (hw3.mono hsz2)⟩
end Go.Proofs.YtipfjpihciiikabGreatDoor

/-
  A list of fields that came in, opened as a plain list of names and values; no program is named here.
-/
namespace Go.Proofs.YtipfjpihciiikabGreatDoor
open Go.RowKit Go.ChangeShapes Go.WideShapes Go.Deep

def bytesOfV : Value → List UInt8
  | .string s => s.data.toList
  | _ => []
theorem add_form (b off n : Nat) : (⟨b, off, none⟩ : Addr).add n = ⟨b, off + n, none⟩ := by
  by_cases h0 : n = 0
  · subst h0; simp [Addr.add]
  · simp [Addr.add, h0]
def fl1 {H : Type} (y : Fld) : DataW H := .agg [.lit (.string y.1), .lit (.string y.2)]

theorem open_fl {H : Type} {enc : TypeId × Value → H} {P : Program} {w : World} {base : Nat} {spare : Nat → Bool} {held : Bool} {t e : TypeId} {f0 f1 : Field} {fuel : Nat} {v : Value} {x : DataW H × List MemPlace}
    (ht : P.underlying t = some (.slice e)) (he : P.underlying e = some (.struct #[f0, f1])) (ce : P.cellsOf e = 2) (o0 : f0.offset = 0) (o1 : f1.offset = 1) (c0 : P.cellsOf f0.type = 1) (c1 : P.cellsOf f1.type = 1)
    (s0 : P.underlying f0.type = some .string) (s1 : P.underlying f1.type = some .string) (h : DataW.trod enc P w base spare held fuel t [v] = some x) :
    ∃ (ls : List Fld) (sp : List (DataW H)), Fl w v ls ∧ Most maxLen ls ∧ (x.1 = .nil ∧ ls = [] ∨ x.1 = .slice (ls.map fl1) sp) := by
  rcases open_slice_pairs ht he ce o0 o1 c0 c1 h with ⟨hcs, hx⟩ | ⟨a, len, cap, m, n, V0, V1, D0, D1, P0, P1, hcs, _, hl, hm, hmm, hx, hi⟩
  · simp only [List.cons.injEq, and_true] at hcs
    subst hcs
    have hM : Most maxLen [] := fun y hy => by cases hy
    exact ⟨[], [], Fl.nil w, hM, Or.inl ⟨by rw [hx], rfl⟩⟩
  · simp only [List.cons.injEq, and_true] at hcs
    subst hcs
    have hlm : len ≤ m := by rw [hmm]; split <;> omega
    have each : ∀ i, i < len → V0 i = .string ⟨(bytesOfV (V0 i)).toArray⟩ ∧ V1 i = .string ⟨(bytesOfV (V1 i)).toArray⟩ ∧ D0 i = .lit (.string (bytesOfV (V0 i))) ∧ D1 i = .lit (.string (bytesOfV (V1 i))) ∧ (bytesOfV (V0 i)).length ≤ maxLen ∧ (bytesOfV (V1 i)).length ≤ maxLen := by
      intro i hil
      obtain ⟨_, _, t0, t1⟩ := hi i (by omega)
      obtain ⟨a0, ha0, hd0, hz0⟩ := DataW.trod_string s0 t0
      obtain ⟨a1, ha1, hd1, hz1⟩ := DataW.trod_string s1 t1
      simp only [List.cons.injEq, and_true] at ha0 ha1
      simp only [Prod.mk.injEq] at hd0 hd1
      rw [ha0, ha1, hd0.1, hd1.1]
      refine ⟨rfl, rfl, rfl, rfl, ?_, ?_⟩
      · show a0.data.toList.length ≤ maxLen; rw [size_list]; exact hz0
      · show a1.data.toList.length ≤ maxLen; rw [size_list]; exact hz1
    refine ⟨(List.range len).map fun i => (bytesOfV (V0 i), bytesOfV (V1 i)), (List.range (m - len)).map fun j => .agg [D0 (len + j), D1 (len + j)], ⟨some a, cap, by simp, by simpa using hl, hm, fun h0 => ?_⟩, ?_, .inr ?_⟩
    rotate_left
    · intro y hy
      obtain ⟨i, hir, rfl⟩ := List.mem_map.1 hy
      obtain ⟨_, _, _, _, h5, h6⟩ := each i (List.mem_range.1 hir)
      exact ⟨h5, h6⟩
    · rw [hx]
      show DataW.slice _ _ = DataW.slice _ _
      congr 1
      rw [List.map_map]
      refine List.map_congr_left fun i hir => ?_
      obtain ⟨_, _, h3, h4, _⟩ := each i (List.mem_range.1 hir)
      show DataW.agg [D0 i, D1 i] = DataW.agg _
      rw [h3, h4]
    · simp only [List.length_map, List.length_range] at h0 ⊢
      obtain ⟨b, off, spot⟩ := a
      have hc0 := (hi 0 (by omega)).1
      have hspot : spot = none := by simpa [Addr.add] using World.cell?_spot hc0
      subst hspot
      refine ⟨b, off, rfl, ?_, fun k hk => ?_⟩
      · rw [add_form] at hc0
        exact cell_in hc0
      · obtain ⟨q0, q1, _⟩ := hi k (by omega)
        obtain ⟨h1, h2, _⟩ := each k hk
        rw [add_form] at q0 q1
        rw [List.getElem_map, List.getElem_range]
        refine ⟨?_, ?_⟩
        · rw [q0, h1]; rfl
        · rw [Nat.add_assoc, q1, h2]; rfl
end Go.Proofs.YtipfjpihciiikabGreatDoor

/-
  A list of requests that came in, opened as a plain list; no program is named here.
-/
namespace Go.Proofs.YtipfjpihciiikabGreatDoor
open Go.RowKit Go.ChangeShapes Go.WideShapes Go.Deep

theorem open_rl {H : Type} {enc : TypeId × Value → H} {P : Program} {w : World} {base : Nat} {spare : Nat → Bool} {held : Bool} {t q e : TypeId} {g0 g1 g2 g3 f0 f1 : Field} {sa : Option Addr} {sn sc : Nat} {d : DataW H} {p : List MemPlace}
    (ht : P.underlying t = some (.slice q)) (hq : P.underlying q = some (.struct #[g0, g1, g2, g3])) (hone : oneCellFields P #[g0, g1, g2, g3] = true) (hC : P.cellsOf q = 4)
    (s0 : P.underlying g0.type = some .string) (s1 : P.underlying g1.type = some .string) (s2 : P.underlying g2.type = some (.slice e)) (sb : P.underlying g3.type = some .string)
    (he : P.underlying e = some (.struct #[f0, f1])) (ce : P.cellsOf e = 2) (o0 : f0.offset = 0) (o1 : f1.offset = 1) (c0 : P.cellsOf f0.type = 1) (c1 : P.cellsOf f1.type = 1)
    (u0 : P.underlying f0.type = some .string) (u1 : P.underlying f1.type = some .string) (h : DataW.Trod enc P w base spare held t (.slice sa sn sc) d p) :
    ∃ (qs : List Qv), Rl w (.slice sa sn sc) qs ∧ (qs = [] ∨ ∃ es ss : List (DataW H), d = .slice es ss ∧ es.length = qs.length) := by
  obtain ⟨fuel, hf⟩ := h
  rcases open_slice ht hf with ⟨hcs, hx⟩ | ⟨a, len, cap, m, n, D, Pl, hcs, _, hl, hm, hmm, hx, hi⟩
  · simp [Value.cells] at hcs
    obtain ⟨rfl, rfl, rfl⟩ := hcs
    exact ⟨[], Rl.nil w, .inl rfl⟩
  · simp [Value.cells] at hcs
    obtain ⟨rfl, rfl, rfl⟩ := hcs
    have hlm : sn ≤ m := by rw [hmm]; split <;> omega
    obtain ⟨z0, k0⟩ := hone_of hone 0 g0 rfl
    obtain ⟨z1, k1⟩ := hone_of hone 1 g1 rfl
    obtain ⟨z2, k2⟩ := hone_of hone 2 g2 rfl
    obtain ⟨z3, k3⟩ := hone_of hone 3 g3 rfl
    have each : ∀ i, i < sn → ∃ x : Qv, QOk w x ∧ ∀ j, j < 4 → w.cell? (a.add (i * 4 + j)) = (q4 x)[j]? := by
      intro i hil
      obtain ⟨cs, hcs, htr⟩ := hi i (by omega)
      rw [hC] at hcs
      obtain ⟨_, hlen, hcell⟩ := World.cells?_some hcs
      obtain ⟨y0, y1, y2, y3, n', _, _, t0, t1, t2, t3⟩ := Go.Joins.trod_struct4 hq htr
      match cs, hlen with
      | [v0, v1, v2, v3], _ =>
        simp [z0, z1, z2, z3, k0, k1, k2, k3] at t0 t1 t2 t3
        obtain ⟨a0, ha0, _, b0⟩ := DataW.trod_string s0 t0
        obtain ⟨a1, ha1, _, b1⟩ := DataW.trod_string s1 t1
        obtain ⟨a3, ha3, _, b3⟩ := DataW.trod_string sb t3
        obtain ⟨ls, sp, hfl, hmost, _⟩ := open_fl s2 he ce o0 o1 c0 c1 u0 u1 t2
        simp only [List.cons.injEq, and_true] at ha0 ha1 ha3
        subst ha0; subst ha1; subst ha3
        refine ⟨(((a0.data.toList, a1.data.toList), ls, a3.data.toList), v2), ⟨hfl, hmost, by rw [size_list]; exact b0, by rw [size_list]; exact b1, by rw [size_list]; exact b3⟩, fun j hj => ?_⟩
        have e1 := hcell j hj
        rw [add_add] at e1
        rw [e1]
        rfl
    obtain ⟨x, hxx⟩ := choose_lt each
    refine ⟨(List.range sn).map x, ⟨⟨some a, _, by simp, by simpa using hl, hm, fun h0 => ?_⟩, ?_⟩, .inr ⟨_, _, (Prod.mk.inj hx).1, by simp⟩⟩
    · simp only [List.length_map, List.length_range] at h0 ⊢
      obtain ⟨b, off, spot⟩ := a
      have hc0 := (hxx 0 h0).2 0 (by decide)
      have hspot : spot = none := by
        have : (q4 (x 0))[0]? = some (.string ⟨(x 0).1.1.1.toArray⟩) := rfl
        rw [this] at hc0
        simpa [Addr.add] using World.cell?_spot hc0
      subst hspot
      refine ⟨b, off, rfl, ?_, fun k hk j hj => ?_⟩
      · have : (q4 (x 0))[0]? = some (.string ⟨(x 0).1.1.1.toArray⟩) := rfl
        rw [this, add_form] at hc0
        exact cell_in hc0
      · have := (hxx k hk).2 j hj
        rw [add_form] at this
        rw [List.getElem_map, List.getElem_range, ← this, Nat.add_assoc]
    · intro y hy
      obtain ⟨i, hir, rfl⟩ := List.mem_map.1 hy
      exact (hxx i (List.mem_range.1 hir)).1
end Go.Proofs.YtipfjpihciiikabGreatDoor

/-
  What Rest of the document's answers computes, of a number above 0.
-/
namespace Go.Proofs.YtipfjpihciiikabGreatDoor
open Go.RowKit

set_option maxHeartbeats 1000000 in
set_option maxRecDepth 100000 in
theorem rest_pos (x : Int) (n : Nat) (hn : 0 < n) (hn' : n ≤ 1000000) (hx : (Lit.int .i64 x).wf = true) (w : World) :
    Calls Tryz.prog 10 #[.int .i64 x, .int .i64 (n : Int)] w fun e w' => ∃ k : Nat, k < n ∧ e = .returned (.int .i64 (k : Int)) ∧ w' = w := by
  have hb : -9223372036854775808 ≤ x ∧ x ≤ 9223372036854775807 := by simpa [Lit.wf, IntKind.min, IntKind.max, IntKind.signed, IntKind.bits] using hx
  obtain ⟨hb1, hb2⟩ := hb
  have hm1 : -(n : Int) < x.tmod n := Int.lt_tmod_of_pos x (by omega)
  have hm2 : x.tmod n < n := Int.tmod_lt_of_pos x (by omega)
  have hz : ((n : Int) == 0) = false := by rw [beq_eq_false_iff_ne]; omega
  have hz1 : (n : Int) ≠ 0 := by omega
  clear hx
  go_enter Tryz.func10, Tryz.ntmps10
  go_wp2
  · have hneg : x.tmod n < 0 := by assumption
    go_ret
    exact ⟨(x.tmod n + n).toNat, by omega, congrArg (fun y => Ending.returned (.int .i64 y)) (by simp; omega), rfl⟩
  · have hpos : 0 ≤ x.tmod n := by assumption
    go_ret
    exact ⟨(x.tmod n).toNat, by omega, congrArg (fun y => Ending.returned (.int .i64 y)) (by simp; omega), rfl⟩
end Go.Proofs.YtipfjpihciiikabGreatDoor

/-
  The walk through MsgShort: it answers true and turns nothing that was there; the listed variables that the library reads hold what their text lays.
-/
namespace Go.Proofs.YtipfjpihciiikabGreatDoor
open Go.RowKit

set_option maxHeartbeats 2000000 in
set_option maxRecDepth 100000 in
theorem walkMsgShort (a0m a0t : ByteArray) (a0v : Value) (l0 : List Fld) (a0b : ByteArray) (a1 : Int) (w : World) (z0 : Fl w a0v l0) (m0 : Most maxLen l0) (x0 : a0m.size ≤ maxLen) (y0 : a0t.size ≤ maxLen) (_u0 : a0b.size ≤ maxLen) (z1 : (Lit.int .i64 a1).wf = true) (hm : ∃ m, w.cell? ⟨0, 0, none⟩ = some (.int .i64 m)) (hT : STabs w) (hH : HTab w) :
    Calls Tryz.prog 4 #[.agg #[.string a0m, .string a0t, a0v, .string a0b], .int .i64 a1] w fun e w' => e = .returned (.bool true) ∧ Below w.heap.size w w' := by
  obtain ⟨mm, hm⟩ := hm
  have HB : Hid (w.cell? ⟨0, 0, none⟩ = some (.int .i64 mm)) := hm
  have HF : Hid (Fl w a0v l0) := z0
  have HM : Hid (Most maxLen l0) := m0
  have HS : Hid (STabs w) := hT
  have HT : Hid (HTab w) := hH
  have H1 : Hid (a0m.size ≤ maxLen) := x0
  have H2 : Hid (a0t.size ≤ maxLen) := y0
  have H3 : Hid ((Lit.int .i64 a1).wf = true) := z1
  clear z0 m0 x0 y0 _u0 hT hH hm z1
  obtain ⟨x, c, hx⟩ : ∃ (x : ByteArray) (c : Int), wrQ (KQ a0m.data.toList) a0m.data.toList a0t.data.toList l0 a0b.data.toList = (x.data.toList, c) := ⟨⟨(wrQ (KQ a0m.data.toList) a0m.data.toList a0t.data.toList l0 a0b.data.toList).1.toArray⟩, _, rfl⟩
  have HX : Hid (wrQ (KQ a0m.data.toList) a0m.data.toList a0t.data.toList l0 a0b.data.toList = (x.data.toList, c)) := hx
  by_cases hc : c = 0
  · subst hc
    have hxs : x.size ≤ 80000 := by rw [← size_list]; exact wrQ_len (kd_ok true a0m.data.toList 0) hx
    have hx0 : 0 < x.size := by
      rcases Nat.eq_zero_or_pos x.size with h0 | h0
      · exact absurd (List.eq_nil_of_length_eq_zero (by rw [size_list]; exact h0)) (wrQ_full hx)
      · exact h0
    have hem : x.toList.isEmpty = false := by
      rw [ByteArray.toList_eq, isEmpty_size]; exact decide_eq_false (by omega)
    have HSH : Hid (∀ n, n < x.size → rdQ KQr (x.data.toList.take n) = (([], []), [], [], 0, 8)) := by
      intro n hn
      exact q_short (K := KQr) (kd_ok true a0m.data.toList 0) (kd_four a0m.data.toList 0) hx n (by rw [size_list]; exact hn)
    clear hx
    go_enter Tryz.func4, Tryz.ntmps4
    go_wp2_with fail
    refine (writeQ_at a0m a0t a0v l0 a0b x 0 HX.out _ (HF.out.below (below_alloc _ _)) HM.out (HS.out.below (below_alloc _ _)) (HT.out.below (below_alloc _ _)) H1.out H2.out).mono ?_
    rintro e w1 ⟨rfl, hb0⟩
    have c0 : w1.cell? ⟨w.heap.size, 0, none⟩ = some (.string a0m) := new_cell hb0 0
    have c1 : w1.cell? ⟨w.heap.size, 1, none⟩ = some (.string a0t) := new_cell hb0 1
    have c2 : w1.cell? ⟨w.heap.size, 2, none⟩ = some a0v := new_cell hb0 2
    have c3 : w1.cell? ⟨w.heap.size, 3, none⟩ = some (.string a0b) := new_cell hb0 3
    have hlt : w.heap.size < w1.heap.size := by have := hb0.size; rw [World.size_alloc] at this; omega
    have hb1 := below_new hb0
    clear hb0
    go_wp2_with fail
    refine (readQ_nil mm _ (HS.out.below hb1) (cell_keep hb1 HB.out)).mono ?_
    rintro e w2 ⟨v2, rfl, hf2, hb2⟩
    obtain ⟨ad2, cap2, rfl, _⟩ := own_form2 hf2
    have hw2 := hb1.trans (hb2.mono hb1.size)
    have d0 := (hb2.cell (p := ⟨w.heap.size, 0, none⟩) hlt).trans c0
    have d1 := (hb2.cell (p := ⟨w.heap.size, 1, none⟩) hlt).trans c1
    have d2 := (hb2.cell (p := ⟨w.heap.size, 2, none⟩) hlt).trans c2
    have d3 := (hb2.cell (p := ⟨w.heap.size, 3, none⟩) hlt).trans c3
    have hlt2 := Nat.lt_of_lt_of_le hlt hb2.size
    clear c0 c1 c2 c3 hb1 hb2 hf2 hlt
    go_wp2_with fail
    refine (rest_pos a1 x.size (by omega) (by omega) H3.out _).mono ?_
    rintro e w3 ⟨k, hk, rfl, rfl⟩
    obtain ⟨s, hs⟩ : ∃ s : ByteArray, s = x.extract 0 k := ⟨_, rfl⟩
    have HXK : Hid (x.extract 0 k = s) := hs.symm
    have hsd : s.data.toList = x.data.toList.take k := by rw [hs, Lib.extract_data, List.drop_zero]; rfl
    have hss : s.size ≤ 80000 := by rw [hs, ByteArray.size_extract]; omega
    have HPA : Hid (rdQ KQr s.data.toList = (((⟨#[]⟩ : ByteArray).data.toList, (⟨#[]⟩ : ByteArray).data.toList), [], (⟨#[]⟩ : ByteArray).data.toList, 0, 8)) := by show _ = _; rw [hsd]; exact HSH.out k hk
    have hki : (k : Int) ≤ (x.size : Int) := by omega
    clear hs hsd
    go_wp2_with fail
    rw [HXK.out]
    refine (readQ_at s ⟨#[]⟩ ⟨#[]⟩ ⟨#[]⟩ [] 0 8 HPA.out mm _ (by omega) (HS.out.below (hw2.alloc hw2.size _)) (cell_keep (hw2.alloc hw2.size _) HB.out)).mono ?_
    rintro e w4 ⟨v4, rfl, hf4, hb4'⟩
    have hb4 := below_new hb4'
    obtain ⟨ad4, cap4, rfl, _⟩ := own_form2 hf4
    have HF4 : Hid (Fl w4 (.slice ad4 ([] : List Fld).length cap4) []) := hf4.fl
    have hw4 := hw2.trans (hb4.mono hw2.size)
    clear d0 d1 d2 d3 hb4 hb4' hf4 hw2 hlt2
    go_wp2_with fail
    refine (sameQ_at ⟨#[]⟩ ⟨#[]⟩ ⟨#[]⟩ _ _ [] _ (HF4.out.below (below_alloc _ _)) (Fl.nil _)).mono ?_
    rintro e w5 ⟨rfl, hb5⟩
    have hw5 := hw4.trans ((below_new hb5).mono hw4.size)
    clear hb5 hw4
    go_wp2_with fail
    go_ret
    exact ⟨ret_bool (by simp), hw5⟩
  · have hxe : x = ⟨#[]⟩ := ba_same (wrQ_bad hx hc)
    subst hxe
    have hcb : (c != 0) = true := by simpa using hc
    clear hx hc
    go_enter Tryz.func4, Tryz.ntmps4
    go_wp2_with fail
    refine (writeQ_at a0m a0t a0v l0 a0b ⟨#[]⟩ c HX.out _ (HF.out.below (below_alloc _ _)) HM.out (HS.out.below (below_alloc _ _)) (HT.out.below (below_alloc _ _)) H1.out H2.out).mono ?_
    rintro e w1 ⟨rfl, hb0⟩
    have hb1 := below_new hb0
    clear hb0
    go_wp2_with fail
    refine (readQ_nil mm _ (HS.out.below hb1) (cell_keep hb1 HB.out)).mono ?_
    rintro e w2 ⟨v2, rfl, hf2, hb2⟩
    obtain ⟨ad2, cap2, rfl, _⟩ := own_form2 hf2
    have hw2 := hb1.trans (hb2.mono hb1.size)
    clear hb1 hb2 hf2
    go_wp2_with fail
    go_ret
    exact ⟨ret_bool (by simp), hw2.alloc hw2.size _⟩
end Go.Proofs.YtipfjpihciiikabGreatDoor

/-
  The walk through MsgAgain: it answers true and turns nothing that was there; the text is of bulk at most 1048576, and the listed variables that the library reads hold what their text lays.
-/
namespace Go.Proofs.YtipfjpihciiikabGreatDoor
open Go.RowKit

set_option maxHeartbeats 2000000 in
set_option maxRecDepth 100000 in
theorem walkMsgAgain (a0 : ByteArray) (w : World) (z0 : a0.size ≤ 1048576) (hm : ∃ m, w.cell? ⟨0, 0, none⟩ = some (.int .i64 m)) (hT : STabs w) (hH : HTab w) :
    Calls Tryz.prog 5 #[.string a0] w fun e w' => e = .returned (.bool true) ∧ Below w.heap.size w w' := by
  obtain ⟨mm, hm⟩ := hm
  have HB : Hid (w.cell? ⟨0, 0, none⟩ = some (.int .i64 mm)) := hm
  have HS : Hid (STabs w) := hT
  have HT : Hid (HTab w) := hH
  have HZ : Hid (a0.size < 4294967281) := by show _ < _; omega
  clear hm hT hH
  rcases q_is (K := KQr) (fun m => kd_ok true m 0) (fun m => kd_four m 0) a0.data.toList with ⟨c, hc, hx⟩ | ⟨m', t', fs, b', n, u', hx, hwr, hn, hme, hta, hck, _⟩
  · have HX : Hid (rdQ KQr a0.data.toList = (((⟨#[]⟩ : ByteArray).data.toList, (⟨#[]⟩ : ByteArray).data.toList), [], (⟨#[]⟩ : ByteArray).data.toList, 0, c)) := hx
    have hcb : (c != 0) = true := by simpa using hc
    clear hx hc
    go_enter Tryz.func5, Tryz.ntmps5
    go_wp2_with fail
    refine (readQ_at a0 ⟨#[]⟩ ⟨#[]⟩ ⟨#[]⟩ [] 0 c HX.out mm _ HZ.out HS.out HB.out).mono ?_
    rintro e w1 ⟨v1, rfl, hf1, hb1⟩
    obtain ⟨ad1, cap1, rfl, _⟩ := own_form2 hf1
    have HF1 : Hid (FlO w.heap.size w1 (.slice ad1 ([] : List Fld).length cap1) []) := hf1
    have hlt1 := hb1.size
    clear hf1
    go_wp2_with fail
    refine (readQ_nil mm _ ((HS.out.below hb1).below (below_alloc _ _)) (cell_keep (below_alloc _ _) (cell_keep hb1 HB.out))).mono ?_
    rintro e w2 ⟨v2, rfl, hf2, hb0⟩
    obtain ⟨ad2, cap2, rfl, _⟩ := own_form2 hf2
    have d0 : w2.cell? ⟨w1.heap.size, 0, none⟩ = some (.string ⟨#[]⟩) := new_cell hb0 0
    have d1 : w2.cell? ⟨w1.heap.size, 1, none⟩ = some (.string ⟨#[]⟩) := new_cell hb0 1
    have d2 : w2.cell? ⟨w1.heap.size, 2, none⟩ = some (.slice ad1 ([] : List Fld).length cap1) := new_cell hb0 2
    have d3 : w2.cell? ⟨w1.heap.size, 3, none⟩ = some (.string ⟨#[]⟩) := new_cell hb0 3
    have hlt : w1.heap.size < w2.heap.size := by have := hb0.size; rw [World.size_alloc] at this; omega
    have hb2 := below_new hb0
    have HF12 : Hid (Fl w2 (.slice ad1 ([] : List Fld).length cap1) []) := (HF1.out.below hb2).fl
    have hw2 := hb1.trans (hb2.mono hb1.size)
    clear hb1 hb2 hb0 hf2
    go_wp2_with fail
    refine (sameQ_at ⟨#[]⟩ ⟨#[]⟩ ⟨#[]⟩ _ _ [] _ (HF12.out.below (below_alloc _ _)) (Fl.nil _)).mono ?_
    rintro e w4 ⟨rfl, hb4⟩
    have hw4 := hw2.trans ((below_new hb4).mono hw2.size)
    clear hb4 hw2
    go_wp2_with fail
    go_ret
    exact ⟨ret_bool (by simp), hw4⟩
  · obtain ⟨m, rfl⟩ := ba_of m'
    obtain ⟨t, rfl⟩ := ba_of t'
    obtain ⟨b, rfl⟩ := ba_of b'
    obtain ⟨u, rfl⟩ := ba_of u'
    have HX : Hid (rdQ KQr a0.data.toList = ((m.data.toList, t.data.toList), fs, b.data.toList, n, 0)) := hx
    have HW : Hid (wrQ (KQ m.data.toList) m.data.toList t.data.toList fs b.data.toList = (u.data.toList, 0)) := hwr
    have HMO : Hid (Most maxLen fs) := most_chk fs hck
    have hml := (meth_is _ hme).2
    have htl := (targ_is _ hta).2.2
    rw [size_list] at hml htl
    have H1 : Hid (m.size ≤ maxLen) := by show _ ≤ _; unfold maxLen; omega
    have H2 : Hid (t.size ≤ maxLen) := by show _ ≤ _; unfold maxLen; omega
    have hus : u.size ≤ 80000 := by rw [← size_list]; exact wrQ_len (kd_ok true m.data.toList 0) hwr
    have hq := q_back (K := KQr) (kd_ok true m.data.toList 0) (kd_four m.data.toList 0) [] hwr
    rw [List.append_nil, size_list] at hq
    have HQ : Hid (rdQ KQr u.data.toList = ((m.data.toList, t.data.toList), fs, b.data.toList, u.size, 0)) := hq
    have hns : (n : Int) ≤ (a0.size : Int) := by rw [size_list] at hn; omega
    clear hx hwr hme hta hck hml htl hq hn
    go_enter Tryz.func5, Tryz.ntmps5
    go_wp2_with fail
    refine (readQ_at a0 m t b fs n 0 HX.out mm _ HZ.out HS.out HB.out).mono ?_
    rintro e w1 ⟨v1, rfl, hf1, hb1⟩
    obtain ⟨ad1, cap1, rfl, _⟩ := own_form2 hf1
    have HF1 : Hid (FlO w.heap.size w1 (.slice ad1 fs.length cap1) fs) := hf1
    have hlt1 := hb1.size
    clear hf1
    go_wp2_with fail
    refine (readQ_nil mm _ ((HS.out.below hb1).below (below_alloc _ _)) (cell_keep (below_alloc _ _) (cell_keep hb1 HB.out))).mono ?_
    rintro e w2 ⟨v2, rfl, hf2, hb0⟩
    obtain ⟨ad2, cap2, rfl, _⟩ := own_form2 hf2
    have d0 : w2.cell? ⟨w1.heap.size, 0, none⟩ = some (.string m) := new_cell hb0 0
    have d1 : w2.cell? ⟨w1.heap.size, 1, none⟩ = some (.string t) := new_cell hb0 1
    have d2 : w2.cell? ⟨w1.heap.size, 2, none⟩ = some (.slice ad1 fs.length cap1) := new_cell hb0 2
    have d3 : w2.cell? ⟨w1.heap.size, 3, none⟩ = some (.string b) := new_cell hb0 3
    have hlt : w1.heap.size < w2.heap.size := by have := hb0.size; rw [World.size_alloc] at this; omega
    have hb2 := below_new hb0
    have HF12 : Hid (Fl w2 (.slice ad1 fs.length cap1) fs) := (HF1.out.below hb2).fl
    have hw2 := hb1.trans (hb2.mono hb1.size)
    clear hb1 hb2 hb0 hf2
    go_wp2_with fail
    refine (writeQ_at m t (.slice ad1 fs.length cap1) fs b u 0 HW.out _ (HF12.out.below (below_alloc _ _)) HMO.out (HS.out.below (hw2.alloc hw2.size _)) (HT.out.below (hw2.alloc hw2.size _)) H1.out H2.out).mono ?_
    rintro e w3 ⟨rfl, hb3'⟩
    have hb3 := below_new hb3'
    have hw3 := hw2.trans (hb3.mono hw2.size)
    have HF13 : Hid (Fl w3 (.slice ad1 fs.length cap1) fs) := HF12.out.below hb3
    have c0 := (hb3.cell (p := ⟨w1.heap.size, 0, none⟩) hlt).trans d0
    have c1 := (hb3.cell (p := ⟨w1.heap.size, 1, none⟩) hlt).trans d1
    have c2 := (hb3.cell (p := ⟨w1.heap.size, 2, none⟩) hlt).trans d2
    have c3 := (hb3.cell (p := ⟨w1.heap.size, 3, none⟩) hlt).trans d3
    have hlt3 := Nat.lt_of_lt_of_le hlt hb3.size
    clear d0 d1 d2 d3 hw2 hb3 hb3' hlt
    go_wp2_with fail
    refine (readQ_at u m t b fs u.size 0 HQ.out mm _ (by omega) (HS.out.below hw3) (cell_keep hw3 HB.out)).mono ?_
    rintro e w4 ⟨v4, rfl, hf4, hb4⟩
    obtain ⟨ad4, cap4, rfl, _⟩ := own_form2 hf4
    have HF4 : Hid (Fl w4 (.slice ad4 fs.length cap4) fs) := hf4.fl
    have HF14 : Hid (Fl w4 (.slice ad1 fs.length cap1) fs) := HF13.out.below hb4
    have hw4 := hw3.trans (hb4.mono hw3.size)
    have d0 := (hb4.cell (p := ⟨w1.heap.size, 0, none⟩) hlt3).trans c0
    have d1 := (hb4.cell (p := ⟨w1.heap.size, 1, none⟩) hlt3).trans c1
    have d2 := (hb4.cell (p := ⟨w1.heap.size, 2, none⟩) hlt3).trans c2
    have d3 := (hb4.cell (p := ⟨w1.heap.size, 3, none⟩) hlt3).trans c3
    have hlt4 := Nat.lt_of_lt_of_le hlt3 hb4.size
    clear c0 c1 c2 c3 hw3 hb4 hf4 hlt3
    go_wp2_with fail
    refine (sameQ_at m t b _ _ fs _ (HF4.out.below (below_alloc _ _)) (HF14.out.below (below_alloc _ _))).mono ?_
    rintro e w5 ⟨rfl, hb5⟩
    have hw5 := hw4.trans ((below_new hb5).mono hw4.size)
    clear hb5 hw4
    go_wp2_with fail
    go_ret
    exact ⟨ret_bool (by simp), hw5⟩
end Go.Proofs.YtipfjpihciiikabGreatDoor
