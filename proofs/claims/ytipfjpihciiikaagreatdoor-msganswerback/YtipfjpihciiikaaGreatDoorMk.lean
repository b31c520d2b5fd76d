/-
  What ReadResponse of package msg computes; how the first line and the fields are parsed is told by hypotheses; then of texts of less than 2^32 - 15 bytes.
-/
import Derived.Test.YtipfjpihciiikaaGreatDoorMj
namespace Go.Proofs.YtipfjpihciiikaaGreatDoor
open Go.RowKit

abbrev KPr (mm : List UInt8) : Int → Kd := fun c => kd false mm c
/-- How the first line of s is parsed in the world W. -/
def StatAt (s : ByteArray) (W : World) : Prop :=
  Calls Tryz.prog 31 #[.string s] W fun e w' => e = .returned (.tuple #[.int .i64 (paS s.data.toList).1.1, .string ⟨(paS s.data.toList).1.2.toArray⟩, .int .i64 (paS s.data.toList).2.1, .int .i64 (paS s.data.toList).2.2]) ∧ Below W.heap.size W w'
theorem ret_p {a : Int} {b c : ByteArray} {v v' : Value} {a' : Int} {b' c' : ByteArray} {i j k l : Int} (h1 : a = a') (h2 : b = b') (h3 : v = v') (h4 : c = c') (h5 : i = j) (h6 : k = l) :
    Ending.returned (.tuple #[.agg #[.int .i64 a, .string b, v, .string c], .int .i64 i, .int .i64 k]) = .returned (.tuple #[.agg #[.int .i64 a', .string b', v', .string c'], .int .i64 j, .int .i64 l]) := by rw [h1, h2, h3, h4, h5, h6]
theorem paS_num {s : List UInt8} (h : (paS s).2.2 = 0) : 0 ≤ (paS s).2.1 ∧ (paS s).2.1 ≤ s.length := by
  rcases index_two' s [13, 10] with hi | ⟨k, hi, hk⟩
  · rw [paS_no s hi] at h
    exfalso
    simp only at h
    split at h <;> cases h
  · have hk : k + 2 ≤ s.length := hk
    by_cases hl : 300 < k
    · rw [paS_large s k hi hl] at h; cases h
    · cases hr : rdS (s.take k) with
      | none => rw [paS_bad s k hi (by omega) hr] at h; cases h
      | some x => rw [paS_ok s k hi (by omega) x hr]; simp only; omega
theorem rdB_le {K : Kd} (hK : KdOk K) (s : List UInt8) : (rdB K s).2.2.1 ≤ s.length := by
  by_cases h0 : (parS s []).2.2 = 0
  · by_cases h1 : (K (parS s []).1).2.2 = 0
    · rw [rdB_rb hK h0 h1]
      have hr := par_rest' s
      by_cases h2 : (rbS (K (parS s []).1).1 (K (parS s []).1).2.1 (parS s []).2.1).2.2 = 0
      · rw [if_neg (by simpa using h2)]
        have hn : 0 ≤ (K (parS s []).1).2.1 := by
          rcases hK (parS s []).1 with ⟨e, hk, _⟩ | hk | hk | hk | ⟨n, hk, hn, _⟩ <;> rw [hk] <;> first | exact Int.le_refl _ | exact hn
        have := rb_len (k := (K (parS s []).1).1) (r := (parS s []).2.1) hn
        simp only
        omega
      · rw [if_pos h2]; simp
    · rw [rdB_err h0 h1]; simp
  · rw [rdB_bad h0]; simp
set_option maxHeartbeats 2000000 in
set_option maxRecDepth 100000 in
theorem readP_of (mm : ByteArray) (s : ByteArray) (x : Int) (y t : ByteArray) (fs : List Fld) (i : Nat) (c : Int) (h : rdP (KPr mm.data.toList) s.data.toList = ((x, y.data.toList), fs, t.data.toList, i, c)) (m : Int) (w : World) (hs : s.size ≤ maxLen) (hS : STabs w) (hm : w.cell? ⟨0, 0, none⟩ = some (.int .i64 m))
    (hL : ∀ W : World, W.cell? ⟨0, 0, none⟩ = some (.int .i64 m) → STabs W → StatAt s W) (hP : (paS s.data.toList).2.2 = 0 → ∀ (r : ByteArray) (W : World), r.data.toList = s.data.toList.drop (paS s.data.toList).2.1.toNat → W.cell? ⟨0, 0, none⟩ = some (.int .i64 m) → ParsesAt r W) :
    Calls Tryz.prog 16 #[.string mm, .string s] w fun e w' => ∃ v, e = .returned (.tuple #[.agg #[.int .i64 x, .string y, v, .string t], .int .i64 (i : Int), .int .i64 c]) ∧ FlO w.heap.size w' v fs ∧ Below w.heap.size w w' := by
  have HM : Hid (w.cell? ⟨0, 0, none⟩ = some (.int .i64 m)) := hm
  have HS : Hid (STabs w) := hS
  have HL : Hid (∀ W : World, W.cell? ⟨0, 0, none⟩ = some (.int .i64 m) → STabs W → StatAt s W) := hL
  have HZ : Hid (s.size ≤ maxLen) := hs
  clear hm hS hL hs
  have emp : ∀ z : Int, ((0, []), [], [], 0, z) = ((x, y.data.toList), fs, t.data.toList, i, c) → x = 0 ∧ y = ⟨#[]⟩ ∧ fs = [] ∧ t = ⟨#[]⟩ ∧ i = 0 ∧ c = z := by
    intro z hx
    simp only [Prod.mk.injEq] at hx
    obtain ⟨⟨h1, h2⟩, h3, h4, h5, h6⟩ := hx
    exact ⟨h1.symm, by apply ByteArray.ext; apply Array.ext'; exact h2.symm, h3.symm, by apply ByteArray.ext; apply Array.ext'; exact h4.symm, h5.symm, h6.symm⟩
  obtain ⟨p, q, n, d, hp⟩ : ∃ (p : Int) (q : ByteArray) (n d : Int), paS s.data.toList = ((p, q.data.toList), n, d) := ⟨(paS s.data.toList).1.1, ⟨(paS s.data.toList).1.2.toArray⟩, _, _, rfl⟩
  have HL2 : Hid (∀ o : Obj, Calls Tryz.prog 31 #[.string s] (w.alloc o) fun e w' => e = .returned (.tuple #[.int .i64 p, .string q, .int .i64 n, .int .i64 d]) ∧ Below (w.alloc o).heap.size (w.alloc o) w') := by
    intro o
    have := HL.out (w.alloc o) (cell_keep (below_alloc w o) HM.out) (HS.out.below (below_alloc w o))
    unfold StatAt at this
    rw [hp] at this
    exact this
  unfold rdP at h
  rw [hp] at h
  simp only at h
  by_cases hd : d = 0
  · subst hd
    rw [if_neg (by simp)] at h
    have hn := paS_num (s := s.data.toList) (by rw [hp])
    rw [hp, size_list] at hn
    simp only at hn
    obtain ⟨a, rfl⟩ : ∃ a : Nat, n = (a : Int) := ⟨n.toNat, by omega⟩
    obtain ⟨r, hr, hrs, hsl⟩ := slice_from s a (by omega)
    have HPP : Hid (∀ W : World, W.cell? ⟨0, 0, none⟩ = some (.int .i64 m) → ParsesAt r W) := fun W hW => hP (by rw [hp]) r W (by rw [hp]; simpa using hr) hW
    rw [Int.toNat_natCast, ← hr] at h
    obtain ⟨gs, u, j, f, hu⟩ : ∃ (gs : List Fld) (u : ByteArray) (j : Nat) (f : Int), rdB (KPr mm.data.toList p) r.data.toList = (gs, u.data.toList, j, f) := ⟨_, ⟨(rdB (KPr mm.data.toList p) r.data.toList).2.1.toArray⟩, _, _, rfl⟩
    have HU : Hid (rdB (kd false mm.data.toList p) r.data.toList = (gs, u.data.toList, j, f)) := hu
    rw [hu] at h
    simp only at h
    have HRS : Hid (r.size ≤ maxLen) := by show _ ≤ _; have := HZ.out; omega
    have hsz : s.size ≤ 9223372036854775807 := by have := HZ.out; unfold maxLen at this; omega
    have hal : a ≤ s.size := by omega
    by_cases hf0 : f = 0
    · subst hf0
      rw [if_neg (by simp)] at h
      simp only [Prod.mk.injEq] at h
      obtain ⟨⟨h1, h2⟩, rfl, h4, h5, rfl⟩ := h
      subst h1
      obtain rfl : y = q := by apply ByteArray.ext; apply Array.ext'; exact h2.symm
      obtain rfl : t = u := by apply ByteArray.ext; apply Array.ext'; exact h4.symm
      have hj : j ≤ r.size := by
        have := rdB_le (kd_ok false mm.data.toList p) r.data.toList
        rw [hu, size_list] at this
        exact this
      have hsum : a + j ≤ s.size := by omega
      have HI : Hid ((a : Int) + (j : Int) = (i : Int)) := by show _ = _; omega
      clear hp h2 h4 h5 hu hr hrs emp HL hP hn
      go_enter Tryz.func16, Tryz.ntmps16
      go_wp2_with fail
      refine (HL2.out _).mono ?_
      rintro e w1 ⟨rfl, hb0⟩
      have hz1 := hb0.size
      rw [World.size_alloc] at hz1
      have hk1 := (hb0.block w.heap.size (by simp)).trans (heap_alloc_new _ _)
      have hb1 := below_new hb0
      clear hb0
      have HM1 : Hid (w1.cell? ⟨0, 0, none⟩ = some (.int .i64 m)) := cell_keep hb1 HM.out
      go_wp2_with fail
      refine (rrest_of false mm p r t gs j 0 HU.out m _ HRS.out (HS.out.below hb1) HM1.out HPP.out).mono ?_
      rintro e w2 ⟨v, rfl, hfl, hb2⟩
      obtain ⟨ad, cap, rfl, _⟩ := own_form2 hfl
      have HFL : Hid (FlO (w.heap.size + 1) w2 (.slice ad gs.length cap) gs) := hfl.le hz1
      have hk2 := (hb2.block w.heap.size (by omega)).trans hk1
      clear hk1
      have hw2 := hb1.trans (hb2.mono hb1.size)
      clear hb1 hb2 hfl
      have z0 := Lib.frozen_of_heap hk2 0
      have z1 := Lib.frozen_of_heap hk2 1
      have z2 := Lib.frozen_of_heap hk2 2
      have z3 := Lib.frozen_of_heap hk2 3
      have c0 : w2.cell? ⟨w.heap.size, 0, none⟩ = some (.int .i64 0) := by simp [World.cell?, hk2]
      have c1 : w2.cell? ⟨w.heap.size, 1, none⟩ = some (.string ⟨#[]⟩) := by simp [World.cell?, hk2]
      have c2 : w2.cell? ⟨w.heap.size, 2, none⟩ = some (.slice none 0 0) := by simp [World.cell?, hk2]
      have c3 : w2.cell? ⟨w.heap.size, 3, none⟩ = some (.string ⟨#[]⟩) := by simp [World.cell?, hk2]
      have HK2 : Hid (w2.heap[w.heap.size]? = _) := hk2
      clear hk2
      go_wp2_with fail
      have e0 := set4_cell (a := .int .i64 p) (b := .string y) (c := .slice ad gs.length cap) (d := .string t) HK2.out 0
      have e1 := set4_cell (a := .int .i64 p) (b := .string y) (c := .slice ad gs.length cap) (d := .string t) HK2.out 1
      have e2 := set4_cell (a := .int .i64 p) (b := .string y) (c := .slice ad gs.length cap) (d := .string t) HK2.out 2
      have e3 := set4_cell (a := .int .i64 p) (b := .string y) (c := .slice ad gs.length cap) (d := .string t) HK2.out 3
      have hfin := HFL.out.set4 (show w.heap.size < w.heap.size + 1 by omega) (.int .i64 p) (.string y) (.slice ad gs.length cap) (.string t)
      have hbl := set4_below (.int .i64 p) (.string y) (.slice ad gs.length cap) (.string t) hw2 (Nat.le_refl _)
      change bodyPost _ _ _ _ _ (set4 w2 w.heap.size (.int .i64 p) (.string y) (.slice ad gs.length cap) (.string t))
      generalize set4 w2 w.heap.size (.int .i64 p) (.string y) (.slice ad gs.length cap) (.string t) = w3 at e0 e1 e2 e3 hfin hbl ⊢
      refine bodyPost_ret (v := .tuple #[.agg #[.int .i64 p, .string y, .slice ad gs.length cap, .string t], .int .i64 ((a : Int) + j), .int .i64 0]) (by simp [results, Tryz.results16, go_sem, e0, e1, e2, e3]) rfl ?_
      exact ⟨_, ret_p rfl rfl rfl rfl HI.out rfl, hfin.le (by omega), hbl⟩
    · rw [if_pos hf0] at h
      obtain ⟨rfl, rfl, rfl, rfl, rfl, rfl⟩ := emp _ h
      have hfb : (c != 0) = true := by simpa using hf0
      clear hp h hu hr hrs emp HL hP hn hf0
      go_enter Tryz.func16, Tryz.ntmps16
      go_wp2_with fail
      refine (HL2.out _).mono ?_
      rintro e w1 ⟨rfl, hb0⟩
      have hz1 := hb0.size
      rw [World.size_alloc] at hz1
      have hk1 := (hb0.block w.heap.size (by simp)).trans (heap_alloc_new _ _)
      have hb1 := below_new hb0
      clear hb0
      have HM1 : Hid (w1.cell? ⟨0, 0, none⟩ = some (.int .i64 m)) := cell_keep hb1 HM.out
      go_wp2_with fail
      refine (rrest_of false mm p r u gs j c HU.out m _ HRS.out (HS.out.below hb1) HM1.out HPP.out).mono ?_
      rintro e w2 ⟨v, rfl, hfl, hb2⟩
      have hk2 := (hb2.block w.heap.size (by omega)).trans hk1
      have hw2 := hb1.trans (hb2.mono hb1.size)
      clear hb1 hb2 hfl hk1
      have z0 := Lib.frozen_of_heap hk2 0
      have z1 := Lib.frozen_of_heap hk2 1
      have z2 := Lib.frozen_of_heap hk2 2
      have z3 := Lib.frozen_of_heap hk2 3
      have c0 : w2.cell? ⟨w.heap.size, 0, none⟩ = some (.int .i64 0) := by simp [World.cell?, hk2]
      have c1 : w2.cell? ⟨w.heap.size, 1, none⟩ = some (.string ⟨#[]⟩) := by simp [World.cell?, hk2]
      have c2 : w2.cell? ⟨w.heap.size, 2, none⟩ = some (.slice none 0 0) := by simp [World.cell?, hk2]
      have c3 : w2.cell? ⟨w.heap.size, 3, none⟩ = some (.string ⟨#[]⟩) := by simp [World.cell?, hk2]
      have HK2 : Hid (w2.heap[w.heap.size]? = _) := hk2
      clear hk2
      go_wp2_with fail
      have e0 := set4_cell (a := .int .i64 0) (b := .string ⟨#[]⟩) (c := .slice none 0 0) (d := .string ⟨#[]⟩) HK2.out 0
      have e1 := set4_cell (a := .int .i64 0) (b := .string ⟨#[]⟩) (c := .slice none 0 0) (d := .string ⟨#[]⟩) HK2.out 1
      have e2 := set4_cell (a := .int .i64 0) (b := .string ⟨#[]⟩) (c := .slice none 0 0) (d := .string ⟨#[]⟩) HK2.out 2
      have e3 := set4_cell (a := .int .i64 0) (b := .string ⟨#[]⟩) (c := .slice none 0 0) (d := .string ⟨#[]⟩) HK2.out 3
      have hbl := set4_below (.int .i64 0) (.string ⟨#[]⟩) (.slice none 0 0) (.string ⟨#[]⟩) hw2 (Nat.le_refl _)
      change bodyPost _ _ _ _ _ (set4 w2 w.heap.size (.int .i64 0) (.string ⟨#[]⟩) (.slice none 0 0) (.string ⟨#[]⟩))
      generalize set4 w2 w.heap.size (.int .i64 0) (.string ⟨#[]⟩) (.slice none 0 0) (.string ⟨#[]⟩) = w9 at e0 e1 e2 e3 hbl ⊢
      refine bodyPost_ret (v := .tuple #[.agg #[.int .i64 0, .string ⟨#[]⟩, .slice none 0 0, .string ⟨#[]⟩], .int .i64 0, .int .i64 c]) (by simp [results, Tryz.results16, go_sem, e0, e1, e2, e3]) rfl ?_
      exact ⟨_, rfl, FlO.nil _ _, hbl⟩
  · rw [if_pos hd] at h
    obtain ⟨rfl, rfl, rfl, rfl, rfl, rfl⟩ := emp _ h
    have hdb : (c != 0) = true := by simpa using hd
    clear hp h emp HL hP hd
    go_enter Tryz.func16, Tryz.ntmps16
    go_wp2_with fail
    refine (HL2.out _).mono ?_
    rintro e w1 ⟨rfl, hb0⟩
    have hk1 := (hb0.block w.heap.size (by simp)).trans (heap_alloc_new _ _)
    have hb1 := below_new hb0
    clear hb0
    have z0 := Lib.frozen_of_heap hk1 0
    have z1 := Lib.frozen_of_heap hk1 1
    have z2 := Lib.frozen_of_heap hk1 2
    have z3 := Lib.frozen_of_heap hk1 3
    have c0 : w1.cell? ⟨w.heap.size, 0, none⟩ = some (.int .i64 0) := by simp [World.cell?, hk1]
    have c1 : w1.cell? ⟨w.heap.size, 1, none⟩ = some (.string ⟨#[]⟩) := by simp [World.cell?, hk1]
    have c2 : w1.cell? ⟨w.heap.size, 2, none⟩ = some (.slice none 0 0) := by simp [World.cell?, hk1]
    have c3 : w1.cell? ⟨w.heap.size, 3, none⟩ = some (.string ⟨#[]⟩) := by simp [World.cell?, hk1]
    have HK2 : Hid (w1.heap[w.heap.size]? = _) := hk1
    clear hk1
    go_wp2_with fail
    have e0 := set4_cell (a := .int .i64 0) (b := .string ⟨#[]⟩) (c := .slice none 0 0) (d := .string ⟨#[]⟩) HK2.out 0
    have e1 := set4_cell (a := .int .i64 0) (b := .string ⟨#[]⟩) (c := .slice none 0 0) (d := .string ⟨#[]⟩) HK2.out 1
    have e2 := set4_cell (a := .int .i64 0) (b := .string ⟨#[]⟩) (c := .slice none 0 0) (d := .string ⟨#[]⟩) HK2.out 2
    have e3 := set4_cell (a := .int .i64 0) (b := .string ⟨#[]⟩) (c := .slice none 0 0) (d := .string ⟨#[]⟩) HK2.out 3
    have hbl := set4_below (.int .i64 0) (.string ⟨#[]⟩) (.slice none 0 0) (.string ⟨#[]⟩) hb1 (Nat.le_refl _)
    change bodyPost _ _ _ _ _ (set4 w1 w.heap.size (.int .i64 0) (.string ⟨#[]⟩) (.slice none 0 0) (.string ⟨#[]⟩))
    generalize set4 w1 w.heap.size (.int .i64 0) (.string ⟨#[]⟩) (.slice none 0 0) (.string ⟨#[]⟩) = w9 at e0 e1 e2 e3 hbl ⊢
    refine bodyPost_ret (v := .tuple #[.agg #[.int .i64 0, .string ⟨#[]⟩, .slice none 0 0, .string ⟨#[]⟩], .int .i64 0, .int .i64 c]) (by simp [results, Tryz.results16, go_sem, e0, e1, e2, e3]) rfl ?_
    exact ⟨_, rfl, FlO.nil _ _, hbl⟩
theorem statP_at (s : ByteArray) (hs : s.size < 4294967281) (m : Int) (W : World) (hW : W.cell? ⟨0, 0, none⟩ = some (.int .i64 m)) (hT : STabs W) : StatAt s W := parseS_at s _ _ _ _ rfl m W hW hT hs
theorem parsesP_at (s : ByteArray) (hs : s.size < 4294967281) (m : Int) (W : World) (hW : W.cell? ⟨0, 0, none⟩ = some (.int .i64 m)) : ParsesAt s W := parse_any s m W hW hs
theorem readP_at (mm : ByteArray) (s : ByteArray) (x : Int) (y t : ByteArray) (fs : List Fld) (i : Nat) (c : Int) (h : rdP (KPr mm.data.toList) s.data.toList = ((x, y.data.toList), fs, t.data.toList, i, c)) (m : Int) (w : World) (hs : s.size < 4294967281) (hS : STabs w) (hm : w.cell? ⟨0, 0, none⟩ = some (.int .i64 m)) :
    Calls Tryz.prog 16 #[.string mm, .string s] w fun e w' => ∃ v, e = .returned (.tuple #[.agg #[.int .i64 x, .string y, v, .string t], .int .i64 (i : Int), .int .i64 c]) ∧ FlO w.heap.size w' v fs ∧ Below w.heap.size w w' :=
  readP_of mm s x y t fs i c h m w (by unfold maxLen; omega) hS hm (fun W hW hT => statP_at s hs m W hW hT) (fun _ r W hr hW => parsesP_at r (by rw [← size_list, hr, List.length_drop, size_list]; omega) m W hW)
end Go.Proofs.YtipfjpihciiikaaGreatDoor

/-
  What LineStatusOf of the document's answers computes, whole; the text has less than 2^32 - 15 bytes, and the package variable that the library's search reads holds some number.
-/
namespace Go.Proofs.YtipfjpihciiikaaGreatDoor
open Go.RowKit

set_option maxHeartbeats 2000000 in
set_option maxRecDepth 100000 in
theorem rparseS_at (s x : ByteArray) (v n c : Int) (h : paS s.data.toList = ((v, x.data.toList), n, c)) (m : Int) (w : World) (hm : w.cell? ⟨0, 0, none⟩ = some (.int .i64 m)) (hs : s.size < 4294967281) :
    Calls Tryz.prog 32 #[.string s] w fun e w' => e = .returned (.tuple #[.int .i64 v, .string x, .int .i64 n, .int .i64 c]) ∧ Below w.heap.size w w' := by
  have hsl := size_list s
  rcases index_two' s.data.toList [13, 10] with hix | ⟨k, hix, hk⟩
  · rw [paS_no _ hix] at h
    simp only [Prod.mk.injEq] at h
    obtain ⟨⟨rfl, h2⟩, rfl, h4⟩ := h
    obtain rfl : (⟨#[]⟩ : ByteArray) = x := mk_self x [] h2.symm
    have HC : Hid ((if 300 + 1 < s.data.toList.length then 2 else 8 : Int) = c) := h4
    have hc0 : (c != 0) = true := by rw [← h4]; split <;> rfl
    have HM : Hid (w.cell? ⟨0, 0, none⟩ = some (.int .i64 m)) := hm
    have HIX : Hid (Lib.index s.data.toList [13, 10] = -1) := hix
    clear h2 h4 hm hix hsl
    go_enter Tryz.func32, Tryz.ntmps32
    go_wp2_with fail
    refine (lineOf_no s 300 (by omega) HIX.out m _ HM.out hs).mono ?_
    rintro e w1 ⟨rfl, rfl⟩
    rw [HC.out]
    go_wp2_with fail
    (try simp only [Exit.inBlock, Exit.then])
    refine bodyPost_ret (results_four rfl _ _ _) rfl ?_
    exact ⟨rfl, Below.refl _ _⟩
  · by_cases hk3 : 300 < k
    · rw [paS_large _ k hix hk3] at h
      simp only [Prod.mk.injEq] at h
      obtain ⟨⟨rfl, h2⟩, rfl, rfl⟩ := h
      obtain rfl : (⟨#[]⟩ : ByteArray) = x := mk_self x [] h2.symm
      have HM : Hid (w.cell? ⟨0, 0, none⟩ = some (.int .i64 m)) := hm
      have HIX : Hid (Lib.index s.data.toList [13, 10] = k) := hix
      clear h2 hm hix hsl
      go_enter Tryz.func32, Tryz.ntmps32
      go_wp2_with fail
      refine (lineOf_large s 300 k HIX.out hk3 m _ HM.out hs).mono ?_
      rintro e w1 ⟨rfl, rfl⟩
      go_wp2_with fail
      (try simp only [Exit.inBlock, Exit.then])
      refine bodyPost_ret (results_four rfl _ _ _) rfl ?_
      exact ⟨rfl, Below.refl _ _⟩
    · obtain ⟨l, hl⟩ := ba (s.data.toList.take k)
      replace hk : k + 2 ≤ s.size := by simpa using hk
      have hlk : l.size = k := by rw [← size_list, hl, List.length_take, hsl]; omega
      by_cases h13 : (l.size : Int) < 13
      · have hr : rdS (s.data.toList.take k) = none := by
          cases hr : rdS (s.data.toList.take k) with
          | none => rfl
          | some z =>
            obtain ⟨a, b⟩ := z
            have e := congrArg List.length (rdS_some _ _ _ hr).1
            rw [stB_len, ← hl, size_list] at e; omega
        rw [paS_bad _ k hix (by omega) hr] at h
        simp only [Prod.mk.injEq] at h
        obtain ⟨⟨rfl, h2⟩, rfl, rfl⟩ := h
        obtain rfl : (⟨#[]⟩ : ByteArray) = x := mk_self x [] h2.symm
        have HM : Hid (w.cell? ⟨0, 0, none⟩ = some (.int .i64 m)) := hm
        have HIX : Hid (Lib.index s.data.toList [13, 10] = k) := hix
        have HL : Hid (l.data.toList = s.data.toList.take k) := hl
        clear h2 hm hix hsl hr hl hlk
        go_enter Tryz.func32, Tryz.ntmps32
        go_wp2_with fail
        refine (lineOf_yes s l 300 k HIX.out (by omega) hk HL.out m _ HM.out hs).mono ?_
        rintro e w1 ⟨rfl, rfl⟩
        go_wp2_with fail
        (try simp only [Exit.inBlock, Exit.then])
        refine bodyPost_ret (results_four rfl _ _ _) rfl ?_
        exact ⟨rfl, Below.refl _ _⟩
      · obtain ⟨q, hq⟩ := ba ((l.data.toList.drop 9).take 3)
        obtain ⟨r, hr⟩ := ba (l.data.toList.drop 13)
        obtain ⟨z, d, hz⟩ : ∃ (z : ByteArray) (d : Int), prS (cnt q.data.toList 999) r.data.toList = (z.data.toList, d) := ⟨⟨(prS (cnt q.data.toList 999) r.data.toList).1.toArray⟩, (prS (cnt q.data.toList 999) r.data.toList).2, rfl⟩
        refine rparseS_line s l q r z k _ d hix (by omega) hk hl (by omega) hq hr rfl hz x v n c ?_ m w hm hs
        cases hrd : rdS (s.data.toList.take k) with
        | none =>
          rw [paS_bad _ k hix (by omega) hrd] at h
          simp only [Prod.mk.injEq] at h
          obtain ⟨⟨rfl, h2⟩, rfl, rfl⟩ := h
          refine .inr ⟨?_, (mk_self x [] h2.symm).symm, rfl, rfl, rfl⟩
          cases hc : codeB (cnt q.data.toList 999)
          · rw [prS_arg _ _ hc, Prod.mk.injEq] at hz
            exact .inl (by rw [← hz.2]; decide)
          · cases he : reas r.data.toList
            · rw [prS_syn _ _ hc he, Prod.mk.injEq] at hz
              exact .inl (by rw [← hz.2]; decide)
            · rw [prS_ok _ _ hc he, Prod.mk.injEq] at hz
              refine .inr fun e => ?_
              rw [← hz.1] at e
              have e' := List.append_cancel_right e
              rw [hl] at e'
              exact rdS_none _ hrd _ _ hc he e'.symm
        | some y =>
          rw [paS_ok _ k hix (by omega) y hrd] at h
          simp only [Prod.mk.injEq] at h
          obtain ⟨h1, h3, rfl⟩ := h
          subst h1
          obtain ⟨h4, h5, h6⟩ := rdS_some _ _ _ hrd
          have hls : l.data.toList = stB v x.data.toList := by rw [hl]; exact h4
          obtain ⟨_, p2, p3⟩ := stB_parts v x.data.toList
          rw [hls, p2] at hq
          rw [hls, p3] at hr
          rw [hq, cnt_3 v h5, hr, prS_ok _ _ h5 h6, Prod.mk.injEq] at hz
          refine .inl ⟨hz.2.symm, ?_, ?_, ?_, h3.symm, rfl⟩
          · rw [← hz.1, hls]
          · apply ByteArray.ext; apply Array.ext'; exact hr.symm
          · rw [hq, cnt_3 v h5]
end Go.Proofs.YtipfjpihciiikaaGreatDoor

/-
  What MsgResponseOf of the document's answers computes; the text has less than 2^32 - 15 bytes.
-/
namespace Go.Proofs.YtipfjpihciiikaaGreatDoor
open Go.RowKit

set_option maxHeartbeats 2000000 in
set_option maxRecDepth 100000 in
theorem rreadP_at (mm : ByteArray) (s : ByteArray) (x : Int) (y t : ByteArray) (fs : List Fld) (i : Nat) (c : Int) (h : rdP (KPr mm.data.toList) s.data.toList = ((x, y.data.toList), fs, t.data.toList, i, c)) (m : Int) (w : World) (hs : s.size < 4294967281) (hm : w.cell? ⟨0, 0, none⟩ = some (.int .i64 m)) :
    Calls Tryz.prog 17 #[.string mm, .string s] w fun e w' => ∃ v, e = .returned (.tuple #[.agg #[.int .i64 x, .string y, v, .string t], .int .i64 (i : Int), .int .i64 c]) ∧ FlO w.heap.size w' v fs ∧ Below w.heap.size w w' := by
  have HM : Hid (w.cell? ⟨0, 0, none⟩ = some (.int .i64 m)) := hm
  have HZ : Hid (s.size < 4294967281) := hs
  clear hm hs
  have emp : ∀ z : Int, ((0, []), [], [], 0, z) = ((x, y.data.toList), fs, t.data.toList, i, c) → x = 0 ∧ y = ⟨#[]⟩ ∧ fs = [] ∧ t = ⟨#[]⟩ ∧ i = 0 ∧ c = z := by
    intro z hx
    simp only [Prod.mk.injEq] at hx
    obtain ⟨⟨h1, h2⟩, h3, h4, h5, h6⟩ := hx
    exact ⟨h1.symm, by apply ByteArray.ext; apply Array.ext'; exact h2.symm, h3.symm, by apply ByteArray.ext; apply Array.ext'; exact h4.symm, h5.symm, h6.symm⟩
  obtain ⟨p, q, n, d, hp⟩ : ∃ (p : Int) (q : ByteArray) (n d : Int), paS s.data.toList = ((p, q.data.toList), n, d) := ⟨(paS s.data.toList).1.1, ⟨(paS s.data.toList).1.2.toArray⟩, _, _, rfl⟩
  have HL2 : Hid (∀ o : Obj, Calls Tryz.prog 32 #[.string s] (w.alloc o) fun e w' => e = .returned (.tuple #[.int .i64 p, .string q, .int .i64 n, .int .i64 d]) ∧ Below (w.alloc o).heap.size (w.alloc o) w') := by
    intro o
    exact rparseS_at s q p n d hp m (w.alloc o) (cell_keep (below_alloc w o) HM.out) HZ.out
  unfold rdP at h
  rw [hp] at h
  simp only at h
  by_cases hd : d = 0
  · subst hd
    rw [if_neg (by simp)] at h
    have hn := paS_num (s := s.data.toList) (by rw [hp])
    rw [hp, size_list] at hn
    simp only at hn
    obtain ⟨a, rfl⟩ : ∃ a : Nat, n = (a : Int) := ⟨n.toNat, by omega⟩
    obtain ⟨r, hr, hrs, hsl⟩ := slice_from s a (by omega)
    rw [Int.toNat_natCast, ← hr] at h
    obtain ⟨gs, u, j, f, hu⟩ : ∃ (gs : List Fld) (u : ByteArray) (j : Nat) (f : Int), rdB (KPr mm.data.toList p) r.data.toList = (gs, u.data.toList, j, f) := ⟨_, ⟨(rdB (KPr mm.data.toList p) r.data.toList).2.1.toArray⟩, _, _, rfl⟩
    have HU : Hid (rdB (kd false mm.data.toList p) r.data.toList = (gs, u.data.toList, j, f)) := hu
    rw [hu] at h
    simp only at h
    have HRS : Hid (r.size < 4294967281) := by show _ < _; have := HZ.out; omega
    have hsz : s.size ≤ 9223372036854775807 := by have := HZ.out; omega
    have hal : a ≤ s.size := by omega
    by_cases hf0 : f = 0
    · subst hf0
      rw [if_neg (by simp)] at h
      simp only [Prod.mk.injEq] at h
      obtain ⟨⟨h1, h2⟩, rfl, h4, h5, rfl⟩ := h
      subst h1
      obtain rfl : y = q := by apply ByteArray.ext; apply Array.ext'; exact h2.symm
      obtain rfl : t = u := by apply ByteArray.ext; apply Array.ext'; exact h4.symm
      have hj : j ≤ r.size := by
        have := rdB_le (kd_ok false mm.data.toList p) r.data.toList
        rw [hu, size_list] at this
        exact this
      have hsum : a + j ≤ s.size := by omega
      have HI : Hid ((a : Int) + (j : Int) = (i : Int)) := by show _ = _; omega
      clear hp h2 h4 h5 hu hr hrs emp hn
      go_enter Tryz.func17, Tryz.ntmps17
      go_wp2_with fail
      refine (HL2.out _).mono ?_
      rintro e w1 ⟨rfl, hb0⟩
      have hz1 := hb0.size
      rw [World.size_alloc] at hz1
      have hk1 := (hb0.block w.heap.size (by simp)).trans (heap_alloc_new _ _)
      have hb1 := below_new hb0
      clear hb0
      have HM1 : Hid (w1.cell? ⟨0, 0, none⟩ = some (.int .i64 m)) := cell_keep hb1 HM.out
      go_wp2_with fail
      refine (rmsgOf_at false mm p r t gs j 0 HU.out m _ HRS.out HM1.out).mono ?_
      rintro e w2 ⟨v, rfl, hfl, hb2⟩
      obtain ⟨ad, cap, rfl, _⟩ := own_form2 hfl
      have HFL : Hid (FlO (w.heap.size + 1) w2 (.slice ad gs.length cap) gs) := hfl.le hz1
      have hk2 := (hb2.block w.heap.size (by omega)).trans hk1
      clear hk1
      have hw2 := hb1.trans (hb2.mono hb1.size)
      clear hb1 hb2 hfl
      have z0 := Lib.frozen_of_heap hk2 0
      have z1 := Lib.frozen_of_heap hk2 1
      have z2 := Lib.frozen_of_heap hk2 2
      have z3 := Lib.frozen_of_heap hk2 3
      have c0 : w2.cell? ⟨w.heap.size, 0, none⟩ = some (.int .i64 0) := by simp [World.cell?, hk2]
      have c1 : w2.cell? ⟨w.heap.size, 1, none⟩ = some (.string ⟨#[]⟩) := by simp [World.cell?, hk2]
      have c2 : w2.cell? ⟨w.heap.size, 2, none⟩ = some (.slice none 0 0) := by simp [World.cell?, hk2]
      have c3 : w2.cell? ⟨w.heap.size, 3, none⟩ = some (.string ⟨#[]⟩) := by simp [World.cell?, hk2]
      have HK2 : Hid (w2.heap[w.heap.size]? = _) := hk2
      clear hk2
      go_wp2_with fail
      have e0 := set4_cell (a := .int .i64 p) (b := .string y) (c := .slice ad gs.length cap) (d := .string t) HK2.out 0
      have e1 := set4_cell (a := .int .i64 p) (b := .string y) (c := .slice ad gs.length cap) (d := .string t) HK2.out 1
      have e2 := set4_cell (a := .int .i64 p) (b := .string y) (c := .slice ad gs.length cap) (d := .string t) HK2.out 2
      have e3 := set4_cell (a := .int .i64 p) (b := .string y) (c := .slice ad gs.length cap) (d := .string t) HK2.out 3
      have hfin := HFL.out.set4 (show w.heap.size < w.heap.size + 1 by omega) (.int .i64 p) (.string y) (.slice ad gs.length cap) (.string t)
      have hbl := set4_below (.int .i64 p) (.string y) (.slice ad gs.length cap) (.string t) hw2 (Nat.le_refl _)
      change bodyPost _ _ _ _ _ (set4 w2 w.heap.size (.int .i64 p) (.string y) (.slice ad gs.length cap) (.string t))
      generalize set4 w2 w.heap.size (.int .i64 p) (.string y) (.slice ad gs.length cap) (.string t) = w3 at e0 e1 e2 e3 hfin hbl ⊢
      refine bodyPost_ret (v := .tuple #[.agg #[.int .i64 p, .string y, .slice ad gs.length cap, .string t], .int .i64 ((a : Int) + j), .int .i64 0]) (by simp [results, Tryz.results17, go_sem, e0, e1, e2, e3]) rfl ?_
      exact ⟨_, ret_p rfl rfl rfl rfl HI.out rfl, hfin.le (by omega), hbl⟩
    · rw [if_pos hf0] at h
      obtain ⟨rfl, rfl, rfl, rfl, rfl, rfl⟩ := emp _ h
      have hfb : (c != 0) = true := by simpa using hf0
      clear hp h hu hr hrs emp hn hf0
      go_enter Tryz.func17, Tryz.ntmps17
      go_wp2_with fail
      refine (HL2.out _).mono ?_
      rintro e w1 ⟨rfl, hb0⟩
      have hz1 := hb0.size
      rw [World.size_alloc] at hz1
      have hk1 := (hb0.block w.heap.size (by simp)).trans (heap_alloc_new _ _)
      have hb1 := below_new hb0
      clear hb0
      have HM1 : Hid (w1.cell? ⟨0, 0, none⟩ = some (.int .i64 m)) := cell_keep hb1 HM.out
      go_wp2_with fail
      refine (rmsgOf_at false mm p r u gs j c HU.out m _ HRS.out HM1.out).mono ?_
      rintro e w2 ⟨v, rfl, hfl, hb2⟩
      have hk2 := (hb2.block w.heap.size (by omega)).trans hk1
      have hw2 := hb1.trans (hb2.mono hb1.size)
      clear hb1 hb2 hfl hk1
      have z0 := Lib.frozen_of_heap hk2 0
      have z1 := Lib.frozen_of_heap hk2 1
      have z2 := Lib.frozen_of_heap hk2 2
      have z3 := Lib.frozen_of_heap hk2 3
      have c0 : w2.cell? ⟨w.heap.size, 0, none⟩ = some (.int .i64 0) := by simp [World.cell?, hk2]
      have c1 : w2.cell? ⟨w.heap.size, 1, none⟩ = some (.string ⟨#[]⟩) := by simp [World.cell?, hk2]
      have c2 : w2.cell? ⟨w.heap.size, 2, none⟩ = some (.slice none 0 0) := by simp [World.cell?, hk2]
      have c3 : w2.cell? ⟨w.heap.size, 3, none⟩ = some (.string ⟨#[]⟩) := by simp [World.cell?, hk2]
      have HK2 : Hid (w2.heap[w.heap.size]? = _) := hk2
      clear hk2
      go_wp2_with fail
      have e0 := set4_cell (a := .int .i64 0) (b := .string ⟨#[]⟩) (c := .slice none 0 0) (d := .string ⟨#[]⟩) HK2.out 0
      have e1 := set4_cell (a := .int .i64 0) (b := .string ⟨#[]⟩) (c := .slice none 0 0) (d := .string ⟨#[]⟩) HK2.out 1
      have e2 := set4_cell (a := .int .i64 0) (b := .string ⟨#[]⟩) (c := .slice none 0 0) (d := .string ⟨#[]⟩) HK2.out 2
      have e3 := set4_cell (a := .int .i64 0) (b := .string ⟨#[]⟩) (c := .slice none 0 0) (d := .string ⟨#[]⟩) HK2.out 3
      have hbl := set4_below (.int .i64 0) (.string ⟨#[]⟩) (.slice none 0 0) (.string ⟨#[]⟩) hw2 (Nat.le_refl _)
      change bodyPost _ _ _ _ _ (set4 w2 w.heap.size (.int .i64 0) (.string ⟨#[]⟩) (.slice none 0 0) (.string ⟨#[]⟩))
      generalize set4 w2 w.heap.size (.int .i64 0) (.string ⟨#[]⟩) (.slice none 0 0) (.string ⟨#[]⟩) = w9 at e0 e1 e2 e3 hbl ⊢
      refine bodyPost_ret (v := .tuple #[.agg #[.int .i64 0, .string ⟨#[]⟩, .slice none 0 0, .string ⟨#[]⟩], .int .i64 0, .int .i64 c]) (by simp [results, Tryz.results17, go_sem, e0, e1, e2, e3]) rfl ?_
      exact ⟨_, rfl, FlO.nil _ _, hbl⟩
  · rw [if_pos hd] at h
    obtain ⟨rfl, rfl, rfl, rfl, rfl, rfl⟩ := emp _ h
    have hdb : (c != 0) = true := by simpa using hd
    clear hp h emp hd
    go_enter Tryz.func17, Tryz.ntmps17
    go_wp2_with fail
    refine (HL2.out _).mono ?_
    rintro e w1 ⟨rfl, hb0⟩
    have hk1 := (hb0.block w.heap.size (by simp)).trans (heap_alloc_new _ _)
    have hb1 := below_new hb0
    clear hb0
    have z0 := Lib.frozen_of_heap hk1 0
    have z1 := Lib.frozen_of_heap hk1 1
    have z2 := Lib.frozen_of_heap hk1 2
    have z3 := Lib.frozen_of_heap hk1 3
    have c0 : w1.cell? ⟨w.heap.size, 0, none⟩ = some (.int .i64 0) := by simp [World.cell?, hk1]
    have c1 : w1.cell? ⟨w.heap.size, 1, none⟩ = some (.string ⟨#[]⟩) := by simp [World.cell?, hk1]
    have c2 : w1.cell? ⟨w.heap.size, 2, none⟩ = some (.slice none 0 0) := by simp [World.cell?, hk1]
    have c3 : w1.cell? ⟨w.heap.size, 3, none⟩ = some (.string ⟨#[]⟩) := by simp [World.cell?, hk1]
    have HK2 : Hid (w1.heap[w.heap.size]? = _) := hk1
    clear hk1
    go_wp2_with fail
    have e0 := set4_cell (a := .int .i64 0) (b := .string ⟨#[]⟩) (c := .slice none 0 0) (d := .string ⟨#[]⟩) HK2.out 0
    have e1 := set4_cell (a := .int .i64 0) (b := .string ⟨#[]⟩) (c := .slice none 0 0) (d := .string ⟨#[]⟩) HK2.out 1
    have e2 := set4_cell (a := .int .i64 0) (b := .string ⟨#[]⟩) (c := .slice none 0 0) (d := .string ⟨#[]⟩) HK2.out 2
    have e3 := set4_cell (a := .int .i64 0) (b := .string ⟨#[]⟩) (c := .slice none 0 0) (d := .string ⟨#[]⟩) HK2.out 3
    have hbl := set4_below (.int .i64 0) (.string ⟨#[]⟩) (.slice none 0 0) (.string ⟨#[]⟩) hb1 (Nat.le_refl _)
    change bodyPost _ _ _ _ _ (set4 w1 w.heap.size (.int .i64 0) (.string ⟨#[]⟩) (.slice none 0 0) (.string ⟨#[]⟩))
    generalize set4 w1 w.heap.size (.int .i64 0) (.string ⟨#[]⟩) (.slice none 0 0) (.string ⟨#[]⟩) = w9 at e0 e1 e2 e3 hbl ⊢
    refine bodyPost_ret (v := .tuple #[.agg #[.int .i64 0, .string ⟨#[]⟩, .slice none 0 0, .string ⟨#[]⟩], .int .i64 0, .int .i64 c]) (by simp [results, Tryz.results17, go_sem, e0, e1, e2, e3]) rfl ?_
    exact ⟨_, rfl, FlO.nil _ _, hbl⟩
end Go.Proofs.YtipfjpihciiikaaGreatDoor

/-
  What SameResponse of the document's answers computes of two that are the same.
-/
namespace Go.Proofs.YtipfjpihciiikaaGreatDoor
open Go.RowKit

set_option maxHeartbeats 1000000 in
set_option maxRecDepth 100000 in
theorem sameP_at (x : Int) (y t : ByteArray) (v v' : Value) (ls : List Fld) (w : World) (h : Fl w v ls) (h' : Fl w v' ls) :
    Calls Tryz.prog 18 #[.agg #[.int .i64 x, .string y, v, .string t], .agg #[.int .i64 x, .string y, v', .string t]] w fun e w' => e = .returned (.bool true) ∧ Below w.heap.size w w' := by
  have H1 : Hid (Fl w v ls) := h
  have H2 : Hid (Fl w v' ls) := h'
  clear h h'
  go_enter Tryz.func18, Tryz.ntmps18
  go_wp2_with fail
  refine (eqF_same _ _ _ _ (H1.out.below (below_alloc2 _ _ _)) (H2.out.below (below_alloc2 _ _ _))).mono ?_
  rintro e w1 ⟨rfl, hb1⟩
  have c3 : w1.cell? ⟨w.heap.size, 3, none⟩ = some (.string t) := (new_cell2 hb1 3).1
  have d3 : w1.cell? ⟨w.heap.size + 1, 3, none⟩ = some (.string t) := (new_cell2 hb1 3).2
  have hw1 := below_new2 hb1
  clear hb1
  go_wp2_with fail
  go_ret
  exact ⟨ret_bool (by simp), hw1⟩
end Go.Proofs.YtipfjpihciiikaaGreatDoor

/-
  The walk through MsgReadsResponse: it answers true and turns nothing that was there; the text is of bulk at most 1048576, and the listed variables that the library reads hold what their text lays.
-/
namespace Go.Proofs.YtipfjpihciiikaaGreatDoor
open Go.RowKit

set_option maxHeartbeats 2000000 in
set_option maxRecDepth 100000 in
theorem walkMsgReadsResponse (a0 a1 : ByteArray) (w : World) (_z0 : a0.size ≤ 1048576) (z1 : a1.size ≤ 1048576) (hm : ∃ m, w.cell? ⟨0, 0, none⟩ = some (.int .i64 m)) (hT : STabs w) :
    Calls Tryz.prog 6 #[.string a0, .string a1] w fun e w' => e = .returned (.bool true) ∧ Below w.heap.size w w' := by
  obtain ⟨m, hm⟩ := hm
  have HM : Hid (w.cell? ⟨0, 0, none⟩ = some (.int .i64 m)) := hm
  have HS : Hid (STabs w) := hT
  have HZ : Hid (a1.size < 4294967281) := by show _ < _; omega
  clear hm hT z1 _z0
  obtain ⟨x, y, fs, t, i, c, hx⟩ : ∃ (x : Int) (y : ByteArray) (fs : List Fld) (t : ByteArray) (i : Nat) (c : Int), rdP (KPr a0.data.toList) a1.data.toList = ((x, y.data.toList), fs, t.data.toList, i, c) := ⟨_, ⟨(rdP (KPr a0.data.toList) a1.data.toList).1.2.toArray⟩, _, ⟨(rdP (KPr a0.data.toList) a1.data.toList).2.2.1.toArray⟩, _, _, rfl⟩
  have HX : Hid (rdP (KPr a0.data.toList) a1.data.toList = ((x, y.data.toList), fs, t.data.toList, i, c)) := hx
  clear hx
  go_enter Tryz.func6, Tryz.ntmps6
  go_wp2_with fail
  refine (readP_at a0 a1 x y t fs i c HX.out m _ HZ.out HS.out HM.out).mono ?_
  rintro e w1 ⟨v1, rfl, hf1, hb1⟩
  obtain ⟨ad1, cap1, rfl, _⟩ := own_form2 hf1
  have HF1 : Hid (FlO w.heap.size w1 (.slice ad1 fs.length cap1) fs) := hf1
  have HM1 : Hid (w1.cell? ⟨0, 0, none⟩ = some (.int .i64 m)) := cell_keep hb1 HM.out
  clear hf1
  go_wp2_with fail
  refine (rreadP_at a0 a1 x y t fs i c HX.out m _ HZ.out (cell_keep (below_alloc _ _) HM1.out)).mono ?_
  rintro e w2 ⟨v2, rfl, hf2, hb0⟩
  obtain ⟨ad2, cap2, rfl, _⟩ := own_form2 hf2
  have d0 : w2.cell? ⟨w1.heap.size, 0, none⟩ = some (.int .i64 x) := new_cell hb0 0
  have d1 : w2.cell? ⟨w1.heap.size, 1, none⟩ = some (.string y) := new_cell hb0 1
  have d2 : w2.cell? ⟨w1.heap.size, 2, none⟩ = some (.slice ad1 fs.length cap1) := new_cell hb0 2
  have d3 : w2.cell? ⟨w1.heap.size, 3, none⟩ = some (.string t) := new_cell hb0 3
  have hlt : w1.heap.size < w2.heap.size := by have := hb0.size; rw [World.size_alloc] at this; omega
  have hb2 := below_new hb0
  have HF2 : Hid (Fl w2 (.slice ad2 fs.length cap2) fs) := hf2.fl
  have HF12 : Hid (Fl w2 (.slice ad1 fs.length cap1) fs) := (HF1.out.below hb2).fl
  have hw2 := hb1.trans (hb2.mono hb1.size)
  clear hf2 hb1 hb2 hb0
  go_wp2_with fail
  refine (sameP_at x y t _ _ fs _ (HF12.out.below (below_alloc _ _)) (HF2.out.below (below_alloc _ _))).mono ?_
  rintro e w3 ⟨rfl, hb4⟩
  have hb3 := below_new hb4
  have hw3 := hw2.trans (hb3.mono hw2.size)
  clear hb3 hb4 hw2
  go_wp2_with fail
  go_ret
  exact ⟨ret_bool (by simp), hw3⟩
end Go.Proofs.YtipfjpihciiikaaGreatDoor

/-
  What strings.Cut computes at 13, 10, where the first 13 of the text has a 10 behind it: of texts of whatever size that Go allows; the package variable that the library reads holds some number.
-/
namespace Go.Proofs.YtipfjpihciiikaaGreatDoor
open Go.RowKit

theorem indexByte_at (c : UInt8) (l t : List UInt8) (h : ∀ b ∈ l, b ≠ c) : Lib.indexByte (l ++ c :: t) c = (l.length : Int) := by
  rw [← Lib.index_one]; exact index_byte_at c l t h
/-- The text from its second byte on, up to its last one: where the first 13 lies. -/
theorem early_byte (s : ByteArray) (c0 : UInt8) (l r : List UInt8) (h : s.data.toList = c0 :: (l ++ 13 :: 10 :: r)) (hl : ∀ b ∈ l, b ≠ 13) :
    Lib.indexByte (s.extract 1 (s.size - 1)).data.toList 13 = (l.length : Int) := by
  have hz := size_list s
  rw [h] at hz
  simp at hz
  rw [Lib.extract_data, h, List.drop_succ_cons, List.drop_zero]
  have e : (l ++ 13 :: 10 :: r).take (s.size - 1 - 1) = l ++ 13 :: (10 :: r).take (s.size - 1 - 1 - l.length - 1) := by
    rw [List.take_append, List.take_of_length_le (by omega)]
    congr 1
    obtain ⟨q, hq⟩ : ∃ q, s.size - 1 - 1 - l.length = q + 1 := ⟨s.size - 1 - 1 - l.length - 1, by omega⟩
    rw [hq, List.take_succ_cons]; rfl
  rw [e]
  exact indexByte_at 13 l _ hl
theorem early_pair (s : ByteArray) (l r : List UInt8) (k : Nat) (h : s.data.toList = l ++ 13 :: 10 :: r) (hk : l.length = k) : s.extract k (k + 2) = ⟨#[13, 10]⟩ := by
  apply ByteArray.ext; apply Array.ext'
  rw [Lib.extract_data, h, ← hk, List.drop_left' rfl, Nat.add_sub_cancel_left]; rfl
theorem early_second (s : ByteArray) (l r : List UInt8) (k : Nat) (h : s.data.toList = l ++ 13 :: 10 :: r) (hk : l.length = k) (hlt : k + 1 < s.size) : s[k + 1] = 10 := by
  have e : s.data.toList[k + 1]? = some 10 := by
    rw [h, List.getElem?_append_right (by omega), hk, Nat.add_sub_cancel_left]; rfl
  have h' : k + 1 < s.data.toList.length := by rw [size_list]; exact hlt
  rw [List.getElem?_eq_getElem h', Option.some.injEq] at e
  exact e
theorem early_first (s : ByteArray) (c0 : UInt8) (l : List UInt8) (h : s.data.toList = c0 :: l) (hlt : 0 < s.size) : s[0] = c0 := by
  have e : s.data.toList[0]? = some c0 := by rw [h]; rfl
  have h' : 0 < s.data.toList.length := by rw [size_list]; exact hlt
  rw [List.getElem?_eq_getElem h', Option.some.injEq] at e
  exact e

theorem ib_at (s : ByteArray) (k : Nat) (h : Lib.indexByte (s.extract 1 (s.size - 2 + 1)).data.toList 13 = (k : Int)) (w : World) :
    Calls Tryz.prog 138 #[.string (s.extract 1 (s.size - 2 + 1)), .int .u8 ((⟨#[13, 10]⟩ : ByteArray)[0].toNat : Int)] w fun e w' => e = .returned (.int .i64 (k : Int)) ∧ w' = w := by
  refine (Tryz.stringslite_IndexByte _ _ _).mono ?_
  rintro e w' ⟨rfl, rfl⟩
  refine ⟨?_, rfl⟩
  rw [← h]
  rfl

set_option maxHeartbeats 4000000 in
set_option maxRecDepth 100000 in
theorem index_core (s : ByteArray) (k : Nat) (hk : k + 1 + 1 < s.size) (hfst : (s[0].toNat : Int) ≠ 13) (hI : Lib.indexByte (s.extract 1 (s.size - 1)).data.toList 13 = (k : Int)) (hP : s.extract (k + 1) (k + 1 + 2) = ⟨#[13, 10]⟩) (hsec : s[k + 1 + 1] = 10) (m : Int) (w : World) (hm : w.cell? ⟨0, 0, none⟩ = some (.int .i64 m)) (hlo : 64 < s.size) (hs : s.size ≤ 1152921504606846976) :
    Calls Tryz.prog 121 #[.string s, .string ⟨#[13, 10]⟩] w fun e w' => e = .returned (.int .i64 ((k : Int) + 1)) ∧ w' = w := by
  have HI : Hid (Lib.indexByte (s.extract 1 (s.size - 2 + 1)).data.toList 13 = (k : Int)) := by
    rw [show s.size - 2 + 1 = s.size - 1 by omega]; exact hI
  have hpp : ((s.extract (k + 1) (k + 1 + 2)).toList == [13, 10]) = true := by rw [hP, ByteArray.toList_eq]; rfl
  have h10 : (10 : Int) = ((⟨#[13, 10]⟩ : ByteArray)[1].toNat : Int) := rfl
  have hne' : (([13, 10] : List UInt8) == s.toList) = false := by
    rw [ByteArray.toList_eq, beq_eq_false_iff_ne]
    intro e; have := congrArg List.length e; rw [size_list s] at this; simp at this; omega
  have hlo' : ¬ (s.size : Int) ≤ 64 := by omega
  have hf : ((s[0].toNat : Int) != ((⟨#[13, 10]⟩ : ByteArray)[0].toNat : Int)) = true := by
    rw [bne_iff_ne]; exact hfst
  have b0 : (0 : Int) < (s.size : Int) - 2 + 1 := by omega
  have b1 : (1 : Int) ≤ (s.size : Int) - 2 + 1 := by omega
  have b2 : (s.size : Int) - 2 + 1 ≤ (s.size : Int) := by omega
  clear hI hP
  by_cases hmm : 2 ≤ m
  all_goals
    go_enter Tryz.func121, Tryz.ntmps121
    go_wp2_with fail
    go_loop [8, 10] (fun i f => i = .int .i64 0 ∧ f = .int .i64 0) (fun _ _ => 0)
    case atStart => exact ⟨rfl, rfl⟩
    case round =>
      obtain ⟨rfl, rfl⟩ := hrel
      go_wp2_with fail
      refine (ib_at s k HI.out _).mono ?_
      rintro e w' ⟨rfl, rfl⟩
      go_wp2_with fail
      go_ret
      exact ⟨rfl, rfl⟩

theorem index_early (s : ByteArray) (c0 : UInt8) (l r : List UInt8) (h : s.data.toList = c0 :: (l ++ 13 :: 10 :: r)) (hc0 : c0 ≠ 13) (hl : ∀ b ∈ l, b ≠ 13) (m : Int) (w : World) (hm : w.cell? ⟨0, 0, none⟩ = some (.int .i64 m)) (hlo : 64 < s.size) (hs : s.size ≤ 1152921504606846976) :
    Calls Tryz.prog 121 #[.string s, .string ⟨#[13, 10]⟩] w fun e w' => e = .returned (.int .i64 ((l.length : Int) + 1)) ∧ w' = w := by
  have hz := size_list s
  rw [h] at hz
  simp at hz
  have h' : s.data.toList = (c0 :: l) ++ 13 :: 10 :: r := h
  refine index_core s l.length (by omega) ?_ (early_byte s c0 l r h hl) (early_pair s (c0 :: l) r _ h' rfl) (early_second s (c0 :: l) r (l.length + 1) h' rfl (by omega)) m w hm hlo hs
  rw [early_first s c0 _ h (by omega)]
  intro e
  exact hc0 (UInt8.toNat_inj.1 (by show c0.toNat = 13; omega))

set_option maxHeartbeats 4000000 in
set_option maxRecDepth 100000 in
/-- The same, where 13, 10 stand first. -/
theorem index_first0 (s : ByteArray) (hlo : 64 < s.size) (h0 : s[0] = 13) (h1 : s[1] = 10) (hP : s.extract 0 2 = ⟨#[13, 10]⟩) (m : Int) (w : World) (hm : w.cell? ⟨0, 0, none⟩ = some (.int .i64 m)) (hs : s.size ≤ 1152921504606846976) :
    Calls Tryz.prog 121 #[.string s, .string ⟨#[13, 10]⟩] w fun e w' => e = .returned (.int .i64 0) ∧ w' = w := by
  have hpp : ((s.extract 0 2).toList == [13, 10]) = true := by rw [hP, ByteArray.toList_eq]; rfl
  have h10 : (10 : Int) = ((⟨#[13, 10]⟩ : ByteArray)[1].toNat : Int) := rfl
  have h13 : (13 : Int) = ((⟨#[13, 10]⟩ : ByteArray)[0].toNat : Int) := rfl
  have hne' : (([13, 10] : List UInt8) == s.toList) = false := by
    rw [ByteArray.toList_eq, beq_eq_false_iff_ne]
    intro e; have := congrArg List.length e; rw [size_list s] at this; simp at this; omega
  have hlo' : ¬ (s.size : Int) ≤ 64 := by omega
  have hf : (((s[0]).toNat : Int) != ((⟨#[13, 10]⟩ : ByteArray)[0].toNat : Int)) = false := by rw [h0]; rfl
  have b0 : (0 : Int) < (s.size : Int) - 2 + 1 := by omega
  clear hP
  by_cases hmm : 2 ≤ m
  all_goals
    go_enter Tryz.func121, Tryz.ntmps121
    go_wp2_with fail
    go_loop [8, 10] (fun i f => i = .int .i64 0 ∧ f = .int .i64 0) (fun _ _ => 0)
    case atStart => exact ⟨rfl, rfl⟩
    case round =>
      obtain ⟨rfl, rfl⟩ := hrel
      go_wp2_with fail
      go_ret
      exact ⟨rfl, rfl⟩

theorem ret_ssb {a b c d : ByteArray} {v : Value} (h : a = b) (h' : c = d) : Ending.returned (.tuple #[.string a, .string c, v]) = .returned (.tuple #[.string b, .string d, v]) := by rw [h, h']

set_option maxHeartbeats 1000000 in
set_option maxRecDepth 100000 in
theorem slcut_early (s a b : ByteArray) (h : s.data.toList = a.data.toList ++ 13 :: 10 :: b.data.toList) (w : World) (hs : s.size ≤ 1152921504606846976)
    (hI : ∀ W : World, W = w → Calls Tryz.prog 121 #[.string s, .string ⟨#[13, 10]⟩] W fun e w' => e = .returned (.int .i64 (a.size : Int)) ∧ w' = W) :
    Calls Tryz.prog 115 #[.string s, .string ⟨#[13, 10]⟩] w fun e w' => e = .returned (.tuple #[.string a, .string b, .bool true]) ∧ ∃ n, w' = w.drewN n := by
  have hz := size_list s
  have hza := size_list a
  rw [h] at hz
  simp only [List.length_append, List.length_cons, size_list] at hz
  have HA : Hid (s.extract 0 a.size = a) := by
    show _ = _
    apply ByteArray.ext; apply Array.ext'
    rw [Lib.extract_data, h, List.drop_zero, Nat.sub_zero, List.take_left' hza]
  have HB : Hid (s.extract (a.size + 2) s.size = b) := by
    show _ = _
    apply ByteArray.ext; apply Array.ext'
    rw [Lib.extract_data, h, ← hza, ← List.drop_drop, List.drop_left' rfl]
    simp only [List.drop_succ_cons, List.drop_zero]
    rw [List.take_of_length_le]; rw [size_list]; omega
  have h2 : (a.size : Int) ≤ (s.size : Int) := by omega
  have h3 : (a.size : Int) + 2 ≤ (s.size : Int) := by omega
  have h4 : (0 : Int) ≤ (a.size : Int) + 2 := by omega
  have hwr : IntKind.i64.wrap ((a.size : Int) + 2) = (a.size : Int) + 2 := by rw [IntKind.wrap_i64]; omega
  have hjn : ((a.size : Int) + 2).toNat = a.size + 2 := by omega
  have h1 : (0 : Int) ≤ (a.size : Int) := by omega
  clear h hz hza
  go_enter Tryz.func115, Tryz.ntmps115
  go_wp2_with fail
  refine (hI _ rfl).mono ?_
  rintro e w' ⟨rfl, rfl⟩
  have mixed : Tryz.prog.follows Departure.mixedOrders = true := by kernel_rfl
  go_wp2_with fail
  go_region_o
  go_wp2
  go_ret3
  refine ⟨ret_ssb ?_ ?_, 1, rfl⟩
  · exact HA.out
  · exact HB.out

set_option maxHeartbeats 1000000 in
set_option maxRecDepth 100000 in
/-- strings.Cut at 13, 10, where the first 13 has a 10 behind it. -/
theorem scut_early (s a b : ByteArray) (h : s.data.toList = a.data.toList ++ 13 :: 10 :: b.data.toList) (hn : ∀ c ∈ a.data.toList, c ≠ 13) (m : Int) (w : World) (hm : w.cell? ⟨0, 0, none⟩ = some (.int .i64 m)) (hs : s.size ≤ 1152921504606846976) :
    Calls Tryz.prog 83 #[.string s, .string ⟨#[13, 10]⟩] w fun e w' => e = .returned (.tuple #[.string a, .string b, .bool true]) ∧ ∃ n, w' = w.drewN n := by
  have hz := size_list s
  have hza := size_list a
  rw [h] at hz
  simp only [List.length_append, List.length_cons, size_list] at hz
  by_cases hlt : s.size < 4294967281
  · refine scut_at s _ a b true ?_ m w hm hlt
    have hi := index_at_crlf a.data.toList b.data.toList hn
    rw [h]
    refine (cut_yes _ _ _ hi).trans ?_
    rw [List.take_left' rfl, List.drop_append]
    simp
  · have hI : ∀ W : World, W = w → Calls Tryz.prog 121 #[.string s, .string ⟨#[13, 10]⟩] W fun e w' => e = .returned (.int .i64 (a.size : Int)) ∧ w' = W := by
      rintro W rfl
      cases hl : a.data.toList with
      | nil =>
        rw [hl] at h hza
        have e : (a.size : Int) = 0 := by rw [← hza]; rfl
        rw [e]
        exact index_first0 s (by omega) (early_first s 13 _ h (by omega)) (early_second s [] b.data.toList 0 h rfl (by omega)) (early_pair s [] b.data.toList 0 h rfl) m W hm hs
      | cons c0 l =>
        rw [hl] at h hn hza
        have e : (a.size : Int) = (l.length : Int) + 1 := by rw [← hza]; simp
        rw [e]
        exact index_early s c0 l b.data.toList h (hn c0 (List.mem_cons_self ..)) (fun x hx => hn x (List.mem_cons_of_mem _ hx)) m W hm (by omega) hs
    have hC := slcut_early s a b h w hs hI
    clear h hn hm hz hza hlt hI
    go_enter Tryz.func83, Tryz.ntmps83
    go_wp2_with fail
    refine hC.mono ?_
    rintro e w' ⟨rfl, n, rfl⟩
    go_wp2_with fail
    go_ret3
    exact ⟨rfl, n, rfl⟩
end Go.Proofs.YtipfjpihciiikaaGreatDoor

/-
  What Parse of package field computes of fields that are printed, with whatever text behind them, of whatever size that Go allows; the package variable that the library reads holds some number.
-/
namespace Go.Proofs.YtipfjpihciiikaaGreatDoor
open Go.RowKit

set_option maxHeartbeats 8000000 in
set_option maxRecDepth 100000 in
theorem parse_early (s u : ByteArray) (ls : List Fld) (hs : s.data.toList = prt ls ++ 13 :: 10 :: u.data.toList) (hls : ∀ x ∈ ls, chk1 x = 0) (hlen : ls.length ≤ 30) (hsz : s.size ≤ 1152921504606846976) (m : Int) (w : World) (hm : w.cell? ⟨0, 0, none⟩ = some (.int .i64 m)) :
    Calls Tryz.prog 50 #[.string s] w fun e w' => ∃ v, e = .returned (.tuple #[v, .int .i64 ((s.size : Int) - (u.size : Int)), .int .i64 0]) ∧
      w'.ownsRow w.heap.size 57 2 v ls.length (flds ls) ∧ Below w.heap.size w w' := by
  obtain ⟨i0, hi, hz0, hz1, hz2⟩ := info_parts infoF
  have HM : Hid (w.cell? ⟨0, 0, none⟩ = some (.int .i64 m)) := hm
  have HLS : Hid (∀ x ∈ ls, chk1 x = 0) := hls
  have HS : Hid (s.data.toList = prt ls ++ 13 :: 10 :: u.data.toList) := hs
  have hus : u.size ≤ s.size := by
    have e := size_list s
    rw [hs, List.length_append, List.length_cons, List.length_cons, size_list] at e; omega
  clear hm hls hs
  go_enter Tryz.func50, Tryz.ntmps50
  go_wp2_with fail
  go_loopw [5, 6] (fun v rv wr => ∃ (r : ByteArray) (ps qs : List Fld), rv = .string r ∧ ls = ps ++ qs ∧ r.data.toList = prt qs ++ 13 :: 10 :: u.data.toList ∧ r.size ≤ s.size ∧ wr.ownsRow w.heap.size 57 2 v ps.length (flds ps) ∧ Below w.heap.size w wr) (fun _ rv _ => lenV rv)
  case atStart => exact ⟨s, [], ls, rfl, rfl, HS.out, Nat.le_refl _, World.ownsRow_nil _ _ _ _, Below.refl _ _⟩
  case round =>
    obtain ⟨r, ps, qs, rfl, hpq, hrd, hrs, hown, hw⟩ := hrel
    have hsw := hw.size
    have HMr : Hid (wr.cell? ⟨0, 0, none⟩ = some (.int .i64 m)) := cell_keep hw HM.out
    obtain ⟨ad, cap, hv, hcm, hnc, hcx⟩ := own_form2 hown
    subst hv
    clear hcx
    unfold maxLen at hcm
    have hpl : ps.length + qs.length = ls.length := by rw [hpq, List.length_append]
    cases qs with
    | nil =>
      obtain rfl : ls = ps := by rw [hpq, List.append_nil]
      have HRD : Hid (r.data.toList = (⟨#[]⟩ : ByteArray).data.toList ++ 13 :: 10 :: u.data.toList) := hrd
      clear hpq hrd
      go_wp2_with fail
      refine (cutLine_of r ⟨#[]⟩ u 1100 (by decide) _ (fun W hW => by subst hW; exact scut_early r ⟨#[]⟩ u HRD.out (fun c hc => by cases hc) m _ HMr.out (by omega))).mono ?_
      rintro e w1 ⟨rfl, nd, rfl⟩
      go_wp2_with fail
      go_ret3
      exact ⟨_, rfl, own_below3 hown (drewN_below _ _ _), hw.trans (drewN_below _ _ _)⟩
    | cons x qs =>
      have hcx : chk1 x = 0 := HLS.out x (by rw [hpq]; simp)
      obtain ⟨c1, c2, c3, _, _⟩ := chk1_is x hcx
      obtain ⟨a, ha⟩ : ∃ a : ByteArray, a.data.toList = lnB x := ⟨⟨(lnB x).toArray⟩, rfl⟩
      obtain ⟨b, hb⟩ : ∃ b : ByteArray, b.data.toList = prt qs ++ 13 :: 10 :: u.data.toList := ⟨⟨(prt qs ++ 13 :: 10 :: u.data.toList).toArray⟩, rfl⟩
      obtain ⟨y, hy⟩ : ∃ y : ByteArray, y.data.toList = x.1 := ⟨⟨x.1.toArray⟩, rfl⟩
      obtain ⟨z, hz⟩ : ∃ z : ByteArray, z.data.toList = x.2 := ⟨⟨x.2.toArray⟩, rfl⟩
      have has : a.size ≤ 1100 := by rw [← size_list, ha, lnB_len]; omega
      have HRD : Hid (r.data.toList = a.data.toList ++ 13 :: 10 :: b.data.toList) := by
        show _ = _
        rw [hrd, prt_cons, ln_eq, ha, hb]; simp
      have hbs : b.size < r.size := by
        have e := size_list r
        rw [HRD.out, List.length_append, List.length_cons, List.length_cons, size_list, size_list] at e; omega
      have HNO : Hid (∀ c ∈ a.data.toList, c ≠ 13) := by show ∀ c ∈ a.data.toList, c ≠ 13; rw [ha]; exact lnB_no13 x hcx
      have HF : Hid (rdF a.data.toList = ((y.data.toList, z.data.toList), 0)) := by show _ = _; rw [ha, rdF_ln x hcx, hy, hz]
      have HB : Hid (b.data.toList = prt qs ++ 13 :: 10 :: u.data.toList) := hb
      have HX : Hid ((y.data.toList, z.data.toList) = x) := by show _ = _; rw [hy, hz]
      have HPQ : Hid (ls = (ps ++ [x]) ++ qs) := by show _ = _; rw [hpq]; simp
      have hl0 : ¬ a.size = 0 := by rw [← size_list, ha, lnB_len]; omega
      have hem : a.toList.isEmpty = false := by rw [ByteArray.toList_eq, isEmpty_size]; exact decide_eq_false hl0
      have hp30 : ps.length < 30 := by simp only [List.length_cons] at hpl; omega
      have hd2 : ((ps.length : Int) == 30) = false := by rw [beq_eq_false_iff_ne]; omega
      clear ha hb hy hz hrd hpq hcx c1 c2 c3 hl0 hpl
      go_wp2_with fail
      refine (cutLine_of r a b 1100 has _ (fun W hW => by subst hW; exact scut_early r a b HRD.out HNO.out m _ HMr.out (by omega))).mono ?_
      rintro e w1 ⟨rfl, nd, rfl⟩
      have hown1 := own_below3 hown (drewN_below wr.heap.size wr nd)
      have hw1 := hw.trans (drewN_below w.heap.size wr nd)
      have HM1 : Hid ((wr.drewN nd).cell? ⟨0, 0, none⟩ = some (.int .i64 m)) := cell_keep hw1 HM.out
      clear hown
      go_wp2_with fail
      refine (readField_at a y z 0 HF.out m _ HM1.out has).mono ?_
      rintro e w3 ⟨rfl, hb3⟩
      have hown3 := own_below3 hown1 hb3
      have hw3 := hw1.trans (hb3.mono hw1.size)
      have hsz3 := hw3.size
      clear hown1 hb3
      go_wp2_with (at_builtin; refine wpList_append_own _ rfl _ _ 22 rfl w.heap.size 57 i0 (.agg #[.string ⟨#[]⟩, .string ⟨#[]⟩]) 2 32 Tryz.underlying22 hi hz0 hz1 hz2 rfl (by decide) _ _ _ rfl ((hown3.alloc _).alloc _) ⟨w3.heap.size + 1, 0, none⟩ 1 1 [.string y, .string z] rfl rfl ?c1 ?c2 ?c3 ?c4 ?c5 ?_)
      case c1 =>
        intro j q h
        match j, h with
        | 0, h => simp at h; subst h; simp [Addr.add]
        | 1, h => simp at h; subst h; simp [Addr.add]
      case c2 => intro q hx; simp at hx; rcases hx with rfl | rfl <;> rfl
      case c3 => unfold maxLen; omega
      case c4 => omega
      case c5 => simp; omega
      · intro v' w4 hown' hgrow _
        have hB : Below w.heap.size w w4 := ((hw3.alloc (by omega) _).alloc (by simp; omega) _).grown hgrow (by simp; omega) (fun b hb => (((hown3.alloc (.cells #[.string y, .string z] 57)).alloc (.cells #[.string y, .string z] 57)).lt b hb).1)
        have hown4 : w4.ownsRow w.heap.size 57 2 v' (ps ++ [x]).length (flds (ps ++ [x])) := by
          rw [← HX.out, ← flds_snoc, List.length_append]; exact hown'
        clear hown' hgrow hown3 hw3
        go_wp2_with fail
        go_roundw
        case rel => exact ⟨b, ps ++ [x], qs, rfl, HPQ.out, HB.out, by omega, hown4, hB⟩
        case measure => simp [lenV]; omega
end Go.Proofs.YtipfjpihciiikaaGreatDoor

/-
  What ReadRequest of package msg computes of a text that begins with a request that was written, whatever stands behind it, of whatever size a text may have.
-/
namespace Go.Proofs.YtipfjpihciiikaaGreatDoor
open Go.RowKit

theorem rdQ_nil (K : List UInt8 → Kd) : rdQ K [] = (([], []), [], [], 0, 8) := by
  unfold rdQ; rw [paR_nil]; rfl
theorem ba_of (l : List UInt8) : ∃ b : ByteArray, b.data.toList = l := ⟨⟨l.toArray⟩, rfl⟩
theorem ba_same {a b : ByteArray} (h : a.data.toList = b.data.toList) : a = b := by apply ByteArray.ext; apply Array.ext'; exact h
theorem linesQ_back (s m t : ByteArray) (z : List UInt8) (hs : s.data.toList = reqB m.data.toList t.data.toList ++ 13 :: 10 :: z) (hm : meth m.data.toList = true) (ht : targ t.data.toList = true) (hsz : s.size ≤ 1152921504606846976) (mm : Int) (W : World) (hW : W.cell? ⟨0, 0, none⟩ = some (.int .i64 mm)) : LinesAt s W := by
  obtain ⟨l, hl⟩ := ba_of (reqB m.data.toList t.data.toList)
  obtain ⟨b, hb⟩ := ba_of z
  have hs2 : s.data.toList = l.data.toList ++ 13 :: 10 :: b.data.toList := by rw [hl, hb]; exact hs
  have hle := (reqB_le _ _ hm ht).1
  have hls : l.size ≤ 300 := by rw [← size_list, hl]; omega
  have hlen : s.size = l.size + 2 + b.size := by
    have := congrArg List.length hs2
    rw [List.length_append, List.length_cons, List.length_cons, size_list, size_list, size_list] at this
    omega
  have hno : ∀ c ∈ l.data.toList, c ≠ 13 := by rw [hl]; exact reqB_no13 _ _ hm ht
  unfold LinesAt
  rw [hs, paR_back _ _ _ hm ht]
  refine (parseR_of s l b m t hl hm ht hsz (by omega) mm W hW (fun W' e => by subst e; exact cutLine_of s l b 300 hls _ fun W'' e => by subst e; exact scut_early s l b hs2 hno mm _ hW hsz)).mono ?_
  rintro e w1 ⟨rfl, hb1⟩
  refine ⟨?_, hb1⟩
  have h1 : (s.size : Int) - (b.size : Int) = ((reqB m.data.toList t.data.toList).length : Int) + 2 := by
    rw [← hl, size_list]; omega
  rw [h1]
theorem parsesF_back (r : ByteArray) (ls : List Fld) (z : List UInt8) (hr : r.data.toList = prt ls ++ [13, 10] ++ z) (hc : chk ls = 0) (hsz : r.size ≤ 1152921504606846976) (mm : Int) (W : World) (hW : W.cell? ⟨0, 0, none⟩ = some (.int .i64 mm)) : ParsesAt r W := by
  obtain ⟨u, hu⟩ := ba_of z
  have hr2 : r.data.toList = prt ls ++ 13 :: 10 :: u.data.toList := by rw [hu, hr]; simp
  obtain ⟨h30, hall⟩ := chk_zero ls hc
  have hall := chkL_all ls hall
  have hn : parN r.data.toList = (r.size : Int) - (u.size : Int) := by
    unfold parN
    rw [hr, par_back ls z hc, if_pos rfl, ← hr, size_list]
    simp only
    rw [← size_list u, hu]
  unfold ParsesAt
  rw [hn, hr, par_back ls z hc]
  exact parse_early r u ls hr2 hall h30 hsz mm W hW
theorem readQ_back (s m t b x : ByteArray) (ls : List Fld) (z : List UInt8) (h : wrQ (KQr m.data.toList) m.data.toList t.data.toList ls b.data.toList = (x.data.toList, 0)) (hs : s.data.toList = x.data.toList ++ z) (hsz : s.size ≤ 1152921504606846976) (mm : Int) (w : World) (hS : STabs w) (hm : w.cell? ⟨0, 0, none⟩ = some (.int .i64 mm)) :
    Calls Tryz.prog 11 #[.string s] w fun e w' => ∃ v, e = .returned (.tuple #[.agg #[.string m, .string t, v, .string b], .int .i64 (x.size : Int), .int .i64 0]) ∧ FlO w.heap.size w' v ls ∧ Below w.heap.size w w' := by
  have hq := q_back (K := KQr) (kd_ok true m.data.toList 0) (kd_four m.data.toList 0) z h
  rw [← hs, size_list] at hq
  obtain ⟨h1, h2, u, hu, hx⟩ := wrQ_is h
  obtain ⟨hc, _, _, _, _, hu2⟩ := wrB_is hu
  have hs1 : s.data.toList = reqB m.data.toList t.data.toList ++ 13 :: 10 :: (u ++ z) := by rw [hs, hx]; simp
  refine readQ_of s m t b ls x.size 0 hq mm w (by unfold maxLen; omega) hS hm (fun W hW => linesQ_back s m t (u ++ z) hs1 h1 h2 hsz mm W hW) (fun _ r W hr hW => ?_)
  rw [hs1, paR_back _ _ _ h1 h2] at hr
  have hr' : r.data.toList = u ++ z := by
    rw [hr]
    have := line_drop (reqB m.data.toList t.data.toList) (u ++ z)
    simpa using this
  have hrs : r.size ≤ 1152921504606846976 := by
    have h3 := congrArg List.length hs1
    have h4 := congrArg List.length hr'
    rw [size_list] at h3 h4
    rw [List.length_append, List.length_cons, List.length_cons] at h3
    omega
  exact parsesF_back r ls (bdB (KQr m.data.toList ls).1 b.data.toList ++ z) (by rw [hr', hu2, List.append_assoc]) hc hrs mm W hW
end Go.Proofs.YtipfjpihciiikaaGreatDoor

/-
  What ReadRequest of package msg computes of nothing; no condition but that the listed variables that the library reads hold what their text lays.
-/
namespace Go.Proofs.YtipfjpihciiikaaGreatDoor
open Go.RowKit

theorem readQ_nil (mm : Int) (w : World) (hS : STabs w) (hm : w.cell? ⟨0, 0, none⟩ = some (.int .i64 mm)) :
    Calls Tryz.prog 11 #[.string ⟨#[]⟩] w fun e w' => ∃ v, e = .returned (.tuple #[.agg #[.string ⟨#[]⟩, .string ⟨#[]⟩, v, .string ⟨#[]⟩], .int .i64 0, .int .i64 8]) ∧ FlO w.heap.size w' v [] ∧ Below w.heap.size w w' :=
  readQ_at ⟨#[]⟩ ⟨#[]⟩ ⟨#[]⟩ ⟨#[]⟩ [] 0 8 (rdQ_nil _) mm w (by decide) hS hm
theorem wrQ_bad {K : Kd} {m t : List UInt8} {ls : List Fld} {b x : List UInt8} {c : Int} (h : wrQ K m t ls b = (x, c)) (hc : c ≠ 0) : x = [] := by
  rcases wrQ_two K m t ls b with ⟨c', _, e⟩ | ⟨s, e, _⟩
  · rw [h] at e; exact (Prod.mk.inj e).1
  · rw [h] at e; exact absurd (Prod.mk.inj e).2 hc
theorem wrQ_full {K : Kd} {m t : List UInt8} {ls : List Fld} {b x : List UInt8} (h : wrQ K m t ls b = (x, 0)) : x ≠ [] := by
  rcases wrQ_two K m t ls b with ⟨c', hc, e⟩ | ⟨s, e, hs⟩
  · rw [h] at e; exact absurd (Prod.mk.inj e).2.symm hc
  · rw [h] at e; rw [(Prod.mk.inj e).1]; exact hs
end Go.Proofs.YtipfjpihciiikaaGreatDoor

/-
  The walk through MsgBack: it answers true and turns nothing that was there; the listed variables that the library reads hold what their text lays.
-/
namespace Go.Proofs.YtipfjpihciiikaaGreatDoor
open Go.RowKit

set_option maxHeartbeats 2000000 in
set_option maxRecDepth 100000 in
theorem walkMsgBack (a0m a0t : ByteArray) (a0v : Value) (l0 : List Fld) (a0b a1 : ByteArray) (w : World) (z0 : Fl w a0v l0) (m0 : Most maxLen l0) (x0 : a0m.size ≤ maxLen) (y0 : a0t.size ≤ maxLen) (_u0 : a0b.size ≤ maxLen) (z1 : a1.size ≤ 140737488351232) (hm : ∃ m, w.cell? ⟨0, 0, none⟩ = some (.int .i64 m)) (hT : STabs w) (hH : HTab w) :
    Calls Tryz.prog 7 #[.agg #[.string a0m, .string a0t, a0v, .string a0b], .string a1] w fun e w' => e = .returned (.bool true) ∧ Below w.heap.size w w' := by
  obtain ⟨mm, hm⟩ := hm
  have HB : Hid (w.cell? ⟨0, 0, none⟩ = some (.int .i64 mm)) := hm
  have HF : Hid (Fl w a0v l0) := z0
  have HM : Hid (Most maxLen l0) := m0
  have HS : Hid (STabs w) := hT
  have HT : Hid (HTab w) := hH
  have H1 : Hid (a0m.size ≤ maxLen) := x0
  have H2 : Hid (a0t.size ≤ maxLen) := y0
  clear z0 m0 x0 y0 _u0 hT hH hm
  obtain ⟨x, c, hx⟩ : ∃ (x : ByteArray) (c : Int), wrQ (KQ a0m.data.toList) a0m.data.toList a0t.data.toList l0 a0b.data.toList = (x.data.toList, c) := ⟨⟨(wrQ (KQ a0m.data.toList) a0m.data.toList a0t.data.toList l0 a0b.data.toList).1.toArray⟩, _, rfl⟩
  have HX : Hid (wrQ (KQ a0m.data.toList) a0m.data.toList a0t.data.toList l0 a0b.data.toList = (x.data.toList, c)) := hx
  by_cases hc : c = 0
  · subst hc
    have hxs : x.size ≤ 80000 := by rw [← size_list]; exact wrQ_len (kd_ok true a0m.data.toList 0) hx
    obtain ⟨s, hs⟩ : ∃ s : ByteArray, s = x ++ a1 := ⟨_, rfl⟩
    have HXS : Hid (x ++ a1 = s) := hs.symm
    have hss : s.size = x.size + a1.size := by rw [hs, ByteArray.size_append]
    have HSL : Hid (s.data.toList = x.data.toList ++ a1.data.toList) := by show _ = _; rw [hs, ByteArray.data_append, Array.toList_append]
    have HSZ : Hid (s.size ≤ 281474976710656) := by show _ ≤ _; omega
    clear hx hs hss
    go_enter Tryz.func7, Tryz.ntmps7
    go_wp2_with fail
    refine (writeQ_at a0m a0t a0v l0 a0b x 0 HX.out _ (HF.out.below (below_alloc _ _)) HM.out (HS.out.below (below_alloc _ _)) (HT.out.below (below_alloc _ _)) H1.out H2.out).mono ?_
    rintro e w1 ⟨rfl, hb0⟩
    have c0 : w1.cell? ⟨w.heap.size, 0, none⟩ = some (.string a0m) := new_cell hb0 0
    have c1 : w1.cell? ⟨w.heap.size, 1, none⟩ = some (.string a0t) := new_cell hb0 1
    have c2 : w1.cell? ⟨w.heap.size, 2, none⟩ = some a0v := new_cell hb0 2
    have c3 : w1.cell? ⟨w.heap.size, 3, none⟩ = some (.string a0b) := new_cell hb0 3
    have hlt : w.heap.size < w1.heap.size := by have := hb0.size; rw [World.size_alloc] at this; omega
    have hb1 := below_new hb0
    clear hb0
    go_wp2_with fail
    refine (readQ_nil mm _ (HS.out.below hb1) (cell_keep hb1 HB.out)).mono ?_
    rintro e w2 ⟨v2, rfl, hf2, hb2⟩
    obtain ⟨ad2, cap2, rfl, _⟩ := own_form2 hf2
    have hw2 := hb1.trans (hb2.mono hb1.size)
    have d0 := (hb2.cell (p := ⟨w.heap.size, 0, none⟩) hlt).trans c0
    have d1 := (hb2.cell (p := ⟨w.heap.size, 1, none⟩) hlt).trans c1
    have d2 := (hb2.cell (p := ⟨w.heap.size, 2, none⟩) hlt).trans c2
    have d3 := (hb2.cell (p := ⟨w.heap.size, 3, none⟩) hlt).trans c3
    have hlt2 := Nat.lt_of_lt_of_le hlt hb2.size
    clear c0 c1 c2 c3 hb1 hb2 hf2 hlt
    go_wp2_with fail
    rw [HXS.out]
    refine (readQ_back s a0m a0t a0b x l0 a1.data.toList HX.out HSL.out (by have := HSZ.out; omega) mm _ (HS.out.below (hw2.alloc hw2.size _)) (cell_keep (hw2.alloc hw2.size _) HB.out)).mono ?_
    rintro e w3 ⟨v3, rfl, hf3, hb3'⟩
    have hb3 := below_new hb3'
    obtain ⟨ad3, cap3, rfl, _⟩ := own_form2 hf3
    have HF3 : Hid (Fl w3 (.slice ad3 l0.length cap3) l0) := hf3.fl
    have hw3 := hw2.trans (hb3.mono hw2.size)
    have HF0 : Hid (Fl w3 a0v l0) := HF.out.below hw3
    have c0 := (hb3.cell (p := ⟨w.heap.size, 0, none⟩) hlt2).trans d0
    have c1 := (hb3.cell (p := ⟨w.heap.size, 1, none⟩) hlt2).trans d1
    have c2 := (hb3.cell (p := ⟨w.heap.size, 2, none⟩) hlt2).trans d2
    have c3 := (hb3.cell (p := ⟨w.heap.size, 3, none⟩) hlt2).trans d3
    have hlt3 := Nat.lt_of_lt_of_le hlt2 hb3.size
    clear d0 d1 d2 d3 hb3 hb3' hf3 hw2 hlt2
    go_wp2_with fail
    refine (sameQ_at a0m a0t a0b _ _ l0 _ (HF0.out.below (below_alloc _ _)) (HF3.out.below (below_alloc _ _))).mono ?_
    rintro e w4 ⟨rfl, hb4⟩
    have hw4 := hw3.trans ((below_new hb4).mono hw3.size)
    clear hb4 hw3
    go_wp2_with fail
    go_ret
    exact ⟨ret_bool (by simp), hw4⟩
  · have hxe : x = ⟨#[]⟩ := ba_same (wrQ_bad hx hc)
    subst hxe
    have hcb : (c != 0) = true := by simpa using hc
    clear hx hc
    go_enter Tryz.func7, Tryz.ntmps7
    go_wp2_with fail
    refine (writeQ_at a0m a0t a0v l0 a0b ⟨#[]⟩ c HX.out _ (HF.out.below (below_alloc _ _)) HM.out (HS.out.below (below_alloc _ _)) (HT.out.below (below_alloc _ _)) H1.out H2.out).mono ?_
    rintro e w1 ⟨rfl, hb0⟩
    have hb1 := below_new hb0
    clear hb0
    go_wp2_with fail
    refine (readQ_nil mm _ (HS.out.below hb1) (cell_keep hb1 HB.out)).mono ?_
    rintro e w2 ⟨v2, rfl, hf2, hb2⟩
    obtain ⟨ad2, cap2, rfl, _⟩ := own_form2 hf2
    have hw2 := hb1.trans (hb2.mono hb1.size)
    clear hb1 hb2 hf2
    go_wp2_with fail
    go_ret
    exact ⟨ret_bool (by simp), hw2.alloc hw2.size _⟩
end Go.Proofs.YtipfjpihciiikaaGreatDoor

/-
  What ReadResponse of package msg computes of a text that begins with a response that was written, whatever stands behind it (nothing, where the body goes on to the end), of whatever size a text may have.
-/
namespace Go.Proofs.YtipfjpihciiikaaGreatDoor
open Go.RowKit

theorem rdP_nil (K : Int → Kd) : rdP K [] = ((0, []), [], [], 0, 8) := by
  unfold rdP; rw [paS_nil]; rfl
theorem statP_back (s t : ByteArray) (v : Int) (z : List UInt8) (hs : s.data.toList = stB v t.data.toList ++ 13 :: 10 :: z) (hv : codeB v = true) (ht : reas t.data.toList = true) (hsz : s.size ≤ 1152921504606846976) (mm : Int) (W : World) (hW : W.cell? ⟨0, 0, none⟩ = some (.int .i64 mm)) (hT : STabs W) : StatAt s W := by
  obtain ⟨l, hl⟩ := ba_of (stB v t.data.toList)
  obtain ⟨b, hb⟩ := ba_of z
  have hs2 : s.data.toList = l.data.toList ++ 13 :: 10 :: b.data.toList := by rw [hl, hb]; exact hs
  have hle := (stB_le v _ ht).1
  have hls : l.size ≤ 300 := by rw [← size_list, hl]; omega
  have hlen : s.size = l.size + 2 + b.size := by
    have := congrArg List.length hs2
    rw [List.length_append, List.length_cons, List.length_cons, size_list, size_list, size_list] at this
    omega
  have hno : ∀ c ∈ l.data.toList, c ≠ 13 := by rw [hl]; exact stB_no13 _ _ hv ht
  unfold StatAt
  rw [hs, paS_back _ _ _ hv ht]
  refine (parseS_of s l b t v hl hv ht hsz (by omega) mm W hW hT (fun W' e => by subst e; exact cutLine_of s l b 300 hls _ fun W'' e => by subst e; exact scut_early s l b hs2 hno mm _ hW hsz)).mono ?_
  rintro e w1 ⟨rfl, hb1⟩
  refine ⟨?_, hb1⟩
  have h1 : (s.size : Int) - (b.size : Int) = ((stB v t.data.toList).length : Int) + 2 := by
    rw [← hl, size_list]; omega
  rw [h1]
theorem readP_back (me s t b x : ByteArray) (v : Int) (ls : List Fld) (z : List UInt8) (h : wrP (KPr me.data.toList v) v t.data.toList ls b.data.toList = (x.data.toList, 0)) (h4 : (KPr me.data.toList v ls).1 = 4 → z = []) (hs : s.data.toList = x.data.toList ++ z) (hsz : s.size ≤ 1152921504606846976) (mm : Int) (w : World) (hS : STabs w) (hm : w.cell? ⟨0, 0, none⟩ = some (.int .i64 mm)) :
    Calls Tryz.prog 16 #[.string me, .string s] w fun e w' => ∃ u, e = .returned (.tuple #[.agg #[.int .i64 v, .string t, u, .string b], .int .i64 (x.size : Int), .int .i64 0]) ∧ FlO w.heap.size w' u ls ∧ Below w.heap.size w w' := by
  have hq := p_back (K := KPr me.data.toList) (kd_ok false me.data.toList v) z h h4
  rw [← hs, size_list] at hq
  obtain ⟨h1, h2, u, hu, hx⟩ := wrP_is h
  obtain ⟨hc, _, _, _, _, hu2⟩ := wrB_is hu
  have hs1 : s.data.toList = stB v t.data.toList ++ 13 :: 10 :: (u ++ z) := by rw [hs, hx]; simp
  refine readP_of me s v t b ls x.size 0 hq mm w (by unfold maxLen; omega) hS hm (fun W hW hT => statP_back s t v (u ++ z) hs1 h1 h2 hsz mm W hW hT) (fun _ r W hr hW => ?_)
  rw [hs1, paS_back _ _ _ h1 h2] at hr
  have hr' : r.data.toList = u ++ z := by
    rw [hr]
    have := line_drop (stB v t.data.toList) (u ++ z)
    simpa using this
  have hrs : r.size ≤ 1152921504606846976 := by
    have h3 := congrArg List.length hs1
    have h4 := congrArg List.length hr'
    rw [size_list] at h3 h4
    rw [List.length_append, List.length_cons, List.length_cons] at h3
    omega
  exact parsesF_back r ls (bdB (KPr me.data.toList v ls).1 b.data.toList ++ z) (by rw [hr', hu2, List.append_assoc]) hc hrs mm W hW
end Go.Proofs.YtipfjpihciiikaaGreatDoor

/-
  The walk through MsgAnswerBack: it answers true and turns nothing that was there; the listed variables that the library reads hold what their text lays.
-/
namespace Go.Proofs.YtipfjpihciiikaaGreatDoor
open Go.RowKit

theorem readP_nil (mm : Int) (w : World) (hS : STabs w) (hm : w.cell? ⟨0, 0, none⟩ = some (.int .i64 mm)) :
    Calls Tryz.prog 16 #[.string ⟨#[]⟩, .string ⟨#[]⟩] w fun e w' => ∃ v, e = .returned (.tuple #[.agg #[.int .i64 0, .string ⟨#[]⟩, v, .string ⟨#[]⟩], .int .i64 0, .int .i64 8]) ∧ FlO w.heap.size w' v [] ∧ Below w.heap.size w w' :=
  readP_at ⟨#[]⟩ ⟨#[]⟩ 0 ⟨#[]⟩ ⟨#[]⟩ [] 0 8 (rdP_nil _) mm w (by decide) hS hm
theorem wrP_bad {K : Kd} {v : Int} {t : List UInt8} {ls : List Fld} {b x : List UInt8} {c : Int} (h : wrP K v t ls b = (x, c)) (hc : c ≠ 0) : x = [] := by
  unfold wrP at h
  split at h
  · exact (Prod.mk.inj h).1.symm
  · split at h
    · exact (Prod.mk.inj h).1.symm
    · exact absurd (Prod.mk.inj h).2.symm hc
set_option maxHeartbeats 2000000 in
set_option maxRecDepth 100000 in
theorem walkMsgAnswerBack (a0 : ByteArray) (a1c : Int) (a1t : ByteArray) (a1v : Value) (l1 : List Fld) (a1b a2 : ByteArray) (w : World) (_z0 : a0.size ≤ 140737488351232) (z1 : Fl w a1v l1) (m1 : Most maxLen l1) (y1 : a1t.size ≤ maxLen) (_u1 : a1b.size ≤ maxLen) (z2 : a2.size ≤ 140737488351232) (hm : ∃ m, w.cell? ⟨0, 0, none⟩ = some (.int .i64 m)) (hT : STabs w) (hH : HTab w) :
    Calls Tryz.prog 8 #[.string a0, .agg #[.int .i64 a1c, .string a1t, a1v, .string a1b], .string a2] w fun e w' => e = .returned (.bool true) ∧ Below w.heap.size w w' := by
  obtain ⟨mm, hm⟩ := hm
  have HB : Hid (w.cell? ⟨0, 0, none⟩ = some (.int .i64 mm)) := hm
  have HF : Hid (Fl w a1v l1) := z1
  have HM : Hid (Most maxLen l1) := m1
  have HS : Hid (STabs w) := hT
  have HT : Hid (HTab w) := hH
  have H2 : Hid (a1t.size ≤ maxLen) := y1
  clear z1 m1 y1 _u1 hT hH hm _z0
  obtain ⟨x, c, hx⟩ : ∃ (x : ByteArray) (c : Int), wrP (KP a0.data.toList a1c) a1c a1t.data.toList l1 a1b.data.toList = (x.data.toList, c) := ⟨⟨(wrP (KP a0.data.toList a1c) a1c a1t.data.toList l1 a1b.data.toList).1.toArray⟩, _, rfl⟩
  have HX : Hid (wrP (KP a0.data.toList a1c) a1c a1t.data.toList l1 a1b.data.toList = (x.data.toList, c)) := hx
  by_cases hc : c = 0
  · subst hc
    have hxs : x.size ≤ 80000 := by rw [← size_list]; exact wrP_len (kd_ok false a0.data.toList a1c) hx
    obtain ⟨_, _, wx, hwx, _⟩ := wrP_is hx
    have HBK : Hid (bulkF l1 ≤ 1048576) := bulk_chk l1 (wrB_is hwx).1
    obtain ⟨k, n, z, hk⟩ : ∃ k n z, kd false a0.data.toList a1c l1 = (k, n, z) := ⟨_, _, _, rfl⟩
    have HK : Hid (kd false a0.data.toList a1c l1 = (k, n, z)) := hk
    by_cases hk4 : k = 4
    · subst hk4
      obtain ⟨s, hs⟩ : ∃ s : ByteArray, s = x ++ ⟨#[]⟩ := ⟨_, rfl⟩
      have HXS : Hid (x ++ ⟨#[]⟩ = s) := hs.symm
      have hss : s.size = x.size + (⟨#[]⟩ : ByteArray).size := by rw [hs, ByteArray.size_append]
      have HSL : Hid (s.data.toList = x.data.toList ++ (⟨#[]⟩ : ByteArray).data.toList) := by show _ = _; rw [hs, ByteArray.data_append, Array.toList_append]
      have HSZ : Hid (s.size ≤ 281474976710656) := by show _ ≤ _; rw [hss]; show x.size + 0 ≤ _; omega
      clear hx hs hss hk hwx
      go_enter Tryz.func8, Tryz.ntmps8
      go_wp2_with fail
      refine (writeP_at a0 a1c a1t a1v l1 a1b x 0 HX.out _ (HF.out.below (below_alloc _ _)) HM.out (HS.out.below (below_alloc _ _)) (HT.out.below (below_alloc _ _)) H2.out).mono ?_
      rintro e w1 ⟨rfl, hb0⟩
      have c0 : w1.cell? ⟨w.heap.size, 0, none⟩ = some (.int .i64 a1c) := new_cell hb0 0
      have c1 : w1.cell? ⟨w.heap.size, 1, none⟩ = some (.string a1t) := new_cell hb0 1
      have c2 : w1.cell? ⟨w.heap.size, 2, none⟩ = some a1v := new_cell hb0 2
      have c3 : w1.cell? ⟨w.heap.size, 3, none⟩ = some (.string a1b) := new_cell hb0 3
      have hlt : w.heap.size < w1.heap.size := by have := hb0.size; rw [World.size_alloc] at this; omega
      have hb1 := below_new hb0
      clear hb0
      go_wp2_with fail
      refine (readP_nil mm _ (HS.out.below hb1) (cell_keep hb1 HB.out)).mono ?_
      rintro e w2 ⟨v2, rfl, hf2, hb2⟩
      obtain ⟨ad2, cap2, rfl, _⟩ := own_form2 hf2
      have hw2 := hb1.trans (hb2.mono hb1.size)
      have d0 := (hb2.cell (p := ⟨w.heap.size, 0, none⟩) hlt).trans c0
      have d1 := (hb2.cell (p := ⟨w.heap.size, 1, none⟩) hlt).trans c1
      have d2 := (hb2.cell (p := ⟨w.heap.size, 2, none⟩) hlt).trans c2
      have d3 := (hb2.cell (p := ⟨w.heap.size, 3, none⟩) hlt).trans c3
      have hlt2 := Nat.lt_of_lt_of_le hlt hb2.size
      clear c0 c1 c2 c3 hb1 hb2 hf2 hlt
      go_wp2_with fail
      refine (kindU_at false a0 a1c a1v l1 4 n z HK.out _ (HF.out.below (hw2.alloc hw2.size _)) HBK.out (HS.out.below (hw2.alloc hw2.size _))).mono ?_
      rintro e w3 ⟨rfl, hb3'⟩
      have hb3 := below_new hb3'
      have hw3 := hw2.trans (hb3.mono hw2.size)
      have c0 := (hb3.cell (p := ⟨w.heap.size, 0, none⟩) hlt2).trans d0
      have c1 := (hb3.cell (p := ⟨w.heap.size, 1, none⟩) hlt2).trans d1
      have c2 := (hb3.cell (p := ⟨w.heap.size, 2, none⟩) hlt2).trans d2
      have c3 := (hb3.cell (p := ⟨w.heap.size, 3, none⟩) hlt2).trans d3
      have hlt3 := Nat.lt_of_lt_of_le hlt2 hb3.size
      clear d0 d1 d2 d3 hb3 hb3' hw2 hlt2
      go_wp2_with fail
      rw [HXS.out]
      refine (readP_back a0 s a1t a1b x a1c l1 (⟨#[]⟩ : ByteArray).data.toList HX.out (fun _ => rfl) HSL.out (by have := HSZ.out; omega) mm _ (HS.out.below hw3) (cell_keep hw3 HB.out)).mono ?_
      rintro e w4 ⟨v4, rfl, hf4, hb4⟩
      obtain ⟨ad4, cap4, rfl, _⟩ := own_form2 hf4
      have HF4 : Hid (FlO w3.heap.size w4 (.slice ad4 l1.length cap4) l1) := hf4
      have hw4 := hw3.trans (hb4.mono hw3.size)
      have HF0 : Hid (Fl w4 a1v l1) := HF.out.below hw4
      have d0 := (hb4.cell (p := ⟨w.heap.size, 0, none⟩) hlt3).trans c0
      have d1 := (hb4.cell (p := ⟨w.heap.size, 1, none⟩) hlt3).trans c1
      have d2 := (hb4.cell (p := ⟨w.heap.size, 2, none⟩) hlt3).trans c2
      have d3 := (hb4.cell (p := ⟨w.heap.size, 3, none⟩) hlt3).trans c3
      have hlt4 := Nat.lt_of_lt_of_le hlt3 hb4.size
      clear c0 c1 c2 c3 hb4 hf4 hw3 hlt3
      go_wp2_with fail
      refine (sameP_at a1c a1t a1b _ _ l1 _ (HF0.out.below (below_alloc _ _)) (HF4.out.fl.below (below_alloc _ _))).mono ?_
      rintro e w5 ⟨rfl, hb5⟩
      have hw5 := hw4.trans ((below_new hb5).mono hw4.size)
      clear hb5 hw4
      go_wp2_with fail
      go_ret
      exact ⟨ret_bool (by simp), hw5⟩
    · have hkb : (k == 4) = false := by simpa using hk4
      have H4 : Hid ((KPr a0.data.toList a1c l1).1 = 4 → a2.data.toList = []) := by
        show _ → _
        intro h
        exact absurd (by rw [← h]; show k = (kd false a0.data.toList a1c l1).1; rw [hk]) hk4
      obtain ⟨s, hs⟩ : ∃ s : ByteArray, s = x ++ a2 := ⟨_, rfl⟩
      have HXS : Hid (x ++ a2 = s) := hs.symm
      have hss : s.size = x.size + (a2).size := by rw [hs, ByteArray.size_append]
      have HSL : Hid (s.data.toList = x.data.toList ++ (a2).data.toList) := by show _ = _; rw [hs, ByteArray.data_append, Array.toList_append]
      have HSZ : Hid (s.size ≤ 281474976710656) := by show _ ≤ _; omega
      clear hx hs hss hk hwx
      go_enter Tryz.func8, Tryz.ntmps8
      go_wp2_with fail
      refine (writeP_at a0 a1c a1t a1v l1 a1b x 0 HX.out _ (HF.out.below (below_alloc _ _)) HM.out (HS.out.below (below_alloc _ _)) (HT.out.below (below_alloc _ _)) H2.out).mono ?_
      rintro e w1 ⟨rfl, hb0⟩
      have c0 : w1.cell? ⟨w.heap.size, 0, none⟩ = some (.int .i64 a1c) := new_cell hb0 0
      have c1 : w1.cell? ⟨w.heap.size, 1, none⟩ = some (.string a1t) := new_cell hb0 1
      have c2 : w1.cell? ⟨w.heap.size, 2, none⟩ = some a1v := new_cell hb0 2
      have c3 : w1.cell? ⟨w.heap.size, 3, none⟩ = some (.string a1b) := new_cell hb0 3
      have hlt : w.heap.size < w1.heap.size := by have := hb0.size; rw [World.size_alloc] at this; omega
      have hb1 := below_new hb0
      clear hb0
      go_wp2_with fail
      refine (readP_nil mm _ (HS.out.below hb1) (cell_keep hb1 HB.out)).mono ?_
      rintro e w2 ⟨v2, rfl, hf2, hb2⟩
      obtain ⟨ad2, cap2, rfl, _⟩ := own_form2 hf2
      have hw2 := hb1.trans (hb2.mono hb1.size)
      have d0 := (hb2.cell (p := ⟨w.heap.size, 0, none⟩) hlt).trans c0
      have d1 := (hb2.cell (p := ⟨w.heap.size, 1, none⟩) hlt).trans c1
      have d2 := (hb2.cell (p := ⟨w.heap.size, 2, none⟩) hlt).trans c2
      have d3 := (hb2.cell (p := ⟨w.heap.size, 3, none⟩) hlt).trans c3
      have hlt2 := Nat.lt_of_lt_of_le hlt hb2.size
      clear c0 c1 c2 c3 hb1 hb2 hf2 hlt
      go_wp2_with fail
      refine (kindU_at false a0 a1c a1v l1 k n z HK.out _ (HF.out.below (hw2.alloc hw2.size _)) HBK.out (HS.out.below (hw2.alloc hw2.size _))).mono ?_
      rintro e w3 ⟨rfl, hb3'⟩
      have hb3 := below_new hb3'
      have hw3 := hw2.trans (hb3.mono hw2.size)
      have c0 := (hb3.cell (p := ⟨w.heap.size, 0, none⟩) hlt2).trans d0
      have c1 := (hb3.cell (p := ⟨w.heap.size, 1, none⟩) hlt2).trans d1
      have c2 := (hb3.cell (p := ⟨w.heap.size, 2, none⟩) hlt2).trans d2
      have c3 := (hb3.cell (p := ⟨w.heap.size, 3, none⟩) hlt2).trans d3
      have hlt3 := Nat.lt_of_lt_of_le hlt2 hb3.size
      clear d0 d1 d2 d3 hb3 hb3' hw2 hlt2
      go_wp2_with fail
      rw [HXS.out]
      refine (readP_back a0 s a1t a1b x a1c l1 (a2).data.toList HX.out H4.out HSL.out (by have := HSZ.out; omega) mm _ (HS.out.below hw3) (cell_keep hw3 HB.out)).mono ?_
      rintro e w4 ⟨v4, rfl, hf4, hb4⟩
      obtain ⟨ad4, cap4, rfl, _⟩ := own_form2 hf4
      have HF4 : Hid (FlO w3.heap.size w4 (.slice ad4 l1.length cap4) l1) := hf4
      have hw4 := hw3.trans (hb4.mono hw3.size)
      have HF0 : Hid (Fl w4 a1v l1) := HF.out.below hw4
      have d0 := (hb4.cell (p := ⟨w.heap.size, 0, none⟩) hlt3).trans c0
      have d1 := (hb4.cell (p := ⟨w.heap.size, 1, none⟩) hlt3).trans c1
      have d2 := (hb4.cell (p := ⟨w.heap.size, 2, none⟩) hlt3).trans c2
      have d3 := (hb4.cell (p := ⟨w.heap.size, 3, none⟩) hlt3).trans c3
      have hlt4 := Nat.lt_of_lt_of_le hlt3 hb4.size
      clear c0 c1 c2 c3 hb4 hf4 hw3 hlt3
      go_wp2_with fail
      refine (sameP_at a1c a1t a1b _ _ l1 _ (HF0.out.below (below_alloc _ _)) (HF4.out.fl.below (below_alloc _ _))).mono ?_
      rintro e w5 ⟨rfl, hb5⟩
      have hw5 := hw4.trans ((below_new hb5).mono hw4.size)
      clear hb5 hw4
      go_wp2_with fail
      go_ret
      exact ⟨ret_bool (by simp), hw5⟩
  · have hxe : x = ⟨#[]⟩ := ba_same (wrP_bad hx hc)
    subst hxe
    have hcb : (c != 0) = true := by simpa using hc
    clear hx hc
    go_enter Tryz.func8, Tryz.ntmps8
    go_wp2_with fail
    refine (writeP_at a0 a1c a1t a1v l1 a1b ⟨#[]⟩ c HX.out _ (HF.out.below (below_alloc _ _)) HM.out (HS.out.below (below_alloc _ _)) (HT.out.below (below_alloc _ _)) H2.out).mono ?_
    rintro e w1 ⟨rfl, hb0⟩
    have hb1 := below_new hb0
    clear hb0
    go_wp2_with fail
    refine (readP_nil mm _ (HS.out.below hb1) (cell_keep hb1 HB.out)).mono ?_
    rintro e w2 ⟨v2, rfl, hf2, hb2⟩
    obtain ⟨ad2, cap2, rfl, _⟩ := own_form2 hf2
    have hw2 := hb1.trans (hb2.mono hb1.size)
    clear hb1 hb2 hf2
    go_wp2_with fail
    go_ret
    exact ⟨ret_bool (by simp), hw2.alloc hw2.size _⟩
end Go.Proofs.YtipfjpihciiikaaGreatDoor
