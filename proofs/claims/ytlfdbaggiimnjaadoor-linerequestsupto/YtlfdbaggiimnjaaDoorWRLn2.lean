/-
  What LineRequestOf of the document's answers computes; the text has less than 2^32 - 15 bytes, and the package variable that the library reads holds some number.
-/
import Derived.Test.YtlfdbaggiimnjaaDoorWRLn
import Derived.Test.YtlfdbaggiimnjaaDoorWRLine
import Derived.Test.YtlfdbaggiimnjaaDoorWLn3
import Derived.Deep.RegionHeld3
import Derived.Lib.SplitLaws
import Derived.Laws.OwnMore
namespace Go.Proofs.YtlfdbaggiimnjaaDoor
open Go.RowKit

theorem infoS : (Tryd.prog.info? 9).map (fun i => (i.zero, i.size, i.bytes)) = some (some (.string ⟨#[]⟩), 1, 16) := by kernel_rfl
/-- What stands between the blanks, and two empty texts behind it. -/
def words (l : ByteArray) : List ByteArray := Lib.splitB ⟨#[32]⟩ 0 (Lib.countB l ⟨#[32]⟩) l ++ [⟨#[]⟩, ⟨#[]⟩]
theorem words_len (l : ByteArray) : (words l).length = Lib.countB l ⟨#[32]⟩ + 1 + 2 := by
  unfold words
  rw [List.length_append, Lib.splitB_all ⟨#[32]⟩ (by decide) 0 _ l rfl]; rfl
theorem words_two (l : ByteArray) : ∃ x y, ((words l).map Value.string)[0]? = some (.string x) ∧ ((words l).map Value.string)[1]? = some (.string y) ∧ (words l)[0]? = some x ∧ (words l)[1]? = some y := by
  have h := words_len l
  match hw : words l, h with
  | x :: y :: r, _ => exact ⟨x, y, rfl, rfl, rfl, rfl⟩
  | [x], h => simp at h
  | [], h => simp at h
theorem words_of (l : ByteArray) (m t : List UInt8) (h : l.data.toList = reqB m t) (hm : ∀ b ∈ m, b ≠ 32) (ht : ∀ b ∈ t, b ≠ 32) (x y : ByteArray) (hx : (words l)[0]? = some x) (hy : (words l)[1]? = some y) : x.data.toList = m ∧ y.data.toList = t := by
  have i1 : Lib.indexB l ⟨#[32]⟩ = (m.length : Int) := by
    show Lib.index l.data.toList [32] = _
    rw [h]; exact index_byte_at 32 m _ hm
  have hz := size_list l
  rw [h, reqB_len] at hz
  obtain ⟨r, hr⟩ : ∃ r : ByteArray, r = l.extract (m.length + 1) l.size := ⟨_, rfl⟩
  have hrd : r.data.toList = t ++ verB := by
    rw [hr, Lib.extract_data, h]
    unfold reqB
    rw [List.drop_append, List.drop_of_length_le (by omega), Nat.add_sub_cancel_left, List.nil_append, List.drop_succ_cons, List.drop_zero]
    exact List.take_of_length_le (by simp [verB]; omega)
  have i2 : Lib.indexB r ⟨#[32]⟩ = (t.length : Int) := by
    show Lib.index r.data.toList [32] = _
    rw [hrd]; exact index_byte_at 32 t _ ht
  have c1 := Lib.countB_hit l ⟨#[32]⟩ m.length (by decide) i1
  have c2 := Lib.countB_hit r ⟨#[32]⟩ t.length (by decide) i2
  have e1 : m.length + (⟨#[32]⟩ : ByteArray).size = m.length + 1 := rfl
  rw [e1, ← hr, c2] at c1
  generalize Lib.countB (r.extract (t.length + (⟨#[32]⟩ : ByteArray).size) r.size) ⟨#[32]⟩ = q at c1
  have ew : words l = l.extract 0 (m.length + 0) :: r.extract 0 (t.length + 0) :: (Lib.splitB ⟨#[32]⟩ 0 q (r.extract (t.length + (⟨#[32]⟩ : ByteArray).size) r.size) ++ [⟨#[]⟩, ⟨#[]⟩]) := by
    unfold words
    rw [c1, show 1 + (1 + q) = (q + 1) + 1 by omega, Lib.splitB_hit _ _ _ _ _ i1, e1, ← hr, Lib.splitB_hit _ _ _ _ _ i2]
    rfl
  rw [ew] at hx hy
  simp only [List.getElem?_cons_zero, List.getElem?_cons_succ, Option.some.injEq] at hx hy
  constructor
  · rw [← hx, Lib.extract_from_zero, h, Nat.add_zero]
    exact List.take_left' rfl
  · rw [← hy, Lib.extract_from_zero, hrd, Nat.add_zero]
    exact List.take_left' rfl

theorem splitB_small (sep : ByteArray) : ∀ (k : Nat) (s p : ByteArray), p ∈ Lib.splitB sep 0 k s → p.size ≤ s.size := by
  intro k
  induction k with
  | zero =>
    intro s p h
    rw [Lib.splitB_zero, List.mem_singleton] at h
    rw [h]; exact Nat.le_refl _
  | succ k ih =>
    intro s p h
    unfold Lib.splitB at h
    split at h
    · rw [List.mem_singleton] at h
      rw [h]; exact Nat.le_refl _
    · rw [List.mem_cons] at h
      rcases h with h | h
      · rw [h, ByteArray.size_extract]; omega
      · have := ih _ p h
        rw [ByteArray.size_extract] at this; omega
theorem words_small (l x : ByteArray) (j : Nat) (h : (words l)[j]? = some x) : x.size ≤ l.size := by
  have hm := List.mem_of_getElem? h
  unfold words at hm
  rw [List.mem_append] at hm
  rcases hm with hm | hm
  · exact splitB_small _ _ _ _ hm
  · simp at hm; subst hm; exact Nat.zero_le _

theorem ret_ss {a b c d : ByteArray} {v u : Value} (h : a = b) (h' : c = d) : Ending.returned (.tuple #[.string a, .string c, v, u]) = .returned (.tuple #[.string b, .string d, v, u]) := by rw [h, h']

set_option maxHeartbeats 4000000 in
set_option maxRecDepth 100000 in
/-- A line that is cut off: what its words say. -/
theorem rparseR_line (s l : ByteArray) (k : Nat) (hix : Lib.index s.data.toList [13, 10] = k) (hk : k ≤ 300) (hks : k + 2 ≤ s.size) (hl : l.data.toList = s.data.toList.take k) (X Y : ByteArray) (n c : Int)
    (hp : ∀ x y : ByteArray, (words l)[0]? = some x → (words l)[1]? = some y → ∀ (z : ByteArray) (d : Int), prR x.data.toList y.data.toList = (z.data.toList, d) → (d = 0 ∧ z.data.toList = l.data.toList ++ [13, 10] ∧ X = x ∧ Y = y ∧ n = k + 2 ∧ c = 0) ∨ ((d ≠ 0 ∨ z.data.toList ≠ l.data.toList ++ [13, 10]) ∧ X = ⟨#[]⟩ ∧ Y = ⟨#[]⟩ ∧ n = 0 ∧ c = 3))
    (m : Int) (w : World) (hm : w.cell? ⟨0, 0, none⟩ = some (.int .i64 m)) (hs : s.size < 4294967281) :
    Calls Tryd.prog 9 #[.string s] w fun e w' => e = .returned (.tuple #[.string X, .string Y, .int .i64 n, .int .i64 c]) ∧ Below w.heap.size w w' := by
  obtain ⟨i0, hi, hz0, hz1, hz2⟩ := info_parts infoS
  have hls : l.size ≤ 300 := by rw [← size_list, hl, List.length_take]; omega
  obtain ⟨x, y, hx, hy, hx', hy'⟩ := words_two l
  obtain ⟨z, d, hz⟩ : ∃ (z : ByteArray) (d : Int), prR x.data.toList y.data.toList = (z.data.toList, d) := ⟨⟨(prR x.data.toList y.data.toList).1.toArray⟩, (prR x.data.toList y.data.toList).2, rfl⟩
  have hcase := hp x y hx' hy' z d hz
  have hcl : Lib.countB l ⟨#[32]⟩ ≤ 301 := by
    have := Lib.count_le l.data.toList (⟨#[32]⟩ : ByteArray).data.toList
    rw [size_list] at this
    show Lib.count _ _ ≤ _
    omega
  have hwl := words_len l
  have hxs : x.size ≤ 300 := by have := words_small l x 0 hx'; omega
  have hys : y.size ≤ 300 := by have := words_small l y 1 hy'; omega
  have HXS : Hid (x.size ≤ maxLen) := by show _ ≤ _; unfold maxLen; omega
  have HYS : Hid (y.size ≤ maxLen) := by show _ ≤ _; unfold maxLen; omega
  have HIX : Hid (Lib.index s.data.toList [13, 10] = k) := hix
  have HL : Hid (l.data.toList = s.data.toList.take k) := hl
  have HM : Hid (w.cell? ⟨0, 0, none⟩ = some (.int .i64 m)) := hm
  have HZ : Hid (prR x.data.toList y.data.toList = (z.data.toList, d)) := hz
  have HC : Hid ((d = 0 ∧ z.data.toList = l.data.toList ++ [13, 10] ∧ X = x ∧ Y = y ∧ n = k + 2 ∧ c = 0) ∨ ((d ≠ 0 ∨ z.data.toList ≠ l.data.toList ++ [13, 10]) ∧ X = ⟨#[]⟩ ∧ Y = ⟨#[]⟩ ∧ n = 0 ∧ c = 3)) := hcase
  have HX : Hid (((words l).map Value.string)[0]? = some (.string x)) := hx
  have HY : Hid (((words l).map Value.string)[1]? = some (.string y)) := hy
  have HW : Hid ((words l).length = Lib.countB l ⟨#[32]⟩ + 1 + 2) := hwl
  obtain ⟨q, hq⟩ : ∃ q, q = Lib.countB l ⟨#[32]⟩ := ⟨_, rfl⟩
  have HQ : Hid (q = Lib.countB l ⟨#[32]⟩) := hq
  have hql : q ≤ 301 := by omega
  have HLIT : Hid ((w.alloc (.cells ((Lib.splitB ⟨#[32]⟩ 0 (Lib.countB l ⟨#[32]⟩) l).map Value.string).toArray 9)).ownsRow w.heap.size 9 1 (.slice (some ⟨w.heap.size, 0, none⟩) (q + 1) (q + 1)) (q + 1) ((Lib.splitB ⟨#[32]⟩ 0 (Lib.countB l ⟨#[32]⟩) l).map Value.string)) := by
    have h := World.ownsRow_lit (base := w.heap.size) (e := 9) (size := 1) w ((Lib.splitB ⟨#[32]⟩ 0 (Lib.countB l ⟨#[32]⟩) l).map Value.string).toArray (q + 1) (Nat.le_refl _) (by unfold maxLen; omega) (by
      rw [List.size_toArray, List.length_map, Lib.splitB_all ⟨#[32]⟩ (by decide) 0 _ l rfl, hq]; omega)
    exact h
  clear hix hl hm hz hcase hx hy hwl hp hx' hy' hcl hq
  go_enter Tryd.func9, Tryd.ntmps9
  go_wp2_with fail
  refine (lineOf_yes s l 300 k HIX.out hk hks HL.out m _ HM.out hs).mono ?_
  rintro e w1 ⟨rfl, rfl⟩
  go_wp2_with fail
  refine (Tryd.strings_Split l ⟨#[32]⟩ m _ (by omega) HM.out (by decide)).mono ?_
  rintro e w2 ⟨rfl, rfl⟩
  rw [← HQ.out]
  have hown := HLIT.out
  rw [← HQ.out] at hown
  have HV : Hid ((Lib.splitB ⟨#[32]⟩ 0 q l).map Value.string ++ [.string ⟨#[]⟩, .string ⟨#[]⟩] = (words l).map Value.string) := by
    show _ = _
    unfold words; rw [← HQ.out, List.map_append]; rfl
  obtain ⟨W2, hW2⟩ : ∃ W2, W2 = w1.alloc (.cells ((Lib.splitB ⟨#[32]⟩ 0 q l).map Value.string).toArray 9) := ⟨_, rfl⟩
  have hb2 : Below w1.heap.size w1 W2 := by rw [hW2]; exact (Below.refl _ _).alloc (Nat.le_refl _) _
  rw [← hW2]
  rw [← hW2] at hown
  clear hW2 HLIT
  have hs2 := hb2.size
  generalize (Lib.splitB ⟨#[32]⟩ 0 q l).map Value.string = vs at hown HV
  go_wp2_with (at_builtin; refine wpList_append_own _ rfl _ _ 41 rfl w1.heap.size 9 i0 (.string ⟨#[]⟩) 1 16 Tryd.underlying41 hi hz0 hz1 hz2 rfl (by decide) _ _ _ rfl (hown.alloc _) ⟨W2.heap.size, 0, none⟩ 2 2 [.string ⟨#[]⟩, .string ⟨#[]⟩] rfl rfl ?c1 ?c2 ?c3 ?c4 ?c5 ?_)
  case c1 =>
    intro j u h
    match j, h with
    | 0, h => simp at h; subst h; simp [Addr.add]
    | 1, h => simp at h; subst h; simp [Addr.add]
  case c2 => intro u hu; simp at hu; subst hu; rfl
  case c3 => unfold maxLen; omega
  case c4 => omega
  case c5 => simp; omega
  · intro v' w3 hown' hgrow _
    have hB : Below w1.heap.size w1 w3 := (hb2.alloc (by omega) _).grown hgrow (by simp; omega) (fun b hb => ((hown.alloc (.cells #[.string ⟨#[]⟩, .string ⟨#[]⟩] 9)).lt b hb).1)
    rw [HV.out] at hown'
    obtain ⟨ad, cap, hv, hcm, hnc, hcells⟩ := own_form2 hown'
    obtain ⟨g, hg, hg1, hg2, hcell⟩ := hcells (by omega)
    have c0 := hcell 0 (by omega)
    have c1 := hcell 1 (by omega)
    rw [HX.out] at c0
    rw [HY.out] at c1
    subst hg
    subst hv
    unfold maxLen at hcm
    clear hcells hcell hown' hgrow hown hb2 hs2 HV
    have hN : 3 ≤ q + 1 + 2 := by omega
    generalize q + 1 + 2 = N at hnc hN
    have b0 : 0 < N := by omega
    have b1 : (1 : Int) < (N : Int) := by omega
    go_wp2_with fail
    go_region_held3 (fun w' => w'.cell? ⟨g, 0, none⟩ = some (.string x) ∧ w'.cell? ⟨g, 1, none⟩ = some (.string y)) (go_keep) (first | (go_at_call 7; refine (rprintR_at x y z d HZ.out _ HXS.out HYS.out).mono ?_; rintro e w4 ⟨rfl, hb4⟩; have d0 : w4.cell? ⟨g, 0, none⟩ = some (.string x) := cell_keep hb4 c0; have d1 : w4.cell? ⟨g, 1, none⟩ = some (.string y) := cell_keep hb4 c1))
    have hB4 : Below w1.heap.size w1 w4 := hB.drew.trans (hb4.mono hB.size)
    clear hb4 hB
    have heq : (z.toList == (l ++ ⟨#[13, 10]⟩ : ByteArray).toList) = decide (z.data.toList = l.data.toList ++ [13, 10]) := by
      rw [ByteArray.toList_eq, ByteArray.toList_eq, ByteArray.data_append, Array.toList_append, Bool.eq_iff_iff]; simp
    have HE : Hid ((z.toList == (l ++ ⟨#[13, 10]⟩ : ByteArray).toList) = decide (z.data.toList = l.data.toList ++ [13, 10])) := heq
    clear heq
    rcases HC.out with ⟨hd, hz, hX, hY, hn, hc⟩ | ⟨hd, hX, hY, hn, hc⟩
    · have hq1 : (z.toList == (l ++ ⟨#[13, 10]⟩ : ByteArray).toList) = true := by rw [HE.out]; exact decide_eq_true hz
      subst hd hX hY hn hc
      clear hz
      have mixed : Tryd.prog.follows Departure.mixedOrders = true := by kernel_rfl
      go_wp2_with fail
      go_region_o
      all_goals go_wp2
      all_goals (try simp only [Exit.inBlock, Exit.then])
      all_goals refine bodyPost_ret (results_four rfl _ _ _) rfl ?_
      all_goals exact ⟨rfl, hB4.drew⟩
    · subst hX hY hn hc
      by_cases hd0 : d = 0
      · have hz : z.data.toList ≠ l.data.toList ++ [13, 10] := by rcases hd with h | h; exact absurd hd0 h; exact h
        have hq1 : (z.toList == (l ++ ⟨#[13, 10]⟩ : ByteArray).toList) = false := by rw [HE.out]; exact decide_eq_false hz
        subst hd0
        clear hd hz
        go_wp2_with fail
        (try simp only [Exit.inBlock, Exit.then])
        refine bodyPost_ret (results_four rfl _ _ _) rfl ?_
        exact ⟨rfl, hB4⟩
      · have hcb : (d != 0) = true := by simpa using hd0
        clear hd hd0
        go_wp2_with fail
        (try simp only [Exit.inBlock, Exit.then])
        refine bodyPost_ret (results_four rfl _ _ _) rfl ?_
        exact ⟨rfl, hB4⟩
end Go.Proofs.YtlfdbaggiimnjaaDoor
