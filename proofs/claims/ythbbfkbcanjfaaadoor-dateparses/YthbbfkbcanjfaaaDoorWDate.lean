/-
  What digits and Print of package date compute, each a contract over the program's text; the tables that they read hold what the program's text lays there.
-/
import Derived.Test.YthbbfkbcanjfaaaDoorWDTabs
import Derived.Test.YthbbfkbcanjfaaaDoorWCal
import Derived.Test.YthbbfkbcanjfaaaDoorShelf
import Derived.Test.YthbbfkbcanjfaaaDoorShelfW
namespace Go.Proofs.YthbbfkbcanjfaaaDoor
open Go.RowKit

theorem ret_se {a b : ByteArray} {c d : Int} (h : a = b) (h' : c = d) : Ending.returned (.tuple #[.string a, .int .i64 c]) = .returned (.tuple #[.string b, .int .i64 d]) := by rw [h, h']
theorem cells_app (a : List UInt8) (s : ByteArray) : Lib.byteCells a ++ Lib.strCells s = Lib.byteCells (a ++ s.data.toList) := by rw [Lib.byteCells_append]; rfl
theorem drewN_belowD (B : Nat) (w : World) (n : Nat) : Below B w (w.drewN n) := by
  induction n with
  | zero => exact Below.refl _ _
  | succ n ih => exact ih.drew
theorem grow_below (w : World) (k : Nat) (os : Array Obj) : Below w.heap.size w (Sort.grow (w.drewN k) os) := by
  have h1 := drewN_belowD w.heap.size w k
  refine ⟨h1.os, h1.tape, h1.output, ?_, fun j hj => ?_⟩
  · rw [Sort.size_grow]; have := h1.size; omega
  · rw [Sort.heap_grow_old _ _ (by have := h1.size; omega)]
    exact h1.block j hj

theorem bu_below {T e : TypeId} {B b : Nat} {bs : List Value} {W W' : World} (h : Lib.IsBuilderF T e B b bs W) (hb : Below W.heap.size W W') : Lib.IsBuilderF T e B b bs W' := by
  have one : ∀ {p : Value}, Lib.BuilderAtF T e B b p bs W → Lib.BuilderAtF T e B b p bs W' := by
    intro p h
    have hlt := h.lt
    obtain ⟨hB, v, hv, hown, hne⟩ := h
    refine ⟨hB, v, ?_, hown.kept (row := none) ⟨hb.os, hb.tape, hb.output, hb.size, fun k hk _ => hb.block k hk⟩ (Classical.em _), hne⟩
    rw [hb.block b hlt]; exact hv
  rcases h with h | h
  · exact .inl (one h)
  · exact .inr (one h)

theorem mk_append (s : ByteArray) (l : List UInt8) (h : l = s.data.toList) : (⟨#[]⟩ : ByteArray) ++ s = ⟨l.toArray⟩ := by
  apply ByteArray.ext
  rw [ByteArray.data_append, h]
  simp

set_option maxHeartbeats 1000000 in
theorem digits2_nat (u : Nat) (h : u < 100) (w : World) :
    Calls Tryd.prog 12 #[.int .i64 (u : Int), .int .i64 2] w fun e w' => e = .returned (.string ⟨(dig2 u).toArray⟩) ∧ w' = w := by
  have c := Tryd.strconv_Itoa_small u h w
  obtain ⟨t, ht⟩ : ∃ t : ByteArray, t = ⟨(Lib.decDigits u).toArray⟩ := ⟨_, rfl⟩
  rw [← ht] at c
  have HL : Hid (t.data.toList = Lib.decDigits u) := by show t.data.toList = _; rw [ht]
  clear ht
  by_cases h1 : u < 10
  · have hz : t.size = 1 := by rw [← size_list, HL.out, Lib.decDigits_one h1]; rfl
    go_enter Tryd.func12, Tryd.ntmps12
    go_wp2_with fail
    refine c.mono ?_
    rintro e w ⟨rfl, rfl⟩
    go_wp2_with fail
    refine (Tryd.strings_Repeat_one _ _).mono ?_
    rintro e w ⟨rfl, rfl⟩
    go_wp2_with fail
    go_ret
    refine ⟨ret_str ?_, rfl⟩
    apply ByteArray.ext
    rw [ByteArray.data_append, ← dec_1 u h1, ← HL.out]
    simp
  · have hz : t.size = 2 := by rw [← size_list, HL.out, dec_2 u h1 h]; rfl
    go_enter Tryd.func12, Tryd.ntmps12
    go_wp2_with fail
    refine c.mono ?_
    rintro e w ⟨rfl, rfl⟩
    go_wp2_with fail
    refine (Tryd.strings_Repeat_zero _ _).mono ?_
    rintro e w ⟨rfl, rfl⟩
    go_wp2_with fail
    go_ret
    exact ⟨ret_str (mk_append _ _ (by rw [HL.out, dec_2 u h1 h])), rfl⟩

theorem digits2_any (x : Int) (h0 : 0 ≤ x) (h1 : x < 100) (w : World) :
    Calls Tryd.prog 12 #[.int .i64 x, .int .i64 2] w fun e w' => e = .returned (.string ⟨(dig2 x.toNat).toArray⟩) ∧ w' = w := by
  obtain ⟨u, rfl⟩ := Int.eq_ofNat_of_zero_le h0
  exact digits2_nat u (by omega) w

set_option maxHeartbeats 1000000 in
theorem digits4_any (x : Int) (h0 : 1000 ≤ x) (h1 : x ≤ 9999) (w : World) (ht : DTabs w) :
    Calls Tryd.prog 12 #[.int .i64 x, .int .i64 4] w fun e w' => e = .returned (.string ⟨(dig4 x.toNat).toArray⟩) ∧ Below w.heap.size w w' := by
  have c := Tryd.strconv_Itoa x (by omega) (by omega) w ht.pow
  obtain ⟨t, ht⟩ : ∃ t : ByteArray, t = ⟨(Lib.itoa x).toArray⟩ := ⟨_, rfl⟩
  rw [← ht] at c
  have HL : Hid (t.data.toList = dig4 x.toNat) := by
    show t.data.toList = _
    rw [ht, ← dec_4 x.toNat (by omega) (by omega), Lib.itoa, if_neg (by omega)]
  have hz : t.size = 4 := by rw [← size_list, HL.out]; rfl
  clear ht
  go_enter Tryd.func12, Tryd.ntmps12
  go_wp2_with fail
  refine c.mono ?_
  rintro e w2 ⟨rfl, k, os, rfl⟩
  have HB : Hid (Below w.heap.size w (Sort.grow (w.drewN k) os)) := grow_below w k os
  go_wp2_with fail
  refine (Tryd.strings_Repeat_zero _ _).mono ?_
  rintro e w3 ⟨rfl, rfl⟩
  go_wp2_with fail
  go_ret
  exact ⟨ret_str (mk_append _ _ HL.out.symm), HB.out⟩

theorem wr_step (B : Nat) (l : List UInt8) (s : ByteArray) (w0 w : World) (hb : Lib.IsBuilderF 35 5 B B (Lib.byteCells l) w) (hw : Below B w0 w) (h0 : B ≤ w0.heap.size) (hl : l.length ≤ 100) (hs : s.size ≤ 100) :
    Calls Tryd.prog 11 #[.pointer (some ⟨B, 0, none⟩), .string s] w fun e w' => e = .returned (.tuple #[.int .i64 s.size, .nilIface]) ∧ Lib.IsBuilderF 35 5 B B (Lib.byteCells (l ++ s.data.toList)) w' ∧ Below B w0 w' := by
  have hsz := hw.size
  refine (Tryd.Builder_WriteString_k B B _ s _ hb (by rw [Lib.byteCells_length]; omega) (by omega)).mono ?_
  rintro e w' ⟨h1, h2, h3, _⟩
  rw [cells_app] at h2
  exact ⟨h1, .inr h2, hw.trans h3⟩
end Go.Proofs.YthbbfkbcanjfaaaDoor
