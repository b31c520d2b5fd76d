/-
  What Parse of package date computes, a contract over the program's text; the tables that it reads hold what the program's text lays there.
-/
import Derived.Test.YtigbjhkkbgdkcacGreatDoorMc
import Derived.Shelf.Strings.Builder1
import Derived.Shelf.Strings.BuilderK
import Derived.Handy
import Derived.Test.YtigbjhkkbgdkcacGreatDoorShelf
import Derived.Test.YtigbjhkkbgdkcacGreatDoorRows
import Derived.Lib.IndexMore
import Derived.Lib.IndexBytes
import Derived.Shelf.Strings.Cut
namespace Go.Proofs.YtigbjhkkbgdkcacGreatDoor
open Go.RowKit

theorem ret_ie2 {a b c d : Int} (h : a = b) (h' : c = d) : Ending.returned (.tuple #[.int .i64 a, .int .i64 c]) = .returned (.tuple #[.int .i64 b, .int .i64 d]) := by rw [h, h']

theorem list_ne {a b : ByteArray} (h : (a.toList == b.toList) = false) : a.data.toList ≠ b.data.toList := by
  rw [ByteArray.toList_eq, ByteArray.toList_eq, beq_eq_false_iff_ne] at h; exact h

theorem dt_same {a b : List UInt8} {n : Int} (h : IsDT a n) (h' : IsDT b n) : a = b := by
  obtain ⟨_, _, y, m, d, hv, hn, rfl⟩ := h
  obtain ⟨_, _, z, k, c, hv', hn', rfl⟩ := h'
  exact dt_text hv hn hv' hn'

set_option maxHeartbeats 1000000 in
set_option maxRecDepth 100000 in
theorem dparse_any (s : ByteArray) (w : World) (ht : DTabs w) :
    Calls Tryz.prog 63 #[.string s] w fun e w' => ∃ n c : Int, e = .returned (.tuple #[.int .i64 n, .int .i64 c]) ∧ PR s.data.toList n c ∧ Below w.heap.size w w' := by
  by_cases hs : s.size = 29
  · cases hv : vldB (gY s.data.toList) (gM s.data.toList) (gD s.data.toList)
    · have HP : Hid (PR s.data.toList 0 3) := .inr ⟨rfl, rfl, fun k h => by have := (dt_gss h).1; rw [hv] at this; cases this⟩
      have c := guess_no s w hs ht hv
      clear hv ht
      go_enter Tryz.func63, Tryz.ntmps63
      go_wp2_with fail
      refine c.mono ?_
      rintro e w1 ⟨rfl, k, rfl⟩
      go_wp2_with fail
      go_ret2
      exact ⟨0, 3, rfl, HP.out, drewN_belowD _ _ _⟩
    · have c := guess_yes s w hs ht hv
      have HT : Hid (DTabs w) := ht
      have HG : Hid (∀ k, IsDT s.data.toList k → gss s.data.toList = k) := fun k h => (dt_gss h).2
      obtain ⟨n, hn⟩ : ∃ n, n = gss s.data.toList := ⟨_, rfl⟩
      rw [← hn] at c
      have HN : Hid (n = gss s.data.toList) := hn
      clear hv ht hn
      by_cases h : n < 0 ∨ 253402300799 < n
      · have H : Hid (n < 0 ∨ 253402300799 < n) := h
        have HP : Hid (PR s.data.toList 0 3) := .inr ⟨rfl, rfl, fun k hk => by have := HG.out k hk; rw [← HN.out] at this; obtain ⟨a, b, _⟩ := hk; omega⟩
        clear h
        go_enter Tryz.func63, Tryz.ntmps63
        go_wp2_with fail
        refine c.mono ?_
        rintro e w1 ⟨rfl, k, rfl⟩
        go_wp2_with fail
        refine (dprint_no _ _ H.out).mono ?_
        rintro e w1 ⟨rfl, rfl⟩
        go_wp2_with fail
        go_ret2
        exact ⟨0, 3, rfl, HP.out, drewN_belowD _ _ _⟩
      · have h1 : 0 ≤ n := by omega
        have h2 : n ≤ 253402300799 := by omega
        clear h
        go_enter Tryz.func63, Tryz.ntmps63
        go_wp2_with fail
        refine c.mono ?_
        rintro e w1 ⟨rfl, k, rfl⟩
        have HB : Hid (Below w.heap.size w (w.drewN k)) := drewN_belowD _ _ _
        go_wp2_with fail
        refine (dprint_yes _ _ h1 h2 (HT.out.below HB.out)).mono ?_
        rintro e w2 ⟨y, m, d, rfl, hv, hn, hb⟩
        have HB2 : Hid (Below w.heap.size w w2) := HB.out.trans (hb.mono HB.out.size)
        obtain ⟨a, ha⟩ : ∃ a : ByteArray, a = ⟨(dtext n y m d).toArray⟩ := ⟨_, rfl⟩
        rw [← ha]
        have HD : Hid (IsDT a.data.toList n) := ⟨h1, h2, y, m, d, hv, hn, by rw [ha]⟩
        clear hv hn hb ha HB c
        cases hq : (a.toList == s.toList)
        · have HP : Hid (PR s.data.toList 0 3) := .inr ⟨rfl, rfl, fun k hk => by
            have e := HG.out k hk
            rw [← HN.out] at e
            subst e
            exact list_ne hq (dt_same HD.out hk)⟩
          go_wp2_with fail
          go_ret2
          exact ⟨0, 3, rfl, HP.out, HB2.out⟩
        · have HP : Hid (PR s.data.toList n 0) := .inl ⟨rfl, by
            have h := HD.out
            rw [ByteArray.toList_eq, ByteArray.toList_eq, beq_iff_eq] at hq
            rw [hq] at h; exact h⟩
          go_wp2_with fail
          go_ret2
          exact ⟨n, 0, rfl, HP.out, HB2.out⟩
  · have HP : Hid (PR s.data.toList 0 3) := .inr ⟨rfl, rfl, fun k h => by have := dt_len h; rw [size_list] at this; exact hs this⟩
    have c := guess_short s w hs
    clear hs ht
    go_enter Tryz.func63, Tryz.ntmps63
    go_wp2_with fail
    refine c.mono ?_
    rintro e w1 ⟨rfl, rfl⟩
    go_wp2_with fail
    go_ret2
    exact ⟨0, 3, rfl, HP.out, Below.refl _ _⟩
end Go.Proofs.YtigbjhkkbgdkcacGreatDoor

/-
  What Of of package date says: the second that the field of that name tells.
-/
namespace Go.Proofs.YtigbjhkkbgdkcacGreatDoor
open Go.RowKit

set_option maxRecDepth 100000 in
theorem dof_at (v : Value) (ls : List Fld) (s : ByteArray) (n c : Int) (h : PR (jn (vals ls s.data.toList)) n c) (w : World) (hf : Fl w v ls) (hW : Wide ls) (hs : s.size ≤ 140737488351232) (hj : (jn (vals ls s.data.toList)).length ≤ 140737488355328) (hT : DTabs w) :
    Calls Tryz.prog 37 #[v, .string s] w fun e w' => e = .returned (.tuple #[.int .i64 n, .bool (c == 0)]) ∧ Below w.heap.size w w' := by
  obtain ⟨t, ht⟩ : ∃ t : ByteArray, t.data.toList = jn (vals ls s.data.toList) := ⟨⟨(jn (vals ls s.data.toList)).toArray⟩, rfl⟩
  have HT : Hid (t.data.toList = jn (vals ls s.data.toList)) := ht
  have hts : t.size ≤ 140737488355328 := by rw [← size_list, ht]; exact hj
  have HF : Hid (Fl w v ls) := hf
  have HW : Hid (Wide ls) := hW
  have HC : Hid (DTabs w) := hT
  have HP : Hid (PR t.data.toList n c) := by rw [← ht] at h; exact h
  clear hf hT h ht hj hW
  go_enter Tryz.func37, Tryz.ntmps37
  go_wp2_with fail
  refine (get_at v ls s t _ HT.out rfl _ HF.out HW.out hs hts).mono ?_
  rintro e w1 ⟨rfl, hb1⟩
  go_wp2_with fail
  refine (dparse_any t _ (HC.out.below hb1)).mono ?_
  rintro e w2 ⟨n', c', rfl, hp, hb2⟩
  obtain ⟨rfl, rfl⟩ := PR_one hp HP.out
  have hw2 := hb1.trans (hb2.mono hb1.size)
  clear hp
  go_wp2_with fail
  go_ret2
  exact ⟨rfl, hw2⟩
end Go.Proofs.YtigbjhkkbgdkcacGreatDoor

/-
  What lies beside a builder at work: a block of two cells stays; no program is named here.
-/
namespace Go.Proofs.YtigbjhkkbgdkcacGreatDoor
open Go.RowKit

theorem kept_pair {w w' : World} {b g : Nat} {t : TypeId} {n u : Value} (h : Lib.OthersKept 5 (some b) w w') (hg : w.heap[g]? = some (.cells #[n, u] t (0, 0))) (hne : b ≠ g) (ht : t ≠ 5) : w'.heap[g]? = some (.cells #[n, u] t (0, 0)) := by
  refine h g _ hg (fun e => hne (Option.some.inj e).symm) ?_
  intro c f e
  injection e with _ e2 _
  exact ht e2
theorem pair_cell {w : World} {g : Nat} {t : TypeId} {n u : Value} (hg : w.heap[g]? = some (.cells #[n, u] t (0, 0))) : w.cell? ⟨g, 0, none⟩ = some n ∧ w.cell? ⟨g, 1, none⟩ = some u := by
  refine ⟨?_, ?_⟩ <;> rw [Lib.cell_of_heap hg] <;> rfl
theorem cells_more (a : List UInt8) (s : ByteArray) : Lib.byteCells a ++ Lib.strCells s = Lib.byteCells (a ++ s.data.toList) := by rw [Lib.byteCells_append]; rfl
theorem bw_below {T e : TypeId} {B b : Nat} {bs : List Value} {W W' : World} (h : Lib.IsBuilderF T e B b bs W) (hb : Below W.heap.size W W') : Lib.IsBuilderF T e B b bs W' := by
  have one : ∀ {p : Value}, Lib.BuilderAtF T e B b p bs W → Lib.BuilderAtF T e B b p bs W' := by
    intro p h
    have hlt := h.lt
    obtain ⟨hB, v, hv, hown, hne⟩ := h
    refine ⟨hB, v, ?_, hown.kept (row := none) ⟨hb.os, hb.tape, hb.output, hb.size, fun k hk _ => hb.block k hk⟩ (Classical.em _), hne⟩
    rw [hb.block b hlt]; exact hv
  rcases h with h | h
  · exact .inl (one h)
  · exact .inr (one h)
end Go.Proofs.YtigbjhkkbgdkcacGreatDoor

/-
  A block of three cells, written anew or newly laid; no program is named here.
-/
namespace Go.Proofs.YtigbjhkkbgdkcacGreatDoor
open Go.RowKit

theorem three_set {w : World} {B : Nat} {u0 u1 u2 : Value} (a b c : Value) (h0 : w.cell? ⟨B, 0, none⟩ = some u0) (h1 : w.cell? ⟨B, 1, none⟩ = some u1) (h2 : w.cell? ⟨B, 2, none⟩ = some u2) :
    (((w.setCell ⟨B, 0, none⟩ a).setCell ⟨B, 1, none⟩ b).setCell ⟨B, 2, none⟩ c).cell? ⟨B, 0, none⟩ = some a ∧ (((w.setCell ⟨B, 0, none⟩ a).setCell ⟨B, 1, none⟩ b).setCell ⟨B, 2, none⟩ c).cell? ⟨B, 1, none⟩ = some b ∧ (((w.setCell ⟨B, 0, none⟩ a).setCell ⟨B, 1, none⟩ b).setCell ⟨B, 2, none⟩ c).cell? ⟨B, 2, none⟩ = some c := by
  have e1 : (w.setCell ⟨B, 0, none⟩ a).cell? ⟨B, 0, none⟩ = some a := World.cell?_setCell_same' _ _ _ (by rw [h0]; rfl)
  have e2 : (w.setCell ⟨B, 0, none⟩ a).cell? ⟨B, 1, none⟩ = some u1 := (World.cell?_setCell_other _ _ _ _ (by simp)).trans h1
  have e3 : ((w.setCell ⟨B, 0, none⟩ a).setCell ⟨B, 1, none⟩ b).cell? ⟨B, 2, none⟩ = some u2 := (World.cell?_setCell_other _ _ _ _ (by simp)).trans ((World.cell?_setCell_other _ _ _ _ (by simp)).trans h2)
  exact ⟨(World.cell?_setCell_other _ _ _ _ (by simp)).trans ((World.cell?_setCell_other _ _ _ _ (by simp)).trans e1), (World.cell?_setCell_other _ _ _ _ (by simp)).trans (World.cell?_setCell_same' _ _ _ (by rw [e2]; rfl)), World.cell?_setCell_same' _ _ _ (by rw [e3]; rfl)⟩
theorem three_cells {w W : World} {t : TypeId} {a b c : Value} (h : Below (w.alloc (.cells #[a, b, c] t)).heap.size (w.alloc (.cells #[a, b, c] t)) W) :
    W.cell? ⟨w.heap.size, 0, none⟩ = some a ∧ W.cell? ⟨w.heap.size, 1, none⟩ = some b ∧ W.cell? ⟨w.heap.size, 2, none⟩ = some c ∧ (∀ o, W.frozen? ⟨w.heap.size, o, none⟩ = false) ∧ w.heap.size < W.heap.size ∧ Below w.heap.size w W := by
  refine ⟨new_cell h 0, new_cell h 1, new_cell h 2, fun o => ?_, ?_, below_new h⟩
  · rw [h.frozen (p := ⟨w.heap.size, o, none⟩) (by simp)]
    exact Lib.frozen_of_heap (heap_alloc_new w _) o
  · have := h.size
    simp at this; omega
end Go.Proofs.YtigbjhkkbgdkcacGreatDoor

/-
  A block that stays beside a builder at work, and how long what is printed of directives is; no program is named here.
-/
namespace Go.Proofs.YtigbjhkkbgdkcacGreatDoor
open Go.RowKit

theorem kept_cells {w w' : World} {b g : Nat} {t : TypeId} {cs : Array Value} (h : Lib.OthersKept 5 (some b) w w') (hg : w.heap[g]? = some (.cells cs t (0, 0))) (hne : b ≠ g) (ht : t ≠ 5) : w'.heap[g]? = some (.cells cs t (0, 0)) := by
  refine h g _ hg (fun e => hne (Option.some.inj e).symm) ?_
  intro c f e
  injection e with _ e2 _
  exact ht e2
theorem three_cell {w : World} {g : Nat} {t : TypeId} {x y z : Value} (hg : w.heap[g]? = some (.cells #[x, y, z] t (0, 0))) : w.cell? ⟨g, 0, none⟩ = some x ∧ w.cell? ⟨g, 1, none⟩ = some y ∧ w.cell? ⟨g, 2, none⟩ = some z := by
  refine ⟨?_, ?_, ?_⟩ <;> rw [Lib.cell_of_heap hg] <;> rfl
theorem cut_len3 (l a b : List UInt8) (c : UInt8) (f : Bool) (h : Lib.cut l [c] = (a, b, f)) : a.length ≤ l.length ∧ b.length ≤ l.length := by
  unfold Lib.cut at h
  split at h
  · simp only [Prod.mk.injEq] at h
    obtain ⟨rfl, rfl, _⟩ := h
    simp
    omega
  · simp only [Prod.mk.injEq] at h
    obtain ⟨rfl, rfl, _⟩ := h
    simp
theorem qt_len (l : List UInt8) : (qt l).1.length ≤ 2 * l.length + 2 := by
  unfold qt
  split
  · simp
  · split
    · have := (esc_len l).2
      simp; omega
    · simp
theorem prArg_len (a : List UInt8) : (prArg a).1.length ≤ 2 * a.length + 2 := by
  unfold prArg
  split
  · simp only; omega
  · exact qt_len a
theorem prD_len (d : Dv) : (prD d).length ≤ d.1.length + 2 * d.2.2.length + 3 := by
  unfold prD
  rw [List.length_append]
  split
  · have := prArg_len d.2.2
    rw [List.length_cons]; omega
  · simp only [List.length_nil]; omega
theorem sepD_len (ds : List Dv) : (sepD ds).length ≤ 2 * bulkD ds := by
  have gen : ∀ ds : List Dv, (ds.flatMap (fun x => 44 :: 32 :: prD x)).length ≤ 2 * bulkD ds := by
    intro ds
    induction ds with
    | nil => simp [bulkD]
    | cons d ds ih =>
      have := prD_len d
      rw [List.flatMap_cons, List.length_append, List.length_cons, List.length_cons]
      simp only [bulkD, List.map_cons, List.sum_cons] at ih ⊢
      omega
  cases ds with
  | nil => simp [sepD]
  | cons d ds =>
    have h1 := prD_len d
    have h2 := gen ds
    unfold sepD
    rw [List.length_append]
    simp only [bulkD, List.map_cons, List.sum_cons] at h2 ⊢
    omega
theorem ctQ_bulk (s : List UInt8) : bulkD (ctQ s).1 ≤ 1048576 := by
  have h1 := ctQ_len s
  have h2 := ctQ_mem s
  have gen : ∀ ds : List Dv, (∀ x ∈ ds, x.1.length ≤ 1000 ∧ x.2.2.length ≤ 1000) → bulkD ds ≤ 2004 * ds.length := by
    intro ds
    induction ds with
    | nil => intro _; simp [bulkD]
    | cons d ds ih =>
      intro h
      have := ih fun x hx => h x (List.mem_cons_of_mem _ hx)
      have h3 := h d (List.mem_cons_self ..)
      simp only [bulkD, List.map_cons, List.sum_cons, List.length_cons] at this ⊢
      omega
  have := gen _ h2
  omega
theorem bulkD_take (ds : List Dv) (k : Nat) : bulkD (ds.take k) ≤ bulkD ds := by
  have h := bulkD_app (ds.take k) (ds.drop k)
  rw [List.take_append_drop] at h
  omega
end Go.Proofs.YtigbjhkkbgdkcacGreatDoor

/-
  What IsToken and inToken compute, each a contract over the program's text; no condition but that a string is no longer than Go allows.
-/
namespace Go.Proofs.YtigbjhkkbgdkcacGreatDoor
open Go.RowKit

def signs : List UInt8 := [33, 35, 36, 37, 38, 39, 42, 43, 45, 46, 94, 95, 96, 124, 126]

theorem isTok_a (c : UInt8) (h : 97 ≤ (c.toNat : Int) ∧ (c.toNat : Int) ≤ 122) : isTok c = true := by
  unfold isTok; simp [UInt8.le_iff_toNat_le]; omega
theorem isTok_b (c : UInt8) (h : 65 ≤ (c.toNat : Int) ∧ (c.toNat : Int) ≤ 90) : isTok c = true := by
  unfold isTok; simp [UInt8.le_iff_toNat_le]; omega
theorem isTok_c (c : UInt8) (h : 48 ≤ (c.toNat : Int) ∧ (c.toNat : Int) ≤ 57) : isTok c = true := by
  unfold isTok; simp [UInt8.le_iff_toNat_le]; omega
theorem isTok_d (c : UInt8) (ha : ¬ (97 ≤ (c.toNat : Int) ∧ (c.toNat : Int) ≤ 122)) (hb : ¬ (65 ≤ (c.toNat : Int) ∧ (c.toNat : Int) ≤ 90)) (hc : ¬ (48 ≤ (c.toNat : Int) ∧ (c.toNat : Int) ≤ 57)) :
    isTok c = decide (0 ≤ Lib.indexByte [33, 35, 36, 37, 38, 39, 42, 43, 45, 46, 94, 95, 96, 124, 126] c) := by
  rw [← Lib.contains_iff_indexByte]
  have a : (97 ≤ c && c ≤ 122) = false := by rw [Bool.eq_false_iff]; simp [UInt8.le_iff_toNat_le]; omega
  have b : (65 ≤ c && c ≤ 90) = false := by rw [Bool.eq_false_iff]; simp [UInt8.le_iff_toNat_le]; omega
  have d : (48 ≤ c && c ≤ 57) = false := by rw [Bool.eq_false_iff]; simp [UInt8.le_iff_toNat_le]; omega
  unfold isTok
  rw [a, b, d]; rfl

set_option maxHeartbeats 400000 in
set_option maxRecDepth 100000 in
theorem inToken_any (c : UInt8) (w : World) :
    Calls Tryz.prog 72 #[.int .u8 (c.toNat : Int)] w fun e w' => e = .returned (.bool (isTok c)) ∧ w' = w := by
  have hlt : (c.toNat : Int) < 256 := by have := c.toNat_lt; omega
  have hge : 0 ≤ (c.toNat : Int) := by omega
  rcases (show (c.toNat : Int) < 48 ∨ (48 ≤ (c.toNat : Int) ∧ (c.toNat : Int) ≤ 57) ∨ (58 ≤ (c.toNat : Int) ∧ (c.toNat : Int) ≤ 64) ∨ (65 ≤ (c.toNat : Int) ∧ (c.toNat : Int) ≤ 90) ∨ (91 ≤ (c.toNat : Int) ∧ (c.toNat : Int) ≤ 96) ∨ (97 ≤ (c.toNat : Int) ∧ (c.toNat : Int) ≤ 122) ∨ 123 ≤ (c.toNat : Int) from by omega) with h | ⟨h, h'⟩ | ⟨h, h'⟩ | ⟨h, h'⟩ | ⟨h, h'⟩ | ⟨h, h'⟩ | h
  all_goals first
    | rw [isTok_a c (by omega)]
    | rw [isTok_b c (by omega)]
    | rw [isTok_c c (by omega)]
    | rw [isTok_d c (by omega) (by omega) (by omega)]
  all_goals
    go_enter Tryz.func72, Tryz.ntmps72
    go_wp2_with (go_at_call 91; refine (Tryz.strings_IndexByte _ _ _).mono ?_; rintro e w' ⟨rfl, rfl⟩)
    go_ret
    exact ⟨rfl, rfl⟩

set_option maxHeartbeats 400000 in
set_option maxRecDepth 100000 in
theorem isToken_any (s : ByteArray) (w : World) (hs : s.size ≤ maxLen) :
    Calls Tryz.prog 53 #[.string s] w fun e w' => e = .returned (.bool (token s.data.toList)) ∧ w' = w := by
  unfold maxLen at hs
  go_enter Tryz.func53, Tryz.ntmps53
  go_wp2_with fail
  go_loop [6] (fun i => ∃ k : Nat, k ≤ s.size ∧ i = .int .i64 k ∧ (s.data.toList.take k).all isTok = true) (fun i => s.size - (intOf i).toNat)
  case atStart => exact ⟨0, Nat.zero_le _, rfl, rfl⟩
  case round =>
    obtain ⟨k, hk, rfl, hall⟩ := hrel
    have HA : Hid ((s.data.toList.take k).all isTok = true) := hall
    clear hall
    by_cases hlt : k < s.size
    · cases ht : isTok s[k]
      · have HT : Hid (isTok s[k] = false) := ht
        clear ht
        go_wp2_with fail
        refine (inToken_any _ _).mono ?_
        rintro e w' ⟨rfl, rfl⟩
        rw [HT.out]
        go_wp2_with fail
        go_ret
        refine ⟨ret_bool ?_, rfl⟩
        rw [token, all_false s isTok k hlt HT.out, Bool.and_false]
      · have HT : Hid (isTok s[k] = true) := ht
        clear ht
        go_wp2_with fail
        refine (inToken_any _ _).mono ?_
        rintro e w' ⟨rfl, rfl⟩
        rw [HT.out]
        go_wp2_with fail
        go_round
        case rel => exact ⟨k + 1, by omega, by go_num, by rw [take_snoc s k hlt, List.all_append, HA.out]; simp [HT.out]⟩
        case measure => simp [intOf]; omega
    · obtain rfl : k = s.size := by omega
      go_wp2_with fail
      go_ret
      refine ⟨ret_bool ?_, rfl⟩
      have h := HA.out
      rw [take_all] at h
      rw [token, h, ByteArray.toList_eq, Bool.and_true]
end Go.Proofs.YtigbjhkkbgdkcacGreatDoor

/-
  What ReadValue of package token answers; a text has at most 1000 bytes.
-/
namespace Go.Proofs.YtigbjhkkbgdkcacGreatDoor
open Go.RowKit

theorem ret_pair' {a b : ByteArray} {c d : Bool} (h : a = b) (h' : c = d) : Ending.returned (.tuple #[.string a, .bool c]) = .returned (.tuple #[.string b, .bool d]) := by rw [h, h']

set_option maxHeartbeats 1000000 in
set_option maxRecDepth 100000 in
theorem readValue_at (s t : ByteArray) (ok : Bool) (h : (ok = true ∧ rv s.data.toList = some t.data.toList) ∨ (ok = false ∧ rv s.data.toList = none ∧ t = ⟨#[]⟩)) (w : World) (hs : s.size ≤ 1000) :
    Calls Tryz.prog 54 #[.string s] w fun e w' => e = .returned (.tuple #[.string t, .bool ok]) ∧ Below w.heap.size w w' := by
  have HZ : Hid (s.size ≤ maxLen) := by show s.size ≤ maxLen; unfold maxLen; omega
  cases htk : token s.data.toList
  · obtain ⟨t', n, hu⟩ : ∃ (t' : ByteArray) (n : Int), unq s.data.toList = (t'.data.toList, n) := ⟨⟨(unq s.data.toList).1.toArray⟩, (unq s.data.toList).2, rfl⟩
    have HU : Hid (unq s.data.toList = (t'.data.toList, n)) := hu
    have HT : Hid (token s.data.toList = false) := htk
    have hfin : t' = t ∧ (n == 0) = ok := by
      rcases h with ⟨rfl, hr⟩ | ⟨rfl, hr, rfl⟩
      · by_cases hn : (unq s.data.toList).2 = 0
        · rw [rv_ok _ htk hn, hu] at hr
          rw [hu] at hn
          simp only at hn
          subst hn
          refine ⟨?_, rfl⟩
          apply ByteArray.ext; apply Array.ext'
          exact Option.some.inj hr
        · rw [rv_bad _ htk hn] at hr; cases hr
      · by_cases hn : (unq s.data.toList).2 = 0
        · rw [rv_ok _ htk hn] at hr; cases hr
        · rw [hu] at hn
          simp only at hn
          refine ⟨?_, by simpa using hn⟩
          have := unq_empty _ _ _ hu hn
          apply ByteArray.ext; apply Array.ext'
          exact this
    obtain ⟨rfl, hok⟩ := hfin
    have HOK : Hid ((n == 0) = ok) := hok
    clear h hu htk hok
    go_enter Tryz.func54, Tryz.ntmps54
    go_wp2_with fail
    refine (isToken_any _ _ HZ.out).mono ?_
    rintro e w1 ⟨rfl, rfl⟩
    rw [HT.out]
    go_wp2_with fail
    refine (unquote_at _ t' n HU.out _ (by omega)).mono ?_
    rintro e w2 ⟨rfl, hb⟩
    go_wp2_with fail
    go_ret2
    exact ⟨ret_pair' rfl HOK.out, hb⟩
  · have HT : Hid (token s.data.toList = true) := htk
    have hfin : t = s ∧ ok = true := by
      rcases h with ⟨rfl, hr⟩ | ⟨rfl, hr, rfl⟩
      · rw [rv_token _ htk] at hr
        refine ⟨?_, rfl⟩
        apply ByteArray.ext; apply Array.ext'
        exact (Option.some.inj hr).symm
      · rw [rv_token _ htk] at hr; cases hr
    obtain ⟨rfl, rfl⟩ := hfin
    clear h htk
    go_enter Tryz.func54, Tryz.ntmps54
    go_wp2_with fail
    refine (isToken_any _ _ HZ.out).mono ?_
    rintro e w1 ⟨rfl, rfl⟩
    rw [HT.out]
    go_wp2_with fail
    refine (clone_at _ _ (by omega)).mono ?_
    rintro e w2 ⟨rfl, hb⟩
    go_wp2_with fail
    go_ret2
    exact ⟨rfl, hb⟩
end Go.Proofs.YtigbjhkkbgdkcacGreatDoor

/-
  Plain lemmas on where a text lies in another one for the first time; no program is named here.
-/
namespace Go.Proofs.YtigbjhkkbgdkcacGreatDoor
open Go.RowKit

theorem index_two' (l sub : List UInt8) : Lib.index l sub = -1 ∨ ∃ k : Nat, Lib.index l sub = k ∧ k + sub.length ≤ l.length := by
  have h := Lib.index_ge l sub
  by_cases h1 : Lib.index l sub = -1
  · exact .inl h1
  · refine .inr ⟨(Lib.index l sub).toNat, by omega, ?_⟩
    have := Lib.index_room l sub (by omega)
    omega
theorem cut_no (l sub : List UInt8) (h : Lib.index l sub = -1) : Lib.cut l sub = (l, [], false) := by
  unfold Lib.cut; rw [h]; rfl
theorem cut_yes (l sub : List UInt8) (k : Nat) (h : Lib.index l sub = k) : Lib.cut l sub = (l.take k, l.drop (k + sub.length), true) := by
  unfold Lib.cut; rw [h, if_pos (by omega)]; simp

theorem cut_split (l sub : List UInt8) (k : Nat) (h : Lib.index l sub = k) : l = l.take k ++ (sub ++ l.drop (k + sub.length)) := by
  rcases Lib.index_spec l sub with ⟨h1, _⟩ | ⟨i, h1, h2, h3, _⟩
  · omega
  · obtain rfl : i = k := by omega
    unfold Lib.occAt at h3
    obtain ⟨t, ht⟩ := List.isPrefixOf_iff_prefix.1 h3
    have e : l.drop (i + sub.length) = t := by rw [← List.drop_drop, ← ht, List.drop_left']; rfl
    rw [e, ht, List.take_append_drop]
theorem index_at_crlf (l t : List UInt8) (h : ∀ b ∈ l, b ≠ 13) : Lib.index (l ++ 13 :: 10 :: t) [13, 10] = (l.length : Int) := by
  induction l with
  | nil => simp [Lib.index]
  | cons b l ih =>
    have ih := ih fun c hc => h c (List.mem_cons_of_mem _ hc)
    have hb : b ≠ 13 := h b (List.mem_cons_self ..)
    have hp : ([13, 10] : List UInt8).isPrefixOf (b :: (l ++ 13 :: 10 :: t)) = false := by
      simp [List.isPrefixOf]
      intro e; exact absurd e.symm hb
    rw [List.cons_append]
    unfold Lib.index
    rw [hp, ih]
    have : ((l.length : Int) == -1) = false := by rw [beq_eq_false_iff_ne]; omega
    rw [this]; simp
theorem index_no_crlf (l : List UInt8) (h : ∀ b ∈ l, b ≠ 13) : Lib.index l [13, 10] = -1 := by
  induction l with
  | nil => rfl
  | cons b l ih =>
    have ih := ih fun c hc => h c (List.mem_cons_of_mem _ hc)
    have hb : b ≠ 13 := h b (List.mem_cons_self ..)
    have hp : ([13, 10] : List UInt8).isPrefixOf (b :: l) = false := by
      cases l <;> simp [List.isPrefixOf]
      intro e; exact absurd e.symm hb
    unfold Lib.index
    rw [hp, ih]; rfl
theorem index_no_crlf1 (l : List UInt8) (h : ∀ b ∈ l, b ≠ 13) : Lib.index (l ++ [13]) [13, 10] = -1 := by
  induction l with
  | nil => rfl
  | cons b l ih =>
    have ih := ih fun c hc => h c (List.mem_cons_of_mem _ hc)
    have hb : b ≠ 13 := h b (List.mem_cons_self ..)
    have hp : ([13, 10] : List UInt8).isPrefixOf (b :: (l ++ [13])) = false := by
      cases l <;> simp [List.isPrefixOf]
      all_goals (intro e; exact absurd e.symm hb)
    rw [List.cons_append]
    unfold Lib.index
    rw [hp, ih]; rfl
theorem index_byte_at (d : UInt8) (l t : List UInt8) (h : ∀ b ∈ l, b ≠ d) : Lib.index (l ++ d :: t) [d] = (l.length : Int) := by
  induction l with
  | nil => simp [Lib.index]
  | cons b l ih =>
    have ih := ih fun c hc => h c (List.mem_cons_of_mem _ hc)
    have hb : b ≠ d := h b (List.mem_cons_self ..)
    have hp : ([d] : List UInt8).isPrefixOf (b :: (l ++ d :: t)) = false := by
      simp [List.isPrefixOf]
      intro e; exact absurd e.symm hb
    rw [List.cons_append]
    unfold Lib.index
    rw [hp, ih]
    have : ((l.length : Int) == -1) = false := by rw [beq_eq_false_iff_ne]; omega
    rw [this]; simp

theorem index_colon (l t : List UInt8) (h : ∀ b ∈ l, b ≠ 58) : Lib.index (l ++ 58 :: t) [58] = (l.length : Int) := index_byte_at 58 l t h
theorem tok_not (c d : UInt8) (hd : isTok d = false) (h : isTok c = true) : c ≠ d := by
  rintro rfl; rw [hd] at h; cases h
theorem plain_not13 (c : UInt8) (h : plainB c = true) : c ≠ 13 := by
  rintro rfl; exact absurd h (by decide)
theorem token_all (l : List UInt8) (h : token l = true) : ∀ c ∈ l, isTok c = true := by
  unfold token at h
  rw [Bool.and_eq_true] at h
  exact List.all_eq_true.1 h.2

end Go.Proofs.YtigbjhkkbgdkcacGreatDoor

/-
  What strings.Cut answers where a single byte is looked for, whatever the size of the text.
-/
namespace Go.Proofs.YtigbjhkkbgdkcacGreatDoor
open Go.RowKit

set_option maxHeartbeats 2000000 in
set_option maxRecDepth 100000 in
theorem slcut1 (s : ByteArray) (c : UInt8) (w : World) (hs : s.size ≤ maxLen) :
    Calls Tryz.prog 71 #[.string s, .string ⟨#[c]⟩] w fun e w' => e = .returned (.tuple #[.string ⟨(Lib.cut s.data.toList [c]).1.toArray⟩, .string ⟨(Lib.cut s.data.toList [c]).2.1.toArray⟩, .bool (Lib.cut s.data.toList [c]).2.2]) ∧ ∃ n, w' = w.drewN n := by
  have hio := Lib.index_one s.data.toList c
  unfold maxLen at hs
  rcases Lib.indexB_cases s ⟨#[c]⟩ with hix | ⟨i, hix, hroom⟩
  · obtain ⟨e1, e2, e3⟩ := Lib.cutB_miss s ⟨#[c]⟩ hix
    have hI : Lib.indexByte s.data.toList c = -1 := by rw [← hio]; exact hix
    rw [show ([c] : List UInt8) = (⟨#[c]⟩ : ByteArray).data.toList from rfl, e1, e2, e3]
    have HI : Hid (Lib.indexByte s.data.toList c = -1) := hI
    clear hio hix e1 e2 e3 hI
    go_enter Tryz.func71, Tryz.ntmps71
    go_wp2_with fail
    refine (Tryz.stringslite_Index_one s c _).mono ?_
    rintro e w1 ⟨rfl, rfl⟩
    rw [HI.out]
    go_wp2_with fail
    go_ret3
    exact ⟨rfl, 0, rfl⟩
  · obtain ⟨e1, e2, e3⟩ := Lib.cutB_hit s ⟨#[c]⟩ i hix
    have hI : Lib.indexByte s.data.toList c = i := by rw [← hio]; exact hix
    have hone : (⟨#[c]⟩ : ByteArray).size = 1 := rfl
    rw [show ([c] : List UInt8) = (⟨#[c]⟩ : ByteArray).data.toList from rfl, e1, e2, e3]
    rw [hone] at hroom ⊢
    have HI : Hid (Lib.indexByte s.data.toList c = i) := hI
    have c1 : (0 : Int) ≤ (i : Int) := by omega
    have c2 : (i : Int) ≤ (s.size : Int) := by omega
    have c3 : (0 : Int) ≤ (i : Int) + 1 := by omega
    have c4 : (i : Int) + 1 ≤ (s.size : Int) := by omega
    clear hio hix e1 e2 e3 hI hone
    have mixed : Tryz.prog.follows Departure.mixedOrders = true := by kernel_rfl
    go_enter Tryz.func71, Tryz.ntmps71
    go_wp2_with fail
    refine (Tryz.stringslite_Index_one s c _).mono ?_
    rintro e w1 ⟨rfl, rfl⟩
    rw [HI.out]
    go_wp2_with fail
    go_region_o
    go_wp2_with fail
    go_ret3
    exact ⟨rfl, 1, rfl⟩
theorem scut1_at (s a b : ByteArray) (c : UInt8) (f : Bool) (h : Lib.cut s.data.toList [c] = (a.data.toList, b.data.toList, f)) (w : World) (hs : s.size ≤ maxLen) :
    Calls Tryz.prog 52 #[.string s, .string ⟨#[c]⟩] w fun e w' => e = .returned (.tuple #[.string a, .string b, .bool f]) ∧ ∃ n, w' = w.drewN n := by
  have hc := slcut1 s c
  rw [h] at hc
  have HC : Hid (∀ (w : World), s.size ≤ maxLen → Calls Tryz.prog 71 #[.string s, .string ⟨#[c]⟩] w fun e w' => e = .returned (.tuple #[.string a, .string b, .bool f]) ∧ ∃ n, w' = w.drewN n) := hc
  have HS : Hid (s.size ≤ maxLen) := hs
  clear hc hs h
  go_enter Tryz.func52, Tryz.ntmps52
  go_wp2_with fail
  refine (HC.out _ HS.out).mono ?_
  rintro e w1 ⟨rfl, n, rfl⟩
  go_wp2_with fail
  go_ret3
  exact ⟨rfl, n, rfl⟩
end Go.Proofs.YtigbjhkkbgdkcacGreatDoor

/-
  What readOne of package control answers; a text has at most 1000 bytes.
-/
namespace Go.Proofs.YtigbjhkkbgdkcacGreatDoor
open Go.RowKit

set_option maxHeartbeats 2000000 in
set_option maxRecDepth 100000 in
theorem kread_at (s : ByteArray) (w : World) (hs : s.size ≤ 1000) :
    Calls Tryz.prog 26 #[.string s] w fun e w' => Below w.heap.size w w' ∧ ((paD s.data.toList = none ∧ ∃ (n a : ByteArray) (f : Bool), e = .returned (.tuple #[.agg #[.string n, .bool f, .string a], .bool false])) ∨
      ∃ (n a : ByteArray) (f : Bool), paD s.data.toList = some (n.data.toList, f, a.data.toList) ∧ e = .returned (.tuple #[.agg #[.string n, .bool f, .string a], .bool true])) := by
  obtain ⟨a, b, f, hc⟩ : ∃ (a b : ByteArray) (f : Bool), Lib.cut s.data.toList [61] = (a.data.toList, b.data.toList, f) := ⟨⟨(Lib.cut s.data.toList [61]).1.toArray⟩, ⟨(Lib.cut s.data.toList [61]).2.1.toArray⟩, (Lib.cut s.data.toList [61]).2.2, rfl⟩
  have HC : Hid (Lib.cut s.data.toList [61] = (a.data.toList, b.data.toList, f)) := hc
  obtain ⟨hal, hbl⟩ := cut_len3 _ _ _ _ _ hc
  rw [size_list, size_list] at hal hbl
  have HZ : Hid (a.size ≤ maxLen) := by show _ ≤ _; unfold maxLen; omega
  have HZS : Hid (s.size ≤ maxLen) := by show _ ≤ _; unfold maxLen; omega
  have HNEW : Hid (∀ W : World, Below (w.alloc (.cells #[.string ⟨#[]⟩, .bool false, .string ⟨#[]⟩] 63)).heap.size (w.alloc (.cells #[.string ⟨#[]⟩, .bool false, .string ⟨#[]⟩] 63)) W →
    W.cell? ⟨w.heap.size, 0, none⟩ = some (.string ⟨#[]⟩) ∧ W.cell? ⟨w.heap.size, 1, none⟩ = some (.bool false) ∧ W.cell? ⟨w.heap.size, 2, none⟩ = some (.string ⟨#[]⟩) ∧ (∀ o, W.frozen? ⟨w.heap.size, o, none⟩ = false) ∧ w.heap.size < W.heap.size ∧ Below w.heap.size w W) := fun W h => three_cells h
  obtain ⟨L, hL⟩ : ∃ L : ByteArray, L = ⟨(lower a.data.toList).toArray⟩ := ⟨_, rfl⟩
  have HLW : Hid (∀ W : World, Calls Tryz.prog 46 #[.string a] W fun e w' => e = .returned (.string L) ∧ Below W.heap.size W w') := fun W => by rw [hL]; exact lower_any a W (by omega)
  have HLL : Hid (L.data.toList = lower a.data.toList) := by show _ = _; rw [hL]
  clear hc hL
  cases htk : token a.data.toList
  · have HT : Hid (token a.data.toList = false) := htk
    have HN : Hid (paD s.data.toList = none) := by show _ = _; unfold paD; rw [HC.out, htk]; rfl
    clear htk
    go_enter Tryz.func26, Tryz.ntmps26
    go_wp2_with fail
    refine (scut1_at s a b 61 f HC.out _ HZS.out).mono ?_
    rintro e w1 ⟨rfl, nd, rfl⟩
    go_wp2_with fail
    refine (isToken_any a _ HZ.out).mono ?_
    rintro e w2 ⟨rfl, hw2⟩
    rw [HT.out]
    obtain ⟨hf0, hf1, hf2, hfz, hgs, hbel⟩ := HNEW.out w2 (by rw [hw2]; exact drewN_below _ _ nd)
    have hz0 := hfz 0
    have hz1 := hfz 1
    have hz2 := hfz 2
    clear hw2 hfz
    go_wp2_with fail
    obtain ⟨c0, c1, c2⟩ := three_set (.string ⟨#[]⟩) (.bool false) (.string ⟨#[]⟩) hf0 hf1 hf2
    obtain ⟨w4, hw4⟩ : ∃ w4, w4 = ((w2.setCell ⟨w.heap.size, 0, none⟩ (.string ⟨#[]⟩)).setCell ⟨w.heap.size, 1, none⟩ (.bool false)).setCell ⟨w.heap.size, 2, none⟩ (.string ⟨#[]⟩) := ⟨_, rfl⟩
    have hb4 : Below w.heap.size w w4 := by rw [hw4]; exact ((hbel.setCell (p := ⟨w.heap.size, 0, none⟩) (Nat.le_refl _) _).setCell (p := ⟨w.heap.size, 1, none⟩) (Nat.le_refl _) _).setCell (p := ⟨w.heap.size, 2, none⟩) (Nat.le_refl _) _
    rw [← hw4] at c0 c1 c2 ⊢
    clear hw4
    refine bodyPost_ret (by simp [results, Tryz.results26, go_sem, c0, c1, c2]; try rfl) rfl ?_
    exact ⟨hb4, .inl ⟨HN.out, _, _, _, rfl⟩⟩
  · have HT : Hid (token a.data.toList = true) := htk
    cases f
    · have HN : Hid (paD s.data.toList = some (L.data.toList, false, (⟨#[]⟩ : ByteArray).data.toList)) := by show _ = _; unfold paD; rw [HC.out, HLL.out]; simp [htk]
      clear htk
      go_enter Tryz.func26, Tryz.ntmps26
      go_wp2_with fail
      refine (scut1_at s a b 61 false HC.out _ HZS.out).mono ?_
      rintro e w1 ⟨rfl, nd, rfl⟩
      go_wp2_with fail
      refine (isToken_any a _ HZ.out).mono ?_
      rintro e w2 ⟨rfl, hw2⟩
      rw [HT.out]
      have HB2 := drewN_below (w.alloc (.cells #[.string ⟨#[]⟩, .bool false, .string ⟨#[]⟩] 63)).heap.size (w.alloc (.cells #[.string ⟨#[]⟩, .bool false, .string ⟨#[]⟩] 63)) nd
      rw [← hw2] at HB2
      clear hw2
      go_wp2_with fail
      refine (HLW.out _).mono ?_
      rintro e w3 ⟨rfl, hb3⟩
      have hb3' := HB2.trans (hb3.mono HB2.size)
      obtain ⟨hf0, hf1, hf2, hfz, hgs, hbel⟩ := HNEW.out w3 hb3'
      have hz0 := hfz 0
      have hz1 := hfz 1
      have hz2 := hfz 2
      clear hfz hb3 hb3' HB2
      go_wp2_with fail
      obtain ⟨c0, c1, c2⟩ := three_set (.string L) (.bool false) (.string ⟨#[]⟩) hf0 hf1 hf2
      obtain ⟨w4, hw4⟩ : ∃ w4, w4 = ((w3.setCell ⟨w.heap.size, 0, none⟩ (.string L)).setCell ⟨w.heap.size, 1, none⟩ (.bool false)).setCell ⟨w.heap.size, 2, none⟩ (.string ⟨#[]⟩) := ⟨_, rfl⟩
      have hb4 : Below w.heap.size w w4 := by rw [hw4]; exact ((hbel.setCell (p := ⟨w.heap.size, 0, none⟩) (Nat.le_refl _) _).setCell (p := ⟨w.heap.size, 1, none⟩) (Nat.le_refl _) _).setCell (p := ⟨w.heap.size, 2, none⟩) (Nat.le_refl _) _
      rw [← hw4] at c0 c1 c2 ⊢
      clear hw4
      have e0 := (World.cell?_alloc_lt w4 (.cells #[.string L, .bool false, .string ⟨#[]⟩] 63) _ (cell_in c0)).trans c0
      have e1 := (World.cell?_alloc_lt w4 (.cells #[.string L, .bool false, .string ⟨#[]⟩] 63) _ (cell_in c1)).trans c1
      have e2 := (World.cell?_alloc_lt w4 (.cells #[.string L, .bool false, .string ⟨#[]⟩] 63) _ (cell_in c2)).trans c2
      refine bodyPost_ret (by simp [results, Tryz.results26, go_sem, e0, e1, e2]; try rfl) rfl ?_
      exact ⟨hb4.alloc hb4.size _, .inr ⟨L, ⟨#[]⟩, false, HN.out, rfl⟩⟩
    · obtain ⟨t, ok, hrv⟩ : ∃ (t : ByteArray) (ok : Bool), (ok = true ∧ rv b.data.toList = some t.data.toList) ∨ (ok = false ∧ rv b.data.toList = none ∧ t = ⟨#[]⟩) := by
        cases hr : rv b.data.toList with
        | none => exact ⟨⟨#[]⟩, false, .inr ⟨rfl, rfl, rfl⟩⟩
        | some l => exact ⟨⟨l.toArray⟩, true, .inl ⟨rfl, by simp⟩⟩
      have HRV : Hid ((ok = true ∧ rv b.data.toList = some t.data.toList) ∨ (ok = false ∧ rv b.data.toList = none ∧ t = ⟨#[]⟩)) := hrv
      have HN : Hid ((paD s.data.toList = none ∧ ok = false) ∨ (paD s.data.toList = some (L.data.toList, true, t.data.toList) ∧ ok = true)) := by
        show _ ∨ _
        unfold paD
        rw [HC.out, HLL.out]
        rcases hrv with ⟨h1, h2⟩ | ⟨h1, h2, _⟩
        · right; simp [htk, h2, h1]
        · left; simp [htk, h2, h1]
      clear htk hrv
      go_enter Tryz.func26, Tryz.ntmps26
      go_wp2_with fail
      refine (scut1_at s a b 61 true HC.out _ HZS.out).mono ?_
      rintro e w1 ⟨rfl, nd, rfl⟩
      go_wp2_with fail
      refine (isToken_any a _ HZ.out).mono ?_
      rintro e w2 ⟨rfl, hw2⟩
      rw [HT.out]
      have HB2 := drewN_below (w.alloc (.cells #[.string ⟨#[]⟩, .bool false, .string ⟨#[]⟩] 63)).heap.size (w.alloc (.cells #[.string ⟨#[]⟩, .bool false, .string ⟨#[]⟩] 63)) nd
      rw [← hw2] at HB2
      clear hw2
      go_wp2_with fail
      refine (HLW.out _).mono ?_
      rintro e w3 ⟨rfl, hb3⟩
      have HB3 : Hid (Below (w.alloc (.cells #[.string ⟨#[]⟩, .bool false, .string ⟨#[]⟩] 63)).heap.size (w.alloc (.cells #[.string ⟨#[]⟩, .bool false, .string ⟨#[]⟩] 63)) w3) := HB2.trans (hb3.mono HB2.size)
      clear hb3 HB2
      go_wp2_with fail
      refine (readValue_at b t ok HRV.out _ (by omega)).mono ?_
      rintro e w4 ⟨rfl, hb4⟩
      obtain ⟨g0, g1, g2, hgz, hgl, hbn⟩ := three_cells hb4
      have hb4' := HB3.out.trans (hbn.mono HB3.out.size)
      obtain ⟨hf0, hf1, hf2, hfz, hgs, hbel⟩ := HNEW.out w4 hb4'
      have hz0 := hfz 0
      have hz1 := hfz 1
      have hz2 := hfz 2
      have hy2 := hgz 2
      have hlt3 : w.heap.size < w3.heap.size := by have := HB3.out.size; simp at this; omega
      clear hfz hgz hb4 hb4' hbn
      go_wp2_with fail
      have e0 : (w4.setCell ⟨w3.heap.size, 2, none⟩ (.string t)).cell? ⟨w.heap.size, 0, none⟩ = some (.string ⟨#[]⟩) := (World.cell?_setCell_other _ _ _ _ (by simp)).trans hf0
      have e1 : (w4.setCell ⟨w3.heap.size, 2, none⟩ (.string t)).cell? ⟨w.heap.size, 1, none⟩ = some (.bool false) := (World.cell?_setCell_other _ _ _ _ (by simp)).trans hf1
      have e2 : (w4.setCell ⟨w3.heap.size, 2, none⟩ (.string t)).cell? ⟨w.heap.size, 2, none⟩ = some (.string ⟨#[]⟩) := (World.cell?_setCell_other _ _ _ _ (by simp)).trans hf2
      obtain ⟨c0, c1, c2⟩ := three_set (.string L) (.bool true) (.string t) e0 e1 e2
      obtain ⟨w5, hw5⟩ : ∃ w5, w5 = (((w4.setCell ⟨w3.heap.size, 2, none⟩ (.string t)).setCell ⟨w.heap.size, 0, none⟩ (.string L)).setCell ⟨w.heap.size, 1, none⟩ (.bool true)).setCell ⟨w.heap.size, 2, none⟩ (.string t) := ⟨_, rfl⟩
      have hb5 : Below w.heap.size w w5 := by rw [hw5]; exact (((hbel.setCell (p := ⟨w3.heap.size, 2, none⟩) (Nat.le_of_lt hlt3) _).setCell (p := ⟨w.heap.size, 0, none⟩) (Nat.le_refl _) _).setCell (p := ⟨w.heap.size, 1, none⟩) (Nat.le_refl _) _).setCell (p := ⟨w.heap.size, 2, none⟩) (Nat.le_refl _) _
      rw [← hw5] at c0 c1 c2 ⊢
      clear hw5
      refine bodyPost_ret (by simp [results, Tryz.results26, go_sem, c0, c1, c2]; try rfl) rfl ?_
      rcases HN.out with ⟨h1, rfl⟩ | ⟨h1, rfl⟩
      · exact ⟨hb5, .inl ⟨h1, _, _, _, rfl⟩⟩
      · exact ⟨hb5, .inr ⟨L, t, true, h1, rfl⟩⟩
end Go.Proofs.YtigbjhkkbgdkcacGreatDoor

/-
  What the program's table tells of a directive's type.
-/
namespace Go.Proofs.YtigbjhkkbgdkcacGreatDoor
open Go.RowKit

theorem infoDr : (Tryz.prog.info? 63).map (fun i => (i.zero, i.size, i.bytes)) = some (some (.agg #[.string ⟨#[]⟩, .bool false, .string ⟨#[]⟩]), 3, 40) := by kernel_rfl
end Go.Proofs.YtigbjhkkbgdkcacGreatDoor

/-
  What Parse of package control answers, whatever text comes in.
-/
namespace Go.Proofs.YtigbjhkkbgdkcacGreatDoor
open Go.RowKit

set_option maxHeartbeats 4000000 in
set_option maxRecDepth 100000 in
theorem kparse_any (s : ByteArray) (w : World) :
    Calls Tryz.prog 10 #[.string s] w fun e w' => ∃ v, e = .returned (.tuple #[v, .int .i64 (ctQ s.data.toList).2]) ∧
      w'.ownsRow w.heap.size 63 3 v (ctQ s.data.toList).1.length (drs (ctQ s.data.toList).1) ∧ Below w.heap.size w w' := by
  obtain ⟨i1, hi1, hy0, hy1, hy2⟩ := info_parts infoDr
  obtain ⟨P, hP⟩ : ∃ P, (splitS s.data.toList).1 = P := ⟨_, rfl⟩
  obtain ⟨c, hc⟩ : ∃ c, (splitS s.data.toList).2 = c := ⟨_, rfl⟩
  have hsp := split_any s w
  rw [hP, hc] at hsp
  have HSP : Hid (Calls Tryz.prog 25 #[.string s] w fun e w' => ∃ v, e = .returned (.tuple #[v, .int .i64 c]) ∧ w'.ownsRow w.heap.size 9 1 v P.length (strs P) ∧ Below w.heap.size w w') := hsp
  have HQ : Hid (ctQ s.data.toList = if c = 0 then (match paDs P with | none => ([], 3) | some ds => (ds, 0)) else ([], c)) := by
    show _ = _
    unfold ctQ
    rw [hP, hc]
    by_cases h0 : c = 0
    · rw [if_pos h0, if_pos h0]; cases paDs P <;> rfl
    · rw [if_neg h0, if_neg h0]
  have hP20 : P.length ≤ 20 := by rw [← hP]; exact split_len _
  have HPL : Hid (∀ p ∈ P, p.length ≤ 1000) := fun p hp => split_mem s.data.toList p (by rw [hP]; exact hp)
  clear hsp hP hc
  by_cases hc0 : c = 0
  · subst hc0
    rw [if_pos rfl] at HQ
    go_enter Tryz.func10, Tryz.ntmps10
    go_wp2_with fail
    refine HSP.out.mono ?_
    rintro e w1 ⟨v, rfl, hown, hb1⟩
    obtain ⟨ad, cap, hv, hcm, hnc, hcl⟩ := own_form2 hown
    subst hv
    have HCL : Hid (0 < P.length → ∃ g, ad = some ⟨g, 0, none⟩ ∧ w.heap.size ≤ g ∧ g < w1.heap.size ∧ ∀ j, j < P.length * 1 → w1.cell? ⟨g, j, none⟩ = (strs P)[j]?) := hcl
    have HB1 : Hid (Below w.heap.size w w1) := hb1
    have hsz1 := hb1.size
    unfold maxLen at hcm
    clear hown hcl hb1
    go_wp2_with fail
    go_loopw [6, 21] (fun ov i wr => ∃ (k : Nat) (ds : List Dv), k ≤ P.length ∧ i = .int .i64 k ∧ Hid (paDs (P.take k) = some ds) ∧ wr.ownsRow w1.heap.size 63 3 ov ds.length (drs ds) ∧ Below w1.heap.size w1 wr) (fun _ i _ => P.length - (intOf i).toNat)
    case atStart => exact ⟨0, [], Nat.zero_le _, rfl, rfl, World.ownsRow_nil _ _ _ _, Below.refl _ _⟩
    case round =>
      obtain ⟨k, ds, hk, rfl, HDS, hown, hwr⟩ := hrel
      have hszr := hwr.size
      have hdl : ds.length ≤ 20 := by
        have h1 := (paDs_all _ _ HDS.out).1
        have h2 := List.length_take_le k P
        omega
      by_cases hlt : k < P.length
      · obtain ⟨g, rfl, hgB, hgs, hce⟩ := HCL.out (by omega)
        have hcell := (hwr.cell (p := ⟨g, k, none⟩) hgs).trans ((hce k (by omega)).trans (strs_get P k hlt))
        obtain ⟨t, ht⟩ : ∃ t : ByteArray, t = ⟨(P[k]).toArray⟩ := ⟨_, rfl⟩
        rw [← ht] at hcell
        have HT : Hid (t.data.toList = P[k]) := by show _ = _; rw [ht]
        have hts : t.size ≤ 1000 := by rw [← size_list, HT.out]; exact HPL.out _ (List.getElem_mem hlt)
        have hki : (k : Int) < (P.length : Int) := by omega
        have hk0 : (0 : Int) ≤ (k : Int) := by omega
        have hgr : g < wr.heap.size := Nat.lt_of_lt_of_le hgs hszr
        obtain ⟨oad, oc, hov, hom, honc, _⟩ := own_form2 hown
        subst hov
        unfold maxLen at hom
        clear hce ht
        go_wp2_with fail
        refine (kread_at t _ hts).mono ?_
        rintro e w3 ⟨hb3, ⟨hno, n, a, f, rfl⟩ | ⟨n, a, f, hyes, rfl⟩⟩
        · have HNO : Hid (ctQ s.data.toList = ([], 3)) := by
            show _ = _
            rw [HQ.out, paDs_dead P k hlt (by rw [← HT.out]; exact hno)]
          have hwb := HB1.out.trans ((hwr.trans (hb3.mono hszr)).mono hsz1)
          clear hno hb3 hown hwr
          go_wp2_with fail
          go_ret2
          exact ⟨.slice none 0 0, by rw [HNO.out]; try rfl, by rw [HNO.out]; exact World.ownsRow_nil _ _ _ _, hwb.alloc hwb.size _⟩
        · have HN2 : Hid (paDs (P.take (k + 1)) = some (ds ++ [(n.data.toList, f, a.data.toList)])) := paDs_take P k hlt ds HDS.out _ (by rw [← HT.out]; exact hyes)
          have hw4 := hwr.trans (hb3.mono hszr)
          have hown4 := own_below3 hown hb3
          have hsz4 := hw4.size
          clear hyes hb3 hown hwr
          go_wp2_with (at_builtin; refine wpList_append_own _ rfl _ _ 36 rfl w1.heap.size 63 i1 (.agg #[.string ⟨#[]⟩, .bool false, .string ⟨#[]⟩]) 3 40 Tryz.underlying36 hi1 hy0 hy1 hy2 rfl (by decide) _ _ _ rfl ((hown4.alloc _).alloc _) ⟨w3.heap.size + 1, 0, none⟩ 1 1 [.string n, .bool f, .string a] rfl rfl ?c1 ?c2 ?c3 ?c4 ?c5 ?_)
          case c1 =>
            intro j z h
            match j, h with
            | 0, h => simp at h; subst h; simp [Addr.add]
            | 1, h => simp at h; subst h; simp [Addr.add]
            | 2, h => simp at h; subst h; simp [Addr.add]
          case c2 => intro z hx; simp at hx; rcases hx with rfl | rfl | rfl <;> rfl
          case c3 => unfold maxLen; omega
          case c4 => omega
          case c5 => simp; omega
          · intro v' w5 hown' hgrow _
            have hB : Below w1.heap.size w1 w5 := ((hw4.alloc (by omega) _).alloc (by simp; omega) _).grown hgrow (by simp; omega) (fun b hb => (((hown4.alloc (.cells #[.string n, .bool f, .string a] 63)).alloc (.cells #[.string n, .bool f, .string a] 63)).lt b hb).1)
            have hown5 : w5.ownsRow w1.heap.size 63 3 v' (ds ++ [(n.data.toList, f, a.data.toList)]).length (drs (ds ++ [(n.data.toList, f, a.data.toList)])) := by
              rw [← drs_snoc, List.length_append]; exact hown'
            clear hown' hgrow hown4 hw4
            go_wp2_with fail
            go_roundw
            case rel => exact ⟨k + 1, _, by omega, by go_num, HN2, hown5, hB⟩
            case measure => simp [intOf]; omega
      · have HD : Hid (ctQ s.data.toList = (ds, 0)) := by
          have h := HDS.out
          rw [List.take_of_length_le (by omega)] at h
          show _ = _
          rw [HQ.out, h]
        have HO : Hid (wr.ownsRow w1.heap.size 63 3 _ ds.length (drs ds)) := hown
        have hwb := HB1.out.trans (hwr.mono hsz1)
        clear hown hwr
        go_wp2_with fail
        go_ret2
        exact ⟨_, by rw [HD.out]; try rfl, by rw [HD.out]; exact own_le HO.out hsz1, hwb⟩
  · have hcb : (c != 0) = true := by simpa using hc0
    rw [if_neg hc0] at HQ
    clear hc0
    go_enter Tryz.func10, Tryz.ntmps10
    go_wp2_with fail
    refine HSP.out.mono ?_
    rintro e w1 ⟨v, rfl, hown, hb1⟩
    obtain ⟨ad, cap, hv, hcm, hnc, hcl⟩ := own_form2 hown
    subst hv
    clear hown hcl
    go_wp2_with fail
    go_ret2
    exact ⟨.slice none 0 0, by rw [HQ.out]; try rfl, by rw [HQ.out]; exact World.ownsRow_nil _ _ _ _, hb1⟩
end Go.Proofs.YtigbjhkkbgdkcacGreatDoor

/-
  What find, Has and Seconds of package control answer; lists and texts are no longer than Go allows.
-/
namespace Go.Proofs.YtigbjhkkbgdkcacGreatDoor
open Go.RowKit

/-- A function value that answers p of each directive, in whatever later world, and turns nothing. -/
def PredD (w : World) (f : Value) (p : List UInt8 × Bool × List UInt8 → Bool) : Prop :=
  ∃ (g : Nat) (lb : Array Value), f = .func (.func g) #[] lb ∧ (∀ args w, (callFunc g args).run Tryz.prog w = .ok (.enter g args) w) ∧
    ∀ (W : World) (k : Bool) (n x : ByteArray), Below w.heap.size w W → Calls Tryz.prog g (#[.agg #[.string n, .bool k, .string x]] ++ lb) W fun e w' => e = .returned (.bool (p (n.data.toList, k, x.data.toList))) ∧ Below W.heap.size W w'

set_option maxHeartbeats 2000000 in
set_option maxRecDepth 100000 in
theorem didx_any (v f : Value) (ts : List (List UInt8 × Bool × List UInt8)) (p : List UInt8 × Bool × List UInt8 → Bool) (w : World) (hf : Dl w v ts) (hp : PredD w f p) :
    Calls Tryz.prog 64 #[v, f] w fun e w' => ((e = .returned (.int .i64 (-1)) ∧ ts.any p = false) ∨ ∃ (k : Nat) (h : k < ts.length), e = .returned (.int .i64 (k : Int)) ∧ (ts.take k).any p = false ∧ p ts[k] = true) ∧ Below w.heap.size w w' := by
  obtain ⟨ad, cap, hv, hcap, hcm, hc⟩ := hf
  obtain ⟨g0, lb, hfv, eg, hpc⟩ := hp
  subst hv hfv
  have HC : Hid (0 < ts.length → ∃ g off, ad = some ⟨g, off, none⟩ ∧ g < w.heap.size ∧
    ∀ (k : Nat) (h : k < ts.length), w.cell? ⟨g, off + k * 3, none⟩ = some (.string ⟨(ts[k]).1.toArray⟩) ∧ w.cell? ⟨g, off + k * 3 + 1, none⟩ = some (.bool (ts[k]).2.1) ∧ w.cell? ⟨g, off + k * 3 + 2, none⟩ = some (.string ⟨(ts[k]).2.2.toArray⟩)) := hc
  have HPC : Hid (∀ (W : World) (k : Bool) (n x : ByteArray), Below w.heap.size w W → Calls Tryz.prog g0 (#[.agg #[.string n, .bool k, .string x]] ++ lb) W fun e w' => e = .returned (.bool (p (n.data.toList, k, x.data.toList))) ∧ Below W.heap.size W w') := hpc
  clear hc hpc
  unfold maxLen at hcm
  go_enter Tryz.func64, Tryz.ntmps64
  go_wp2_with fail
  go_loopw [8] (fun i wr => ∃ k : Nat, k ≤ ts.length ∧ i = .int .i64 k ∧ (ts.take k).any p = false ∧ Below w.heap.size w wr) (fun i _ => ts.length - (intOf i).toNat)
  case atStart => exact ⟨0, Nat.zero_le _, rfl, rfl, Below.refl _ _⟩
  case round =>
    obtain ⟨k, hk, rfl, hno, hw⟩ := hrel
    have hsz := hw.size
    have HNO : Hid ((ts.take k).any p = false) := hno
    clear hno
    by_cases hlt : k < ts.length
    · obtain ⟨g, off, rfl, hgs, hce⟩ := HC.out (by omega)
      obtain ⟨c1, c2, c3⟩ := hce k hlt
      obtain ⟨n, hn⟩ : ∃ n : ByteArray, n = ⟨(ts[k]).1.toArray⟩ := ⟨_, rfl⟩
      obtain ⟨b, hb⟩ : ∃ b : Bool, b = (ts[k]).2.1 := ⟨_, rfl⟩
      obtain ⟨u, hu⟩ : ∃ u : ByteArray, u = ⟨(ts[k]).2.2.toArray⟩ := ⟨_, rfl⟩
      have HE : Hid ((n.data.toList, b, u.data.toList) = ts[k]) := by show _ = _; rw [hn, hb, hu]
      rw [← hn] at c1; rw [← hb] at c2; rw [← hu] at c3
      have d1 : wr.cell? ⟨g, off + k * 3, none⟩ = some (.string n) := (hw.cell (p := ⟨g, off + k * 3, none⟩) hgs).trans c1
      have d2 : wr.cell? ⟨g, off + k * 3 + 1, none⟩ = some (.bool b) := (hw.cell (p := ⟨g, off + k * 3 + 1, none⟩) hgs).trans c2
      have d3 : wr.cell? ⟨g, off + k * 3 + 2, none⟩ = some (.string u) := (hw.cell (p := ⟨g, off + k * 3 + 2, none⟩) hgs).trans c3
      have hgr : g < wr.heap.size := by omega
      clear hce c1 c2 c3 hn hb hu
      have hki : (k : Int) < (ts.length : Int) := by omega
      have hk0 : (0 : Int) ≤ (k : Int) := by omega
      cases hq : p (n.data.toList, b, u.data.toList)
      · have HQ : Hid (p (n.data.toList, b, u.data.toList) = false) := hq
        have HNX : Hid ((ts.take (k + 1)).any p = false) := any_snoc ts p k hlt HNO.out (by rw [← HE.out]; exact hq)
        clear hq
        go_wp2_with (go_at_fn g0; refine (HPC.out _ b n u hw).mono ?_; rintro e w2 ⟨rfl, hb2⟩; rw [HQ.out])
        go_roundw
        case rel => exact ⟨k + 1, by omega, by go_num, HNX.out, hw.trans (hb2.mono hw.size)⟩
        case measure => simp [intOf]; omega
      · have HQ : Hid (p (n.data.toList, b, u.data.toList) = true) := hq
        have HPK : Hid (p ts[k] = true) := by show _ = _; rw [← HE.out]; exact hq
        clear hq
        go_wp2_with (go_at_fn g0; refine (HPC.out _ b n u hw).mono ?_; rintro e w2 ⟨rfl, hb2⟩; rw [HQ.out])
        go_ret
        exact ⟨.inr ⟨k, hlt, rfl, HNO.out, HPK.out⟩, hw.trans (hb2.mono hw.size)⟩
    · have HRK : Hid (ts.any p = false) := by
        show _ = _
        have := HNO.out
        rwa [List.take_of_length_le (by omega)] at this
      go_wp2_with fail
      go_ret
      exact ⟨.inl ⟨rfl, HRK.out⟩, hw⟩
set_option maxRecDepth 100000 in
theorem find1_any (n u s : ByteArray) (b : Bool) (B : Nat) (w : World) (hc : w.cell? ⟨B, 0, none⟩ = some (.string s)) :
    Calls Tryz.prog 66 #[.agg #[.string n, .bool b, .string u], .pointer (some ⟨B, 0, none⟩)] w fun e w' => e = .returned (.bool (isNm s.data.toList (n.data.toList, b, u.data.toList))) ∧ Below w.heap.size w w' := by
  have HQ : Hid ((n.toList == s.toList) = isNm s.data.toList (n.data.toList, b, u.data.toList)) := by show _ = _; unfold isNm; rw [ByteArray.toList_eq, ByteArray.toList_eq]
  have hBs : B < w.heap.size := cell_in hc
  go_enter Tryz.func66, Tryz.ntmps66
  go_wp2_with fail
  go_ret
  exact ⟨ret_bool HQ.out, (Below.refl _ w).alloc (Nat.le_refl _) _⟩
set_option maxHeartbeats 1000000 in
set_option maxRecDepth 100000 in
theorem kfind_at (v : Value) (s : ByteArray) (ts : List (List UInt8 × Bool × List UInt8)) (w : World) (hf : Dl w v ts) :
    Calls Tryz.prog 45 #[v, .string s] w fun e w' => ((e = .returned (.int .i64 (-1)) ∧ ts.any (isNm s.data.toList) = false) ∨ ∃ (k : Nat) (h : k < ts.length), e = .returned (.int .i64 (k : Int)) ∧ (ts.take k).any (isNm s.data.toList) = false ∧ isNm s.data.toList ts[k] = true) ∧ Below w.heap.size w w' := by
  have hmf : ∀ (fn : Fn) (first cap : Array Value) (w : World), (Instr.makeFunc fn first cap).run Tryz.prog w = .ok (.func fn first cap) w := fun _ _ _ _ => rfl
  have hb0 : Below w.heap.size w (w.alloc (.cells #[.string s] 9)) := (Below.refl _ w).alloc (Nat.le_refl _) _
  have HF : Hid (Dl (w.alloc (.cells #[.string s] 9)) v ts) := hf.below hb0
  have HB0 : Hid (Below w.heap.size w (w.alloc (.cells #[.string s] 9))) := hb0
  have HPR : Hid (PredD (w.alloc (.cells #[.string s] 9)) (.func (.func 66) #[] #[.pointer (some ⟨w.heap.size, 0, none⟩)]) (isNm s.data.toList)) :=
    ⟨66, _, rfl, enters_of Tryz.func66 (by kernel_rfl) rfl, fun W b n u hW => find1_any n u s b w.heap.size W ((hW.cell (p := ⟨w.heap.size, 0, none⟩) (by simp)).trans (by simp))⟩
  clear hf hb0
  go_enter Tryz.func45, Tryz.ntmps45
  go_wp2_with fail
  refine (didx_any v _ ts (isNm s.data.toList) _ HF.out HPR.out).mono ?_
  rintro e w2 ⟨⟨rfl, hno⟩ | ⟨k, hk, rfl, h1, h2⟩, hb2⟩
  · have HNO : Hid (ts.any (isNm s.data.toList) = false) := hno
    clear hno
    go_wp2_with fail
    go_ret
    exact ⟨.inl ⟨rfl, HNO.out⟩, HB0.out.trans (hb2.mono HB0.out.size)⟩
  · have H1 : Hid ((ts.take k).any (isNm s.data.toList) = false) := h1
    have H2 : Hid (isNm s.data.toList ts[k] = true) := h2
    clear h1 h2
    go_wp2_with fail
    go_ret
    exact ⟨.inr ⟨k, hk, rfl, H1.out, H2.out⟩, HB0.out.trans (hb2.mono HB0.out.size)⟩
set_option maxRecDepth 100000 in
theorem khas_at (v : Value) (s : ByteArray) (ts : List (List UInt8 × Bool × List UInt8)) (r : Bool) (h : (secK ts s.data.toList).2 = r) (w : World) (hf : Dl w v ts) :
    Calls Tryz.prog 20 #[v, .string s] w fun e w' => e = .returned (.bool r) ∧ Below w.heap.size w w' := by
  have HF : Hid (Dl w v ts) := hf
  have HR : Hid (ts.any (isNm s.data.toList) = r) := by show _ = _; rw [← secK_any]; exact h
  clear hf h
  go_enter Tryz.func20, Tryz.ntmps20
  go_wp2_with fail
  refine (kfind_at v s ts _ HF.out).mono ?_
  rintro e w2 ⟨⟨rfl, hno⟩ | ⟨k, hk, rfl, h1, h2⟩, hb2⟩
  · rw [hno] at HR
    have HRR : Hid (false = r) := HR.out
    go_wp2_with fail
    go_ret
    exact ⟨ret_bool HRR.out, hb2⟩
  · have hany : ts.any (isNm s.data.toList) = true := by rw [List.any_eq_true]; exact ⟨_, List.getElem_mem hk, h2⟩
    rw [hany] at HR
    have HRR : Hid (true = r) := HR.out
    have hk0 : (0 : Int) ≤ (k : Int) := by omega
    clear h1 h2 hany
    go_wp2_with fail
    go_ret
    exact ⟨ret_bool HRR.out, hb2⟩
set_option maxHeartbeats 2000000 in
set_option maxRecDepth 100000 in
theorem knum_at (s : ByteArray) (w : World) (hs : s.size ≤ maxLen) :
    Calls Tryz.prog 62 #[.string s] w fun e w' => e = .returned (.int .i64 (numK s.data.toList)) ∧ w' = w := by
  unfold maxLen at hs
  go_enter Tryz.func62, Tryz.ntmps62
  go_wp2_with fail
  go_loopw [3, 8] (fun nv i wr => ∃ (k : Nat) (n : Int), k ≤ s.size ∧ i = .int .i64 k ∧ nv = .int .i64 n ∧ Hid (n = runK (s.data.toList.take k)) ∧ Hid ((s.data.toList.take k).all isDig = true) ∧ wr = w) (fun _ i _ => s.size - (intOf i).toNat)
  case atStart => exact ⟨0, 0, Nat.zero_le _, rfl, rfl, rfl, rfl, rfl⟩
  case round =>
    obtain ⟨k, n, hk, rfl, rfl, HN, HD, rfl⟩ := hrel
    have hnb := runK_in _ HD.out
    rw [← HN.out] at hnb
    obtain ⟨hn0, hn1⟩ := hnb
    by_cases hlt : k < s.size
    · have hki : (k : Int) < (s.size : Int) := by omega
      have hk0 : (0 : Int) ≤ (k : Int) := by omega
      have htk : s.data.toList.take (k + 1) = s.data.toList.take k ++ [s[k]] := take_snoc s k hlt
      have hcl := s[k].toNat_lt
      obtain ⟨c, hc⟩ : ∃ c, s[k] = c := ⟨_, rfl⟩
      have hget : ∀ h, s[k]'h = c := fun _ => hc
      by_cases hdg : isDig c = true
      · have hd := (dig_iff c).1 hdg
        have HT : Hid (runK (s.data.toList.take (k + 1)) = stepK n c ∧ (s.data.toList.take (k + 1)).all isDig = true) := by
          rw [htk, hc, runK_snoc, ← HN.out]
          exact ⟨rfl, by rw [List.all_append, HD.out, List.all_cons, hdg]; rfl⟩
        have h1 : (48 : Int) ≤ (c.toNat : Int) := by omega
        have h2 : (c.toNat : Int) ≤ 57 := by omega
        clear htk hdg hd
        rw [hc] at hcl
        go_wp2_with fail
        go_roundw
        case rel => exact ⟨k + 1, _, by omega, by go_num, rfl, by rw [HT.out.1]; rfl, HT.out.2, trivial⟩
        case measure => simp [intOf]; omega
      · have hno : isDig c = false := by simpa using hdg
        have HNK : Hid (numK s.data.toList = 0) := by
          refine numK_no _ ?_
          rw [List.all_eq_false]
          refine ⟨c, ?_, hdg⟩
          rw [← hc]
          exact List.getElem_mem (l := s.data.toList) (by rw [size_list]; exact hlt)
        have hout : (c.toNat : Int) < 48 ∨ (¬ (c.toNat : Int) < 48 ∧ (57 : Int) < (c.toNat : Int)) := by
          have h := mt (dig_iff c).2 hdg
          omega
        clear htk hdg hno
        rw [hc] at hcl
        rcases hout with h1 | ⟨h1, h2⟩
        · go_wp2_with fail
          go_ret
          exact ⟨by rw [HNK.out]; rfl, rfl⟩
        · go_wp2_with fail
          go_ret
          exact ⟨by rw [HNK.out]; rfl, rfl⟩
    · have HK : Hid (numK s.data.toList = n) := by
        have h1 := HN.out
        have h2 := HD.out
        rw [List.take_of_length_le (by rw [size_list]; omega)] at h1 h2
        show _ = _
        rw [numK_yes _ h2, h1]
      go_wp2_with fail
      go_ret
      exact ⟨by rw [HK.out]; try rfl, rfl⟩
set_option maxHeartbeats 1000000 in
set_option maxRecDepth 100000 in
theorem ksec_at (v : Value) (s : ByteArray) (ts : List (List UInt8 × Bool × List UInt8)) (n : Int) (b : Bool) (h : secK ts s.data.toList = (n, b)) (w : World) (hf : Dl w v ts) (hm : MostD maxLen ts) :
    Calls Tryz.prog 35 #[v, .string s] w fun e w' => e = .returned (.tuple #[.int .i64 n, .bool b]) ∧ Below w.heap.size w w' := by
  have HF : Hid (Dl w v ts) := hf
  have HR : Hid (secK ts s.data.toList = (n, b)) := h
  have HM : Hid (MostD maxLen ts) := hm
  obtain ⟨ad, cap, hv, hnc, hcm, hcx⟩ := id hf
  subst hv
  unfold maxLen at hcm
  clear hf h hm hcx
  go_enter Tryz.func35, Tryz.ntmps35
  go_wp2_with fail
  refine (kfind_at _ s ts _ HF.out).mono ?_
  rintro e w2 ⟨⟨rfl, hno⟩ | ⟨k, hk, rfl, h1, h2⟩, hb2⟩
  · have hz := HR.out
    rw [secK_no _ _ hno] at hz
    obtain ⟨rfl, rfl⟩ := Prod.mk.inj hz
    clear hno hz
    go_wp2_with fail
    go_ret2
    exact ⟨rfl, hb2⟩
  · have hz := HR.out
    rw [secK_at _ _ k hk h1 h2] at hz
    obtain ⟨hz1, rfl⟩ := Prod.mk.inj hz
    obtain ⟨ad', cap', hv', _, _, hc'⟩ := HF.out
    simp only [Value.slice.injEq] at hv'
    obtain ⟨rfl, _, rfl⟩ := hv'
    obtain ⟨g, off, rfl, hgs, hce⟩ := hc' (by omega)
    obtain ⟨_, _, c3⟩ := hce k hk
    obtain ⟨a, ha⟩ : ∃ a : ByteArray, a = ⟨(ts[k]).2.2.toArray⟩ := ⟨_, rfl⟩
    have HA : Hid (numK a.data.toList = n) := by show _ = _; rw [← hz1, ha]
    have has : a.size ≤ maxLen := by rw [← size_list, ha]; exact (HM.out _ (List.getElem_mem hk)).2
    rw [← ha] at c3
    have d3 : w2.cell? ⟨g, off + k * 3 + 2, none⟩ = some (.string a) := (hb2.cell (p := ⟨g, off + k * 3 + 2, none⟩) hgs).trans c3
    have hgr : g < w2.heap.size := Nat.lt_of_lt_of_le hgs hb2.size
    have hk0 : (0 : Int) ≤ (k : Int) := by omega
    have hki : (k : Int) < (ts.length : Int) := by omega
    have HAS : Hid (a.size ≤ maxLen) := has
    clear hz hz1 hc' hce c3 ha h1 h2 has
    go_wp2_with fail
    refine (knum_at a _ HAS.out).mono ?_
    rintro e w3 ⟨rfl, rfl⟩
    rw [HA.out]
    go_wp2_with fail
    go_ret2
    exact ⟨rfl, hb2⟩
end Go.Proofs.YtigbjhkkbgdkcacGreatDoor

/-
  What near, seconds, directives, lastsUntold, made, ageOnTheWay and untilExpires of package fresh say, of lists of fields that hold at most 2^22 letters and values.
-/
namespace Go.Proofs.YtigbjhkkbgdkcacGreatDoor
open Go.RowKit

theorem wide_fr (ls : List Fld) (h : bulkF ls ≤ 4194304) : Wide ls := by
  refine ⟨fun x hx => ?_, ?_⟩
  · have := bulk_most ls x hx; omega
  · have := bulk_len ls; omega
theorem fctl_most (ls : List Fld) : MostD maxLen (ctl ls) := fun x hx => by
  have := ctQ_mem _ x hx
  unfold maxLen; omega
theorem fdOf_in (D : DFn) (hD : DOk D) (ls : List Fld) (s : List UInt8) : 0 ≤ (D (gv ls s)).1 ∧ (D (gv ls s)).1 ≤ 253402300799 := by
  rcases hD (gv ls s) with ⟨_, h⟩ | ⟨_, h, _⟩
  · exact ⟨h.1, h.2.1⟩
  · rw [h]; omega
theorem fmade_in (D : DFn) (hD : DOk D) (ls : List Fld) (came : Int) : 0 ≤ madeP D ls came ∧ madeP D ls came ≤ 253402300799 := by
  have h1 := fdOf_in D hD ls nDate
  unfold madeP dOf
  split
  · exact h1
  · unfold spn lastT; omega
/-- A field that isn't there tells no date. -/
theorem dof_plain (D : DFn) (hD : DOk D) (ls : List Fld) (s : List UInt8) : dOf D ls s = ((D (gv ls s)).1, (D (gv ls s)).2 == 0) := by
  unfold dOf
  cases h : vals ls s with
  | nil =>
    have : gv ls s = [] := by unfold gv; rw [h]; rfl
    rw [this, hD.nil]; rfl
  | cons a l => simp
theorem dl_one (w : World) (a : ByteArray) (b : Bool) (c : ByteArray) (t : TypeId) : Dl (w.alloc (.cells #[.string a, .bool b, .string c] t)) (.slice (some ⟨w.heap.size, 0, none⟩) 1 1) [(a.data.toList, b, c.data.toList)] := by
  refine ⟨_, 1, rfl, Nat.le_refl _, by unfold maxLen; omega, fun _ => ⟨w.heap.size, 0, rfl, by simp, fun k hk => ?_⟩⟩
  have hk0 : k = 0 := by simpa using hk
  subst hk0
  refine ⟨?_, ?_, ?_⟩ <;> simp
set_option maxRecDepth 100000 in
theorem fnear_any (n : Int) (w : World) : Calls Tryz.prog 43 #[.int .i64 n] w fun e w' => e = .returned (.int .i64 (spn n lastT)) ∧ w' = w := by
  have HR : Hid (min (max n 0) 253402300799 = spn n lastT) := by show _ = _; unfold spn lastT; omega
  go_enter Tryz.func43, Tryz.ntmps43
  go_wp2_with fail
  go_ret
  exact ⟨ret_int HR.out, rfl⟩
set_option maxRecDepth 100000 in
theorem fsecs_any (n : Int) (w : World) : Calls Tryz.prog 39 #[.int .i64 n] w fun e w' => e = .returned (.int .i64 (spn n top31)) ∧ w' = w := by
  have HR : Hid (min (max n 0) 2147483648 = spn n top31) := by show _ = _; unfold spn top31; omega
  go_enter Tryz.func39, Tryz.ntmps39
  go_wp2_with fail
  go_ret
  exact ⟨ret_int HR.out, rfl⟩
set_option maxHeartbeats 1000000 in
set_option maxRecDepth 100000 in
theorem flast_any (code : Int) (w : World) : Calls Tryz.prog 38 #[.int .i64 code] w fun e w' => e = .returned (.bool (storedP code)) ∧ w' = w := by
  by_cases h : code = 200 ∨ code = 203 ∨ code = 204 ∨ code = 300 ∨ code = 301 ∨ code = 308 ∨ code = 404 ∨ code = 405 ∨ code = 410 ∨ code = 414 ∨ code = 501
  · rcases h with rfl | rfl | rfl | rfl | rfl | rfl | rfl | rfl | rfl | rfl | rfl
    all_goals
      go_enter Tryz.func38, Tryz.ntmps38
      go_wp2_with fail
      go_ret
      exact ⟨rfl, rfl⟩
  · have HR : Hid (false = storedP code) := by
      show _ = _
      symm
      unfold storedP
      rw [Bool.eq_false_iff]
      intro hc
      apply h
      simpa using hc
    simp only [not_or] at h
    obtain ⟨h0, h1, h2, h3, h4, h5, h6, h7, h8, h9, h10⟩ := h
    go_enter Tryz.func38, Tryz.ntmps38
    go_wp2_with fail
    go_ret
    exact ⟨ret_bool HR.out, rfl⟩
set_option maxRecDepth 100000 in
theorem fdirs_at (v : Value) (ls : List Fld) (w : World) (hf : Fl w v ls) (hbk : bulkF ls ≤ 4194304) :
    Calls Tryz.prog 17 #[v] w fun e w' => ∃ v', e = .returned v' ∧ w'.ownsRow w.heap.size 63 3 v' (ctl ls).length (drs (ctl ls)) ∧ Below w.heap.size w w' := by
  have HF : Hid (Fl w v ls) := hf
  have HW : Hid (Wide ls) := wide_fr ls (by omega)
  obtain ⟨x, hx⟩ : ∃ x : ByteArray, x.data.toList = jn (vals ls (⟨#[67, 97, 99, 104, 101, 45, 67, 111, 110, 116, 114, 111, 108]⟩ : ByteArray).data.toList) := ⟨⟨(jn (vals ls nCC)).toArray⟩, rfl⟩
  have HX : Hid (x.data.toList = jn (vals ls (⟨#[67, 97, 99, 104, 101, 45, 67, 111, 110, 116, 114, 111, 108]⟩ : ByteArray).data.toList)) := hx
  have hxs : x.size ≤ 140737488355328 := by
    have h := jn_bulk ls (⟨#[67, 97, 99, 104, 101, 45, 67, 111, 110, 116, 114, 111, 108]⟩ : ByteArray).data.toList
    rw [← hx, size_list] at h
    omega
  have HC : Hid ((ctQ x.data.toList).1 = ctl ls) := by show _ = _; rw [hx]; rfl
  obtain ⟨ad, cap, hv, hnc, hcm, hcx⟩ := id hf
  subst hv
  unfold maxLen at hcm
  clear hcx hx hf hbk
  go_enter Tryz.func17, Tryz.ntmps17
  go_wp2_with fail
  refine (get_at _ ls _ x _ HX.out rfl _ HF.out HW.out (by decide) hxs).mono ?_
  rintro e w1 ⟨rfl, hb1⟩
  have HB1 : Hid (Below w.heap.size w w1) := hb1
  clear hb1
  go_wp2_with fail
  refine (kparse_any x _).mono ?_
  rintro e w2 ⟨v', rfl, hown, hb2⟩
  rw [HC.out] at hown
  have HO : Hid (w2.ownsRow w.heap.size 63 3 v' (ctl ls).length (drs (ctl ls))) := own_le hown HB1.out.size
  have HB2 : Hid (Below w.heap.size w w2) := HB1.out.trans (hb2.mono HB1.out.size)
  obtain ⟨ad2, cap2, hv2, hcm2, hnc2, _⟩ := own_form2 hown
  subst hv2
  clear hown hb2
  go_wp2_with fail
  go_ret
  exact ⟨_, rfl, HO.out, HB2.out⟩
set_option maxHeartbeats 1000000 in
set_option maxRecDepth 100000 in
theorem fway_at (v : Value) (ls : List Fld) (w : World) (hf : Fl w v ls) (hbk : bulkF ls ≤ 4194304) :
    Calls Tryz.prog 44 #[v] w fun e w' => e = .returned (.int .i64 (numK (gv ls nAge))) ∧ Below w.heap.size w w' := by
  have HF : Hid (Fl w v ls) := hf
  have HW : Hid (Wide ls) := wide_fr ls (by omega)
  obtain ⟨x, hx⟩ : ∃ x : ByteArray, x.data.toList = jn (vals ls (⟨#[65, 103, 101]⟩ : ByteArray).data.toList) := ⟨⟨(jn (vals ls nAge)).toArray⟩, rfl⟩
  have HX : Hid (x.data.toList = jn (vals ls (⟨#[65, 103, 101]⟩ : ByteArray).data.toList)) := hx
  have hxs : x.size ≤ 140737488355328 := by
    have h := jn_bulk ls (⟨#[65, 103, 101]⟩ : ByteArray).data.toList
    rw [← hx, size_list] at h
    omega
  have HXM : Hid (x.size ≤ 4194304) := by
    have h := jn_bulk ls (⟨#[65, 103, 101]⟩ : ByteArray).data.toList
    rw [← hx, size_list] at h
    show _ ≤ _
    omega
  have HR : Hid (secK [((⟨#[97, 103, 101]⟩ : ByteArray).data.toList, true, x.data.toList)] (⟨#[97, 103, 101]⟩ : ByteArray).data.toList = (numK (gv ls nAge), true)) := by
    show _ = _
    have h : gv ls nAge = x.data.toList := by rw [hx]; rfl
    rw [h]; rfl
  obtain ⟨ad, cap, hv, hnc, hcm, hcx⟩ := id hf
  subst hv
  unfold maxLen at hcm
  clear hcx hx hf hbk
  go_enter Tryz.func44, Tryz.ntmps44
  go_wp2_with fail
  refine (get_at _ ls _ x _ HX.out rfl _ HF.out HW.out (by decide) hxs).mono ?_
  rintro e w1 ⟨rfl, hb1⟩
  have HB1 : Hid (Below w.heap.size w w1) := hb1
  clear hb1
  have HM1 : Hid (MostD maxLen [((⟨#[97, 103, 101]⟩ : ByteArray).data.toList, true, x.data.toList)]) := fun y hy => by
    have hy' : y = ((⟨#[97, 103, 101]⟩ : ByteArray).data.toList, true, x.data.toList) := by simpa using hy
    have := HXM.out
    subst hy'
    refine ⟨by show 3 ≤ maxLen; decide, ?_⟩
    show x.data.toList.length ≤ _
    rw [size_list]; unfold maxLen; omega
  go_wp2_with fail
  refine (ksec_at _ _ [((⟨#[97, 103, 101]⟩ : ByteArray).data.toList, true, x.data.toList)] _ true HR.out _ (dl_one w1 ⟨#[97, 103, 101]⟩ true x _) HM1.out).mono ?_
  rintro e w2 ⟨rfl, hb2⟩
  have HB1a : Hid (Below w.heap.size w (w1.alloc (.cells #[.string ⟨#[97, 103, 101]⟩, .bool true, .string x] 63))) := HB1.out.alloc HB1.out.size _
  have HB2 : Hid (Below w.heap.size w w2) := HB1a.out.trans (hb2.mono HB1a.out.size)
  clear hb2
  go_wp2_with fail
  go_ret
  exact ⟨rfl, HB2.out⟩
set_option maxHeartbeats 1000000 in
set_option maxRecDepth 100000 in
theorem fmade_at (D : DFn) (hD : DOk D) (v0 v1 v2 v3 v4 v5 v7 v8 v10 fv : Value) (ls : List Fld) (came : Int) (w : World) (hf : Fl w fv ls) (hbk : bulkF ls ≤ 4194304) (hT : DTabs w) :
    Calls Tryz.prog 40 #[.agg #[v0, v1, v2, v3, v4, v5, fv, v7, v8, .int .i64 came, v10]] w fun e w' => e = .returned (.int .i64 (madeP D ls came)) ∧ Below w.heap.size w w' := by
  have hb0 : Below w.heap.size w (w.alloc (.cells #[v0, v1, v2, v3, v4, v5, fv, v7, v8, .int .i64 came, v10] 28)) := (Below.refl _ w).alloc (Nat.le_refl _) _
  have HB0 : Hid (Below w.heap.size w (w.alloc (.cells #[v0, v1, v2, v3, v4, v5, fv, v7, v8, .int .i64 came, v10] 28))) := hb0
  have HT0 : Hid (DTabs (w.alloc (.cells #[v0, v1, v2, v3, v4, v5, fv, v7, v8, .int .i64 came, v10] 28))) := hT.below hb0
  have HF0 : Hid (Fl (w.alloc (.cells #[v0, v1, v2, v3, v4, v5, fv, v7, v8, .int .i64 came, v10] 28)) fv ls) := hf.below hb0
  have HW : Hid (Wide ls) := wide_fr ls (by omega)
  have HJ : Hid ((jn (vals ls (⟨#[68, 97, 116, 101]⟩ : ByteArray).data.toList)).length ≤ 140737488355328) := by
    have := jn_bulk ls (⟨#[68, 97, 116, 101]⟩ : ByteArray).data.toList
    show _ ≤ _
    omega
  have HP : Hid (PR (jn (vals ls (⟨#[68, 97, 116, 101]⟩ : ByteArray).data.toList)) (D (gv ls nDate)).1 (D (gv ls nDate)).2) := hD (gv ls nDate)
  obtain ⟨n, c, hd⟩ : ∃ n c, D (gv ls nDate) = (n, c) := ⟨_, _, rfl⟩
  obtain ⟨b, hb⟩ : ∃ b, (c == 0) = b := ⟨_, rfl⟩
  have HB : Hid ((c == 0) = b) := hb
  have HMD : Hid (madeP D ls came = if b = true then n else spn came lastT) := by
    show _ = _
    unfold madeP
    rw [dof_plain D hD, hd, hb]
  rw [hd] at HP
  obtain ⟨ad, cap, hv, hnc, hcm, hcx⟩ := id hf
  subst hv
  unfold maxLen at hcm
  clear hcx hf hbk hb0 hT hb hd
  cases b
  · go_enter Tryz.func40, Tryz.ntmps40
    go_wp2_with fail
    refine (dof_at _ ls _ n c HP.out _ HF0.out HW.out (by decide) HJ.out HT0.out).mono ?_
    rintro e w1 ⟨rfl, hb1⟩
    rw [HB.out]
    obtain ⟨c0, c1, c2, c3, c4, c5, c6, c7, c8, c9, c10⟩ := eleven hb1
    have HB1 : Hid (Below w.heap.size w w1) := HB0.out.trans (hb1.mono HB0.out.size)
    clear hb1
    go_wp2_with fail
    refine (fnear_any came _).mono ?_
    rintro e w2 ⟨rfl, rfl⟩
    go_wp2_with fail
    go_ret
    exact ⟨by rw [HMD.out]; rfl, HB1.out⟩
  · go_enter Tryz.func40, Tryz.ntmps40
    go_wp2_with fail
    refine (dof_at _ ls _ n c HP.out _ HF0.out HW.out (by decide) HJ.out HT0.out).mono ?_
    rintro e w1 ⟨rfl, hb1⟩
    rw [HB.out]
    have HB1 : Hid (Below w.heap.size w w1) := HB0.out.trans (hb1.mono HB0.out.size)
    clear hb1
    go_wp2_with fail
    go_ret
    exact ⟨by rw [HMD.out]; rfl, HB1.out⟩
set_option maxHeartbeats 1000000 in
set_option maxRecDepth 100000 in
theorem funtil_at (D : DFn) (hD : DOk D) (v0 v1 v2 v3 v4 v5 v7 v8 v10 fv : Value) (ls : List Fld) (came : Int) (w : World) (hf : Fl w fv ls) (hbk : bulkF ls ≤ 4194304) (hT : DTabs w) :
    Calls Tryz.prog 36 #[.agg #[v0, v1, v2, v3, v4, v5, fv, v7, v8, .int .i64 came, v10]] w fun e w' => e = .returned (.int .i64 (if (dOf D ls nExp).2 = true then spn ((dOf D ls nExp).1 - madeP D ls came) top31 else 0)) ∧ Below w.heap.size w w' := by
  have hb0 : Below w.heap.size w (w.alloc (.cells #[v0, v1, v2, v3, v4, v5, fv, v7, v8, .int .i64 came, v10] 28)) := (Below.refl _ w).alloc (Nat.le_refl _) _
  have HB0 : Hid (Below w.heap.size w (w.alloc (.cells #[v0, v1, v2, v3, v4, v5, fv, v7, v8, .int .i64 came, v10] 28))) := hb0
  have HT0 : Hid (DTabs (w.alloc (.cells #[v0, v1, v2, v3, v4, v5, fv, v7, v8, .int .i64 came, v10] 28))) := hT.below hb0
  have HF0 : Hid (Fl (w.alloc (.cells #[v0, v1, v2, v3, v4, v5, fv, v7, v8, .int .i64 came, v10] 28)) fv ls) := hf.below hb0
  have HW : Hid (Wide ls) := wide_fr ls (by omega)
  have HBK : Hid (bulkF ls ≤ 4194304) := hbk
  have HJ : Hid ((jn (vals ls (⟨#[69, 120, 112, 105, 114, 101, 115]⟩ : ByteArray).data.toList)).length ≤ 140737488355328) := by
    have := jn_bulk ls (⟨#[69, 120, 112, 105, 114, 101, 115]⟩ : ByteArray).data.toList
    show _ ≤ _
    omega
  have HP : Hid (PR (jn (vals ls (⟨#[69, 120, 112, 105, 114, 101, 115]⟩ : ByteArray).data.toList)) (D (gv ls nExp)).1 (D (gv ls nExp)).2) := hD (gv ls nExp)
  have hni := fdOf_in D hD ls nExp
  have hmi := fmade_in D hD ls came
  have hdp := dof_plain D hD ls nExp
  obtain ⟨n, c, hd⟩ : ∃ n c, D (gv ls nExp) = (n, c) := ⟨_, _, rfl⟩
  obtain ⟨md, hmd⟩ : ∃ md, madeP D ls came = md := ⟨_, rfl⟩
  obtain ⟨b, hb⟩ : ∃ b, (c == 0) = b := ⟨_, rfl⟩
  have HB : Hid ((c == 0) = b) := hb
  rw [hd, hb] at hdp
  rw [hd] at HP hni
  rw [hmd] at hmi
  have HMD : Hid (∀ W : World, Fl W fv ls → DTabs W → Calls Tryz.prog 40 #[.agg #[v0, v1, v2, v3, v4, v5, fv, v7, v8, .int .i64 came, v10]] W fun e w' => e = .returned (.int .i64 md) ∧ Below W.heap.size W w') := fun W hW hM => by
    rw [← hmd]
    exact fmade_at D hD v0 v1 v2 v3 v4 v5 v7 v8 v10 fv ls came W hW hbk hM
  rw [hdp, hmd]
  obtain ⟨ad, cap, hv, hnc, hcm, hcx⟩ := id hf
  subst hv
  unfold maxLen at hcm
  clear hcx hf hbk hb0 hT hb hd hdp hmd
  go_enter Tryz.func36, Tryz.ntmps36
  go_wp2_with fail
  refine (dof_at _ ls _ n c HP.out _ HF0.out HW.out (by decide) HJ.out HT0.out).mono ?_
  rintro e w1 ⟨rfl, hb1⟩
  rw [HB.out]
  have HF1 : Hid (Fl w1 (.slice ad ls.length cap) ls) := HF0.out.below hb1
  have HT1 : Hid (DTabs w1) := HT0.out.below hb1
  obtain ⟨c0, c1, c2, c3, c4, c5, c6, c7, c8, c9, c10⟩ := eleven hb1
  have HB1 : Hid (Below w.heap.size w w1) := HB0.out.trans (hb1.mono HB0.out.size)
  clear hb1
  cases b
  · go_wp2_with fail
    go_ret
    exact ⟨rfl, HB1.out⟩
  · go_wp2_with fail
    refine (HMD.out _ HF1.out HT1.out).mono ?_
    rintro e w2 ⟨rfl, hb2⟩
    have HB2 : Hid (Below w.heap.size w w2) := HB1.out.trans (hb2.mono HB1.out.size)
    clear hb2 c0 c1 c2 c3 c4 c5 c6 c7 c8 c9 c10
    go_wp2_with fail
    refine (fsecs_any (n - md) _).mono ?_
    rintro e w3 ⟨rfl, rfl⟩
    go_wp2_with fail
    go_ret
    exact ⟨rfl, HB2.out⟩
end Go.Proofs.YtigbjhkkbgdkcacGreatDoor
