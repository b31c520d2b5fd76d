/-
  New blocks lie above all that was there; no program is named here.
-/
import Derived.Test.YtigbjhkkbgdkcacGreatDoorMb
import Derived.Handy
import Derived.Test.YtigbjhkkbgdkcacGreatDoorShelf
import Derived.Test.YtigbjhkkbgdkcacGreatDoorRows
import Derived.Deep.RegionHeld3
import Derived.Lib.LaidTab
import Derived.Lib.LaidU8
import Derived.MakeChecks
import Derived.Shelf.Strings.Builder1
import Derived.Shelf.Strings.BuilderK
import Derived.Deep.QuietTactic
import Derived.BigQuiet
namespace Go.Proofs.YtigbjhkkbgdkcacGreatDoor
open Go.RowKit

theorem below_alloc (w : World) (o : Obj) : Below w.heap.size w (w.alloc o) := (Below.refl _ w).alloc (Nat.le_refl _) o
theorem below_alloc2 (w : World) (o o' : Obj) : Below w.heap.size w ((w.alloc o).alloc o') := (below_alloc w o).alloc (by simp) o'
theorem below_new {w w1 : World} {o : Obj} (h : Below (w.alloc o).heap.size (w.alloc o) w1) : Below w.heap.size w w1 := (below_alloc w o).trans (h.mono (by simp))
theorem below_new2 {w w1 : World} {o o' : Obj} (h : Below ((w.alloc o).alloc o').heap.size ((w.alloc o).alloc o') w1) : Below w.heap.size w w1 := (below_alloc2 w o o').trans (h.mono (by simp; omega))
theorem new_cell {w w1 : World} {cs : Array Value} {t : TypeId} (h : Below (w.alloc (.cells cs t)).heap.size (w.alloc (.cells cs t)) w1) (j : Nat) : w1.cell? ⟨w.heap.size, j, none⟩ = cs[j]? :=
  (h.cell (p := ⟨w.heap.size, j, none⟩) (by simp)).trans (by simp)
theorem new_cell2 {w w1 : World} {cs ds : Array Value} {t u : TypeId} (h : Below ((w.alloc (.cells cs t)).alloc (.cells ds u)).heap.size ((w.alloc (.cells cs t)).alloc (.cells ds u)) w1) (j : Nat) : w1.cell? ⟨w.heap.size, j, none⟩ = cs[j]? ∧ w1.cell? ⟨w.heap.size + 1, j, none⟩ = ds[j]? :=
  ⟨(h.cell (p := ⟨w.heap.size, j, none⟩) (by simp; omega)).trans (by simp), (h.cell (p := ⟨w.heap.size + 1, j, none⟩) (by simp)).trans (by simp)⟩
theorem two_cells {w W : World} {t : TypeId} {a b : Value} (h : Below (w.alloc (.cells #[a, b] t)).heap.size (w.alloc (.cells #[a, b] t)) W) :
    W.cell? ⟨w.heap.size, 0, none⟩ = some a ∧ W.cell? ⟨w.heap.size, 1, none⟩ = some b ∧ (∀ o, W.frozen? ⟨w.heap.size, o, none⟩ = false) ∧ w.heap.size < W.heap.size ∧ Below w.heap.size w W := by
  refine ⟨new_cell h 0, new_cell h 1, fun o => ?_, ?_, below_new h⟩
  · exact (h.frozen (p := ⟨w.heap.size, o, none⟩) (by simp)).trans (new_free _ _ _ _)
  · have := h.size; simp at this; omega
/-- A block of four cells, all of them written anew. -/
def set4 (w : World) (g : Nat) (a b c d : Value) : World := (((w.setCell ⟨g, 0, none⟩ a).setCell ⟨g, 1, none⟩ b).setCell ⟨g, 2, none⟩ c).setCell ⟨g, 3, none⟩ d
theorem set4_own {w : World} {g : Nat} {t : TypeId} {p q r s a b c d : Value} (h : w.heap[g]? = some (.cells #[p, q, r, s] t (0, 0))) : (set4 w g a b c d).heap[g]? = some (.cells #[a, b, c, d] t (0, 0)) := by
  unfold set4
  have h1 := heap_setCell_same w g 0 _ t a h
  have h2 := heap_setCell_same _ g 1 _ t b h1
  have h3 := heap_setCell_same _ g 2 _ t c h2
  exact heap_setCell_same _ g 3 _ t d h3
theorem set4_other {w : World} {g k : Nat} {a b c d : Value} (h : k ≠ g) : (set4 w g a b c d).heap[k]? = w.heap[k]? := by
  unfold set4
  rw [heap_setCell_other _ _ _ _ h, heap_setCell_other _ _ _ _ h, heap_setCell_other _ _ _ _ h, heap_setCell_other _ _ _ _ h]
theorem set4_below {B : Nat} {w0 w : World} {g : Nat} (a b c d : Value) (hb : Below B w0 w) (hg : B ≤ g) : Below B w0 (set4 w g a b c d) := (((hb.setCell hg a).setCell hg b).setCell hg c).setCell hg d
theorem set4_cell {w : World} {g : Nat} {t : TypeId} {p q r s a b c d : Value} (h : w.heap[g]? = some (.cells #[p, q, r, s] t (0, 0))) (j : Nat) : (set4 w g a b c d).cell? ⟨g, j, none⟩ = #[a, b, c, d][j]? := by
  simp [World.cell?, set4_own h]
end Go.Proofs.YtigbjhkkbgdkcacGreatDoor

/-
  A slice of texts that can be read, as a plain list; no program is named here.
-/
namespace Go.Proofs.YtigbjhkkbgdkcacGreatDoor
open Go.RowKit

def strsV (ss : List (List UInt8)) : List Value := ss.map fun s => .string ⟨s.toArray⟩
def Sl (w : World) (v : Value) (ss : List (List UInt8)) : Prop :=
  ∃ g off cap, v = .slice (some ⟨g, off, none⟩) ss.length cap ∧ ss.length ≤ cap ∧ cap ≤ maxLen ∧ g < w.heap.size ∧ ∀ (k : Nat) (h : k < ss.length), w.cell? ⟨g, off + k, none⟩ = some (.string ⟨ss[k].toArray⟩)
theorem Sl.below {w w' : World} {v : Value} {ss : List (List UInt8)} (h : Sl w v ss) (hb : Below w.heap.size w w') : Sl w' v ss := by
  obtain ⟨g, off, cap, hv, h1, h2, hg, hc⟩ := h
  exact ⟨g, off, cap, hv, h1, h2, Nat.lt_of_lt_of_le hg hb.size, fun k hk => (hb.cell (p := ⟨g, off + k, none⟩) hg).trans (hc k hk)⟩
theorem strsV_get (ss : List (List UInt8)) (k : Nat) (h : k < ss.length) : (strsV ss)[k]? = some (.string ⟨ss[k].toArray⟩) := by
  unfold strsV; rw [List.getElem?_map, List.getElem?_eq_getElem h]; rfl
theorem strsV_one (ss : List (List UInt8)) : ∀ u ∈ strsV ss, u.oneCell' = true := by
  intro u hu
  obtain ⟨x, _, rfl⟩ := List.mem_map.1 hu
  rfl
theorem strsV_len (ss : List (List UInt8)) : (strsV ss).length = ss.length * 1 := by simp [strsV]
theorem Sl.own {w : World} {B : Nat} {e : TypeId} {v : Value} {ss : List (List UInt8)} (h : w.ownsRow B e 1 v ss.length (strsV ss)) (h0 : 0 < ss.length) : Sl w v ss := by
  obtain ⟨ad, cap, hv, h2, h1, h3⟩ := own_form2 h
  obtain ⟨g, ha, _, hg, hc⟩ := h3 h0
  subst ha
  refine ⟨g, 0, cap, hv, h1, h2, hg, fun k hk => ?_⟩
  rw [Nat.zero_add, hc k (by omega), strsV_get ss k hk]
theorem Sl.cells {w : World} {a : Addr} {n c : Nat} {ss : List (List UInt8)} (h : Sl w (.slice (some a) n c) ss) : ∀ j u, (strsV ss)[j]? = some u → w.cell? (a.add j) = some u := by
  obtain ⟨g, off, cap, hv, h1, h2, hg, hc⟩ := h
  obtain ⟨ha, _, _⟩ := Value.slice.inj hv
  obtain rfl := Option.some.inj ha
  intro j u hj
  have hjl : j < ss.length := by have := (List.getElem?_eq_some_iff.1 hj).1; simpa [strsV] using this
  rw [strsV_get ss j hjl] at hj
  have hform : (⟨g, off, none⟩ : Addr).add j = ⟨g, off + j, none⟩ := by
    by_cases h0 : j = 0
    · subst h0; simp [Addr.add]
    · simp [Addr.add, h0]
  rw [hform, hc j hjl]; exact hj
end Go.Proofs.YtigbjhkkbgdkcacGreatDoor

/-
  A block of eleven cells, and lists of texts that the call lays itself; no program is named here.
-/
namespace Go.Proofs.YtigbjhkkbgdkcacGreatDoor
open Go.RowKit

/-- A block's eleven cells. -/
def Cells11 (W : World) (B : Nat) (v0 v1 v2 v3 v4 v5 v6 v7 v8 v9 v10 : Value) : Prop :=
  W.cell? ⟨B, 0, none⟩ = some v0 ∧ W.cell? ⟨B, 1, none⟩ = some v1 ∧ W.cell? ⟨B, 2, none⟩ = some v2 ∧ W.cell? ⟨B, 3, none⟩ = some v3 ∧ W.cell? ⟨B, 4, none⟩ = some v4 ∧ W.cell? ⟨B, 5, none⟩ = some v5 ∧
  W.cell? ⟨B, 6, none⟩ = some v6 ∧ W.cell? ⟨B, 7, none⟩ = some v7 ∧ W.cell? ⟨B, 8, none⟩ = some v8 ∧ W.cell? ⟨B, 9, none⟩ = some v9 ∧ W.cell? ⟨B, 10, none⟩ = some v10
theorem eleven {w W : World} {t : TypeId} {v0 v1 v2 v3 v4 v5 v6 v7 v8 v9 v10 : Value} (h : Below (w.alloc (.cells #[v0, v1, v2, v3, v4, v5, v6, v7, v8, v9, v10] t)).heap.size (w.alloc (.cells #[v0, v1, v2, v3, v4, v5, v6, v7, v8, v9, v10] t)) W) :
    Cells11 W w.heap.size v0 v1 v2 v3 v4 v5 v6 v7 v8 v9 v10 :=
  ⟨new_cell h 0, new_cell h 1, new_cell h 2, new_cell h 3, new_cell h 4, new_cell h 5, new_cell h 6, new_cell h 7, new_cell h 8, new_cell h 9, new_cell h 10⟩
theorem sl_one (w : World) (a : ByteArray) (t : TypeId) : Sl (w.alloc (.cells #[.string a] t)) (.slice (some ⟨w.heap.size, 0, none⟩) 1 1) [a.data.toList] := by
  refine ⟨w.heap.size, 0, 1, rfl, Nat.le_refl _, by unfold maxLen; omega, by simp, fun k hk => ?_⟩
  have : k = 0 := by simpa using hk
  subst this
  simp
theorem sl_four (w : World) (a b c d : ByteArray) (t : TypeId) : Sl (w.alloc (.cells #[.string a, .string b, .string c, .string d] t)) (.slice (some ⟨w.heap.size, 0, none⟩) 4 4) [a.data.toList, b.data.toList, c.data.toList, d.data.toList] := by
  refine ⟨w.heap.size, 0, 4, rfl, Nat.le_refl _, by unfold maxLen; omega, by simp, fun k hk => ?_⟩
  have : k = 0 ∨ k = 1 ∨ k = 2 ∨ k = 3 := by simp at hk; omega
  rcases this with rfl | rfl | rfl | rfl <;> simp
end Go.Proofs.YtigbjhkkbgdkcacGreatDoor

/-
  The letters A to Z as a to z, byte by byte; no program is named here.
-/
namespace Go.Proofs.YtigbjhkkbgdkcacGreatDoor
open Go.RowKit

theorem low_yes (c : UInt8) (h : 65 ≤ (c.toNat : Int)) (h' : (c.toNat : Int) ≤ 90) : ((low c).toNat : Int) = (c.toNat : Int) + 32 := by
  have e : (65 ≤ c && c ≤ 90) = true := by simp [UInt8.le_iff_toNat_le]; omega
  unfold low
  rw [if_pos e, UInt8.toNat_add]
  have : (32 : UInt8).toNat = 32 := rfl
  omega
theorem low_no (c : UInt8) (h : (c.toNat : Int) < 65 ∨ 90 < (c.toNat : Int)) : low c = c := by
  have e : (65 ≤ c && c ≤ 90) = false := by rw [Bool.eq_false_iff]; simp [UInt8.le_iff_toNat_le]; omega
  unfold low
  rw [e]; rfl

theorem lower_snoc (l : List UInt8) (c : UInt8) : lower (l ++ [c]) = lower l ++ [low c] := by simp [lower]
end Go.Proofs.YtigbjhkkbgdkcacGreatDoor

/-
  What Lower of package token computes: the letters A to Z as a to z; the string fits in the memory that Go's limits allow.
-/
namespace Go.Proofs.YtigbjhkkbgdkcacGreatDoor
open Go.RowKit

theorem cells_snoc (l : List UInt8) (c : UInt8) (n : Int) (h : n = ((low c).toNat : Int)) : Lib.byteCells (lower l) ++ [Value.int .u8 n] = Lib.byteCells (lower (l ++ [c])) := by
  rw [lower_snoc, Lib.byteCells_append, h]; rfl

set_option maxHeartbeats 1000000 in
set_option maxRecDepth 100000 in
theorem lower_any (s : ByteArray) (w : World) (hs : s.size ≤ 140737488351232) :
    Calls Tryz.prog 46 #[.string s] w fun e w' => e = .returned (.string ⟨(lower s.data.toList).toArray⟩) ∧ Below w.heap.size w w' := by
  go_enter Tryz.func46, Tryz.ntmps46
  go_wp2_with fail
  refine (Tryz.Builder_Grow_fresh w.heap.size w.heap.size s.size _ (Nat.le_refl _) ?hbk ?hBw (by omega)).mono ?_
  case hbk => exact heap_alloc_new _ _
  case hBw => simp
  rintro e w1 ⟨rfl, hb1, hw1⟩
  have hw1' : Below w.heap.size w w1 := ((Below.refl _ w).alloc (Nat.le_refl _) _).trans hw1
  clear hw1
  go_wp2_with fail
  go_loopw [11] (fun i wr => ∃ k : Nat, k ≤ s.size ∧ i = .int .i64 k ∧ Lib.BuilderAt 74 5 w.heap.size w.heap.size (.pointer (some ⟨w.heap.size, 0, none⟩)) (Lib.byteCells (lower (s.data.toList.take k))) wr ∧ Below w.heap.size w wr) (fun i _ => s.size - (intOf i).toNat)
  case atStart => exact ⟨0, Nat.zero_le _, rfl, hb1, hw1'⟩
  case round =>
    obtain ⟨k, hk, rfl, hb, hw⟩ := hrel
    clear hb1 hw1'
    by_cases hlt : k < s.size
    · have hlen : (Lib.byteCells (lower (s.data.toList.take k))).length + 1 ≤ 140737488355328 := by
        rw [Lib.byteCells_length]; simp [lower]; omega
      have hc1 : (s[k].toNat : Int) < 256 := by have := s[k].toNat_lt; omega
      have hsz := hw.size
      rcases (show (s[k].toNat : Int) < 65 ∨ (65 ≤ (s[k].toNat : Int) ∧ (s[k].toNat : Int) ≤ 90) ∨ 91 ≤ (s[k].toNat : Int) from by omega) with h | ⟨h, h'⟩ | h
      · go_wp2_with fail
        refine (Tryz.Builder_WriteByte w.heap.size w.heap.size _ _ _ (.inr hb) hlen hsz).mono ?_
        rintro e w2 ⟨rfl, hb2, hw2⟩
        go_wp2_with fail
        go_roundw
        case rel => exact ⟨k + 1, by omega, by go_num, by rw [take_snoc s k hlt, ← cells_snoc _ _ _ (by rw [low_no _ (by omega)])]; exact hb2, hw.trans hw2⟩
        case measure => simp [intOf]; omega
      · go_wp2_with fail
        refine (Tryz.Builder_WriteByte w.heap.size w.heap.size _ _ _ (.inr hb) hlen hsz).mono ?_
        rintro e w2 ⟨rfl, hb2, hw2⟩
        go_wp2_with fail
        go_roundw
        case rel => exact ⟨k + 1, by omega, by go_num, by rw [take_snoc s k hlt, ← cells_snoc _ _ _ ((low_yes _ h h').symm)]; exact hb2, hw.trans hw2⟩
        case measure => simp [intOf]; omega
      · go_wp2_with fail
        refine (Tryz.Builder_WriteByte w.heap.size w.heap.size _ _ _ (.inr hb) hlen hsz).mono ?_
        rintro e w2 ⟨rfl, hb2, hw2⟩
        go_wp2_with fail
        go_roundw
        case rel => exact ⟨k + 1, by omega, by go_num, by rw [take_snoc s k hlt, ← cells_snoc _ _ _ (by rw [low_no _ (by omega)])]; exact hb2, hw.trans hw2⟩
        case measure => simp [intOf]; omega
    · obtain rfl : k = s.size := by omega
      have hsz := hw.size
      go_wp2_with fail
      refine (Tryz.Builder_String_any w.heap.size w.heap.size _ _ (.inr hb) hsz).mono ?_
      rintro e w2 ⟨rfl, hw2⟩
      go_wp2_with fail
      go_ret
      exact ⟨by rw [take_all]; rfl, hw.trans hw2⟩
end Go.Proofs.YtigbjhkkbgdkcacGreatDoor

/-
  What named of package field hands back: a function of a field; what it answers in whatever later world. A name is no longer than Go allows.
-/
namespace Go.Proofs.YtigbjhkkbgdkcacGreatDoor
open Go.RowKit

/-- A function value that answers p of each field, in whatever later world, and turns nothing. -/
def Pred (w : World) (f : Value) (p : Fld → Bool) : Prop :=
  ∃ (g : Nat) (lb : Array Value), f = .func (.func g) #[] lb ∧ (∀ args w, (callFunc g args).run Tryz.prog w = .ok (.enter g args) w) ∧
    ∀ (W : World) (n u : ByteArray), Below w.heap.size w W → n.size ≤ 140737488351232 → Calls Tryz.prog g (#[.agg #[.string n, .string u]] ++ lb) W fun e w' => e = .returned (.bool (p (n.data.toList, u.data.toList))) ∧ Below W.heap.size W w'
theorem Pred.later {w w' : World} {f : Value} {p : Fld → Bool} (h : Pred w f p) (hb : Below w.heap.size w w') : Pred w' f p := by
  obtain ⟨g, lb, hf, eg, hc⟩ := h
  exact ⟨g, lb, hf, eg, fun W n u hW hn => hc W n u (hb.trans (hW.mono hb.size)) hn⟩

theorem lower_at (s t : ByteArray) (h : t.data.toList = lower s.data.toList) (w : World) (hs : s.size ≤ 140737488351232) :
    Calls Tryz.prog 46 #[.string s] w fun e w' => e = .returned (.string t) ∧ Below w.heap.size w w' := by
  refine (lower_any s w hs).mono ?_
  rintro e w' ⟨rfl, hb⟩
  refine ⟨ret_str ?_, hb⟩
  apply ByteArray.ext; apply Array.ext'; exact h.symm

set_option maxHeartbeats 1000000 in
set_option maxRecDepth 100000 in
theorem named1_any (n u low : ByteArray) (B : Nat) (w : World) (hc : w.cell? ⟨B, 0, none⟩ = some (.string low)) (hn : n.size ≤ 140737488351232) :
    Calls Tryz.prog 47 #[.agg #[.string n, .string u], .pointer (some ⟨B, 0, none⟩)] w fun e w' => e = .returned (.bool (lower n.data.toList == low.data.toList)) ∧ Below w.heap.size w w' := by
  obtain ⟨t, ht⟩ : ∃ t : ByteArray, t.data.toList = lower n.data.toList := ⟨⟨(lower n.data.toList).toArray⟩, rfl⟩
  have HT : Hid (t.data.toList = lower n.data.toList) := ht
  have HQ : Hid ((lower n.data.toList == low.data.toList) = (t.toList == low.toList)) := by show _ = _; rw [ByteArray.toList_eq, ByteArray.toList_eq, ht]
  have hBs : B < w.heap.size := cell_in hc
  have hcl := hc
  clear ht
  go_enter Tryz.func47, Tryz.ntmps47
  go_wp2_with fail
  go_region_held3 (fun w' => w'.cell? ⟨w.heap.size, 0, none⟩ = some (.string n) ∧ w'.cell? ⟨B, 0, none⟩ = some (.string low)) (go_keep) (first | (go_at_call 46; refine (lower_at n t HT.out _ hn).mono ?_; rintro e w3 ⟨rfl, hb⟩; have hk1 : w3.cell? ⟨w.heap.size, 0, none⟩ = some (.string n) := (hb.cell (p := ⟨w.heap.size, 0, none⟩) (by simp)).trans (by simp); have hk2 : w3.cell? ⟨B, 0, none⟩ = some (.string low) := (hb.cell (p := ⟨B, 0, none⟩) (by simp; omega)).trans ((World.cell?_alloc_lt _ _ _ hBs).trans hcl)))
  all_goals
    go_wp2_with fail
    go_ret
    exact ⟨ret_bool HQ.out.symm, ((Below.refl _ w).alloc (Nat.le_refl _) _).drew.trans (hb.mono (by simp))⟩

set_option maxHeartbeats 1000000 in
set_option maxRecDepth 100000 in
theorem named_any (s : ByteArray) (w : World) (hs : s.size ≤ 140737488351232) :
    Calls Tryz.prog 23 #[.string s] w fun e w' => ∃ f, e = .returned f ∧ Pred w' f (fun x => lower x.1 == lower s.data.toList) ∧ Below w.heap.size w w' := by
  have hmf : ∀ (fn : Fn) (first cap : Array Value) (w : World), (Instr.makeFunc fn first cap).run Tryz.prog w = .ok (.func fn first cap) w := fun _ _ _ _ => rfl
  obtain ⟨t, ht⟩ : ∃ t : ByteArray, t.data.toList = lower s.data.toList := ⟨⟨(lower s.data.toList).toArray⟩, rfl⟩
  have HT : Hid (t.data.toList = lower s.data.toList) := ht
  clear ht
  go_enter Tryz.func23, Tryz.ntmps23
  go_wp2_with fail
  refine (lower_at s t HT.out _ hs).mono ?_
  rintro e w1 ⟨rfl, hb⟩
  have hsz := hb.size
  go_wp2_with fail
  go_ret
  refine ⟨_, rfl, ⟨47, _, rfl, enters_of Tryz.func47 (by kernel_rfl) rfl, fun W n u hW hn => ?_⟩, hb.alloc hsz _⟩
  rw [← HT.out]
  refine named1_any n u t w1.heap.size W ?_ hn
  exact (hW.cell (p := ⟨w1.heap.size, 0, none⟩) (by simp)).trans (by simp)
end Go.Proofs.YtigbjhkkbgdkcacGreatDoor

/-
  What strings.Clone computes; a string is no longer than Go allows.
-/
namespace Go.Proofs.YtigbjhkkbgdkcacGreatDoor
open Go.RowKit

set_option maxRecDepth 100000 in
theorem clone_big (s : ByteArray) (w : World) (hs : s.size ≤ 281474976710656) :
    Calls Tryz.prog 51 #[.string s] w fun e w' => e = .returned (.string s) ∧ Below w.heap.size w w' := by
  go_enter Tryz.func51, Tryz.ntmps51
  go_wp2_with fail
  refine (Tryz.stringslite_Clone s _ (by omega)).mono ?_
  rintro e w1 ⟨rfl, hb⟩
  go_wp2_with fail
  go_ret
  exact ⟨rfl, hb⟩
end Go.Proofs.YtigbjhkkbgdkcacGreatDoor

/-
  What clone of package field computes; a string is no longer than Go allows.
-/
namespace Go.Proofs.YtigbjhkkbgdkcacGreatDoor
open Go.RowKit

theorem pair_all {w : World} {g : Nat} {t : TypeId} {n u : Value} (h : w.heap[g]? = some (.cells #[n, u] t (0, 0))) :
    w.cell? ⟨g, 0, none⟩ = some n ∧ w.cell? ⟨g, 1, none⟩ = some u ∧ w.frozen? ⟨g, 0, none⟩ = false ∧ w.frozen? ⟨g, 1, none⟩ = false ∧ g < w.heap.size := by
  refine ⟨?_, ?_, Lib.frozen_of_heap h 0, Lib.frozen_of_heap h 1, (Array.getElem?_eq_some_iff.1 h).1⟩ <;> rw [Lib.cell_of_heap h] <;> rfl

theorem sc_keep {w W w3 : World} {n u : ByteArray} (h : W.cell? ⟨w.heap.size, 0, none⟩ = some (.string n) ∧ W.cell? ⟨w.heap.size, 1, none⟩ = some (.string u) ∧ W.cell? ⟨w.heap.size + 1, 0, none⟩ = some (.string ⟨#[]⟩) ∧ W.cell? ⟨w.heap.size + 1, 1, none⟩ = some (.string ⟨#[]⟩) ∧ W.frozen? ⟨w.heap.size + 1, 0, none⟩ = false ∧ W.frozen? ⟨w.heap.size + 1, 1, none⟩ = false ∧ w.heap.size + 1 < W.heap.size ∧ Below w.heap.size w W) (hb : Below W.heap.size W w3) :
    w3.cell? ⟨w.heap.size, 0, none⟩ = some (.string n) ∧ w3.cell? ⟨w.heap.size, 1, none⟩ = some (.string u) ∧ w3.cell? ⟨w.heap.size + 1, 0, none⟩ = some (.string ⟨#[]⟩) ∧ w3.cell? ⟨w.heap.size + 1, 1, none⟩ = some (.string ⟨#[]⟩) ∧ w3.frozen? ⟨w.heap.size + 1, 0, none⟩ = false ∧ w3.frozen? ⟨w.heap.size + 1, 1, none⟩ = false ∧ w.heap.size + 1 < w3.heap.size ∧ Below w.heap.size w w3 := by
  obtain ⟨h1, h2, h3, h4, h5, h6, h7, h8⟩ := h
  have hs := hb.size
  exact ⟨(hb.cell (p := ⟨w.heap.size, 0, none⟩) (by show w.heap.size < _; omega)).trans h1, (hb.cell (p := ⟨w.heap.size, 1, none⟩) (by show w.heap.size < _; omega)).trans h2, (hb.cell (p := ⟨w.heap.size + 1, 0, none⟩) h7).trans h3, (hb.cell (p := ⟨w.heap.size + 1, 1, none⟩) h7).trans h4, (hb.frozen (p := ⟨w.heap.size + 1, 0, none⟩) h7).trans h5, (hb.frozen (p := ⟨w.heap.size + 1, 1, none⟩) h7).trans h6, by omega, h8.trans (hb.mono (by omega))⟩
theorem sc_start (w : World) (n u : ByteArray) (t : TypeId) : ((w.alloc (.cells #[.string n, .string u] t)).alloc (.cells #[.string ⟨#[]⟩, .string ⟨#[]⟩] t)).drew.cell? ⟨w.heap.size, 0, none⟩ = some (.string n) ∧ ((w.alloc (.cells #[.string n, .string u] t)).alloc (.cells #[.string ⟨#[]⟩, .string ⟨#[]⟩] t)).drew.cell? ⟨w.heap.size, 1, none⟩ = some (.string u) ∧ ((w.alloc (.cells #[.string n, .string u] t)).alloc (.cells #[.string ⟨#[]⟩, .string ⟨#[]⟩] t)).drew.cell? ⟨w.heap.size + 1, 0, none⟩ = some (.string ⟨#[]⟩) ∧ ((w.alloc (.cells #[.string n, .string u] t)).alloc (.cells #[.string ⟨#[]⟩, .string ⟨#[]⟩] t)).drew.cell? ⟨w.heap.size + 1, 1, none⟩ = some (.string ⟨#[]⟩) ∧ ((w.alloc (.cells #[.string n, .string u] t)).alloc (.cells #[.string ⟨#[]⟩, .string ⟨#[]⟩] t)).drew.frozen? ⟨w.heap.size + 1, 0, none⟩ = false ∧ ((w.alloc (.cells #[.string n, .string u] t)).alloc (.cells #[.string ⟨#[]⟩, .string ⟨#[]⟩] t)).drew.frozen? ⟨w.heap.size + 1, 1, none⟩ = false ∧ w.heap.size + 1 < ((w.alloc (.cells #[.string n, .string u] t)).alloc (.cells #[.string ⟨#[]⟩, .string ⟨#[]⟩] t)).drew.heap.size ∧ Below w.heap.size w ((w.alloc (.cells #[.string n, .string u] t)).alloc (.cells #[.string ⟨#[]⟩, .string ⟨#[]⟩] t)).drew := by
  have e : (w.alloc (.cells #[.string n, .string u] t)).heap.size = w.heap.size + 1 := by simp
  have f0 := new_free (w.alloc (.cells #[.string n, .string u] t)) #[.string ⟨#[]⟩, .string ⟨#[]⟩] t 0
  have f1 := new_free (w.alloc (.cells #[.string n, .string u] t)) #[.string ⟨#[]⟩, .string ⟨#[]⟩] t 1
  rw [e] at f0 f1
  exact ⟨by simp, by simp, by simp, by simp, f0, f1, by simp, (((Below.refl _ w).alloc (Nat.le_refl _) _).alloc (by simp) _).drew⟩

set_option maxHeartbeats 2000000 in
set_option maxRecDepth 100000 in
theorem fclone_any (n u : ByteArray) (w : World) (hn : n.size ≤ 281474976710656) (hu : u.size ≤ 281474976710656) :
    Calls Tryz.prog 29 #[.agg #[.string n, .string u]] w fun e w' => e = .returned (.agg #[.string n, .string u]) ∧ Below w.heap.size w w' := by
  go_enter Tryz.func29, Tryz.ntmps29
  go_wp2_with fail
  go_region_held3 (fun w' => w'.cell? ⟨w.heap.size, 0, none⟩ = some (.string n) ∧ w'.cell? ⟨w.heap.size, 1, none⟩ = some (.string u)) (go_keep) (first | (go_at_call 51; refine (clone_big _ _ (by omega)).mono ?_; rintro e w3 ⟨rfl, hb⟩; first | (have hx := sc_keep (by assumption) hb) | (have hx := sc_keep (sc_start w n u _) hb)))
  all_goals
    obtain ⟨_, _, h1, h2, h3, h4, h5, h6⟩ := hx
    go_wp2_with fail
    refine bodyPost_ret (v := .agg #[.string n, .string u]) (by simp [results, Tryz.results29, go_sem, h1, h2]) rfl ⟨rfl, ?_⟩
    exact (h6.setCell (p := ⟨w.heap.size + 1, 0, none⟩) (by simp) _).setCell (p := ⟨w.heap.size + 1, 1, none⟩) (by simp) _
end Go.Proofs.YtigbjhkkbgdkcacGreatDoor

/-
  The row of the type of fields, and blocks of one field; over the program's table of types.
-/
namespace Go.Proofs.YtigbjhkkbgdkcacGreatDoor
open Go.RowKit

theorem infoF : (Tryz.prog.info? 58).map (fun i => (i.zero, i.size, i.bytes)) = some (some (.agg #[.string ⟨#[]⟩, .string ⟨#[]⟩]), 2, 32) := by kernel_rfl
theorem pair_below {w w' : World} {g : Nat} {t : TypeId} {n u : Value} (h : w.heap[g]? = some (.cells #[n, u] t (0, 0))) (hb : Below w.heap.size w w') : w'.heap[g]? = some (.cells #[n, u] t (0, 0)) :=
  (hb.block g (Array.getElem?_eq_some_iff.1 h).1).trans h
theorem pair_new (w : World) (t : TypeId) (n u : Value) : (w.alloc (.cells #[n, u] t)).heap[w.heap.size]? = some (.cells #[n, u] t (0, 0)) := heap_alloc_new _ _
theorem flds_one (ls : List Fld) : ∀ u ∈ flds ls, u.oneCell' = true := by
  intro u hu
  unfold flds at hu
  obtain ⟨x, _, hx⟩ := List.mem_flatMap.1 hu
  simp at hx
  rcases hx with rfl | rfl <;> rfl
end Go.Proofs.YtigbjhkkbgdkcacGreatDoor

/-
  What pick of package field and slices.IndexFunc compute over a function value that answers p of each field; lists and texts are no longer than Go allows.
-/
namespace Go.Proofs.YtigbjhkkbgdkcacGreatDoor
open Go.RowKit

/-- What fits in the memory that Go's limits allow. -/
def Wide (ls : List Fld) : Prop := (∀ x ∈ ls, x.1.length ≤ 140737488351232 ∧ x.2.length ≤ 140737488351232) ∧ ls.length * 32 ≤ 140737488353000
/-- What a list that came in is at most: some room is left for fields that a law itself adds. -/
def Slim (ls : List Fld) : Prop := (∀ x ∈ ls, x.1.length ≤ 140737488351232 ∧ x.2.length ≤ 140737488351232) ∧ ls.length * 32 ≤ 140737488351232
theorem Slim.wide {ls : List Fld} (h : Slim ls) : Wide ls := ⟨h.1, Nat.le_trans h.2 (by decide)⟩
theorem Slim.filter {ls : List Fld} (h : Slim ls) (p : Fld → Bool) : Slim (ls.filter p) := by
  refine ⟨fun x hx => h.1 x (List.mem_filter.1 hx).1, ?_⟩
  have := List.length_filter_le p ls
  have := h.2
  omega
theorem Wide.filter {ls : List Fld} (h : Wide ls) (p : Fld → Bool) : Wide (ls.filter p) := by
  refine ⟨fun x hx => h.1 x (List.mem_filter.1 hx).1, ?_⟩
  have := List.length_filter_le p ls
  have := h.2
  omega
theorem Wide.take {ls : List Fld} (h : Wide ls) (k : Nat) : Wide (ls.take k) := by
  refine ⟨fun x hx => h.1 x (List.mem_of_mem_take hx), ?_⟩
  have := List.length_take_le' k ls
  have := h.2
  omega
theorem Wide.drop {ls : List Fld} (h : Wide ls) (k : Nat) : Wide (ls.drop k) := by
  refine ⟨fun x hx => h.1 x (List.mem_of_mem_drop hx), ?_⟩
  have := h.2
  rw [List.length_drop]
  omega
theorem filter_take (ls : List Fld) (p : Fld → Bool) (k : Nat) (h : k < ls.length) : (ls.take (k + 1)).filter p = (ls.take k).filter p ++ (if p ls[k] then [ls[k]] else []) := by
  rw [List.take_succ_eq_append_getElem h, List.filter_append]
  congr 1
  rw [List.filter_cons]; rfl

set_option maxHeartbeats 2000000 in
set_option maxRecDepth 100000 in
theorem pick_any (v f : Value) (ls : List Fld) (p : Fld → Bool) (w : World) (hf : Fl w v ls) (hl : Wide ls) (hp : Pred w f p) :
    Calls Tryz.prog 22 #[v, f] w fun e w' => ∃ v', e = .returned v' ∧ w'.ownsRow w.heap.size 58 2 v' (ls.filter p).length (flds (ls.filter p)) ∧ Below w.heap.size w w' := by
  obtain ⟨i0, hi, hz0, hz1, hz2⟩ := info_parts infoF
  obtain ⟨ad, cap, hv, hcap, hcm, hc⟩ := hf
  obtain ⟨g0, lb, hfv, eg, hpc⟩ := hp
  subst hv hfv
  have HC : Hid (0 < ls.length → ∃ g off, ad = some ⟨g, off, none⟩ ∧ g < w.heap.size ∧
    ∀ (k : Nat) (h : k < ls.length), w.cell? ⟨g, off + k * 2, none⟩ = some (.string ⟨(ls[k]).1.toArray⟩) ∧ w.cell? ⟨g, off + k * 2 + 1, none⟩ = some (.string ⟨(ls[k]).2.toArray⟩)) := hc
  have HPC : Hid (∀ (W : World) (n u : ByteArray), Below w.heap.size w W → n.size ≤ 140737488351232 → Calls Tryz.prog g0 (#[.agg #[.string n, .string u]] ++ lb) W fun e w' => e = .returned (.bool (p (n.data.toList, u.data.toList))) ∧ Below W.heap.size W w') := hpc
  have HL : Hid (Wide ls) := hl
  have hll := hl.2
  clear hc hpc hl
  unfold maxLen at hcm
  go_enter Tryz.func22, Tryz.ntmps22
  go_wp2_with fail
  go_loopw [5, 10] (fun o i wr => ∃ k : Nat, k ≤ ls.length ∧ i = .int .i64 k ∧ wr.ownsRow w.heap.size 58 2 o ((ls.take k).filter p).length (flds ((ls.take k).filter p)) ∧ Below w.heap.size w wr) (fun _ i _ => ls.length - (intOf i).toNat)
  case atStart => exact ⟨0, Nat.zero_le _, rfl, World.ownsRow_nil _ _ _ _, Below.refl _ _⟩
  case round =>
    obtain ⟨k, hk, rfl, hown, hw⟩ := hrel
    have hsz := hw.size
    by_cases hlt : k < ls.length
    · obtain ⟨g, off, rfl, hgs, hce⟩ := HC.out (by omega)
      obtain ⟨c1, c2⟩ := hce k hlt
      have hmo := HL.out.1 ls[k] (List.getElem_mem hlt)
      obtain ⟨n, hn⟩ : ∃ n : ByteArray, n = ⟨(ls[k]).1.toArray⟩ := ⟨_, rfl⟩
      obtain ⟨u, hu⟩ : ∃ u : ByteArray, u = ⟨(ls[k]).2.toArray⟩ := ⟨_, rfl⟩
      have hns : n.size ≤ 140737488351232 := by rw [← size_list, hn]; exact hmo.1
      have hus : u.size ≤ 140737488351232 := by rw [← size_list, hu]; exact hmo.2
      have HE : Hid ((n.data.toList, u.data.toList) = ls[k]) := by show _ = _; rw [hn, hu]
      have d1 : wr.cell? ⟨g, off + k * 2, none⟩ = some (.string n) := by rw [hw.cell (p := ⟨g, off + k * 2, none⟩) hgs, hn]; exact c1
      have d2 : wr.cell? ⟨g, off + k * 2 + 1, none⟩ = some (.string u) := by rw [hw.cell (p := ⟨g, off + k * 2 + 1, none⟩) hgs, hu]; exact c2
      have hgr : g < wr.heap.size := by omega
      clear hce c1 c2 hmo hn hu
      have hki : (k : Int) < (ls.length : Int) := by omega
      have hk0 : (0 : Int) ≤ (k : Int) := by omega
      have HN0 : Hid ((wr.alloc (.cells #[.string n, .string u] 58)).heap[wr.heap.size]? = some (.cells #[.string n, .string u] 58 (0, 0))) := pair_new _ _ _ _
      have hw0 := hw.alloc hsz (.cells #[.string n, .string u] 58)
      have hown0 := hown.alloc (.cells #[.string n, .string u] 58)
      have HF := filter_take ls p k hlt
      have hfl : ((ls.take k).filter p).length ≤ k := by
        have h1 := List.length_filter_le p (ls.take k)
        have h2 := List.length_take_le k ls
        omega
      cases hq : p (n.data.toList, u.data.toList)
      · have HQ : Hid (p (n.data.toList, u.data.toList) = false) := hq
        rw [← HE.out, hq] at HF
        have HF2 : Hid ((ls.take (k + 1)).filter p = (ls.take k).filter p) := by show _ = _; rw [HF]; simp
        clear HF hq hown
        go_wp2_with (go_at_fn g0; refine (HPC.out _ n u hw0 hns).mono ?_; rintro e w2 ⟨rfl, hb2⟩; rw [HQ.out])
        go_roundw
        case rel => exact ⟨k + 1, by omega, by go_num, by rw [HF2.out]; exact own_below3 hown0 hb2, hw0.trans (hb2.mono hw0.size)⟩
        case measure => simp [intOf]; omega
      · have HQ : Hid (p (n.data.toList, u.data.toList) = true) := hq
        rw [← HE.out, hq] at HF
        have HF2 : Hid ((ls.take (k + 1)).filter p = (ls.take k).filter p ++ [(n.data.toList, u.data.toList)]) := by show _ = _; rw [HF]; simp
        clear HF hq hown
        go_wp2_with (go_at_fn g0; refine (HPC.out _ n u hw0 hns).mono ?_; rintro e w2 ⟨rfl, hb2⟩; rw [HQ.out]; have hown2 := own_below3 hown0 hb2; have hw2 := hw0.trans (hb2.mono hw0.size); obtain ⟨n1, n2, n3, n4, n5⟩ := pair_all (pair_below HN0.out hb2))
        refine (fclone_any n u _ (by omega) (by omega)).mono ?_
        rintro e w3 ⟨rfl, hb3⟩
        have hown3 := own_below3 hown2 hb3
        have hw3 := hw2.trans (hb3.mono hw2.size)
        have hsz3 := hw3.size
        clear hown2 hb3 hb2 hown0 n1 n2 n3 n4
        go_wp2_with (at_builtin; refine wpList_append_own _ rfl _ _ 22 rfl w.heap.size 58 i0 (.agg #[.string ⟨#[]⟩, .string ⟨#[]⟩]) 2 32 Tryz.underlying22 hi hz0 hz1 hz2 rfl (by decide) _ _ _ rfl (hown3.alloc _) ⟨w3.heap.size, 0, none⟩ 1 1 [.string n, .string u] rfl rfl ?c1 ?c2 ?c3 ?c4 ?c5 ?_)
        case c1 =>
          intro j z h
          match j, h with
          | 0, h => simp at h; subst h; simp [Addr.add]
          | 1, h => simp at h; subst h; simp [Addr.add]
        case c2 => intro z hx; simp at hx; rcases hx with rfl | rfl <;> rfl
        case c3 => unfold maxLen; omega
        case c4 => omega
        case c5 => simp; omega
        · intro v' w4 hown' hgrow _
          have hB : Below w.heap.size w w4 := (hw3.alloc (by omega) _).grown hgrow (by simp; omega) (fun b hb => ((hown3.alloc (.cells #[.string n, .string u] 58)).lt b hb).1)
          have hown4 : w4.ownsRow w.heap.size 58 2 v' ((ls.take (k + 1)).filter p).length (flds ((ls.take (k + 1)).filter p)) := by
            rw [HF2.out, ← flds_snoc, List.length_append]; exact hown'
          clear hown' hgrow hown3 hw3
          go_wp2_with fail
          go_roundw
          case rel => exact ⟨k + 1, by omega, by go_num, hown4, hB⟩
          case measure => simp [intOf]; omega
    · obtain rfl : k = ls.length := by omega
      rw [List.take_length] at hown
      go_wp2_with fail
      go_ret
      exact ⟨_, rfl, hown, hw⟩
end Go.Proofs.YtigbjhkkbgdkcacGreatDoor

/-
  What strings.Join computes, of a row of texts of the call's own.
-/
namespace Go.Proofs.YtigbjhkkbgdkcacGreatDoor
open Go.RowKit

def bas (ps : List (List UInt8)) : List ByteArray := ps.map fun p => ⟨p.toArray⟩
theorem bas_len (ps : List (List UInt8)) : (bas ps).length = ps.length := by simp [bas]
theorem bas_map (ps : List (List UInt8)) : (bas ps).map (·.data.toList) = ps := by
  induction ps with
  | nil => rfl
  | cons p ps ih => simp [bas] at ih ⊢; exact ih
theorem bas_get (ps : List (List UInt8)) (j : Nat) (x : ByteArray) (h : (bas ps)[j]? = some x) : (strs ps)[j]? = some (.string x) := by
  unfold bas at h
  unfold strs
  rw [List.getElem?_map] at h ⊢
  cases hp : ps[j]? with
  | none => rw [hp] at h; cases h
  | some p => rw [hp] at h; simp at h ⊢; exact h

theorem join_at (v : Value) (ps : List (List UInt8)) (B : Nat) (sep t : ByteArray) (ht : t.data.toList = Lib.join ps sep.data.toList) (w : World) (hown : w.ownsRow B 9 1 v ps.length (strs ps)) (hl : ps.length ≤ 140737488355328) (hj : t.size ≤ 140737488355328) :
    Calls Tryz.prog 24 #[v, .string sep] w fun e w' => e = .returned (.string t) ∧ Below w.heap.size w w' := by
  obtain ⟨ad, cap, hv, hcm, hnc, hc⟩ := own_slice hown
  subst hv
  by_cases h0 : ps.length = 0
  · have hp := List.eq_nil_of_length_eq_zero h0
    subst hp
    refine (Tryz.strings_Join_none ad cap sep w).mono ?_
    rintro e w' ⟨rfl, rfl⟩
    refine ⟨ret_str ?_, Below.refl _ _⟩
    apply ByteArray.ext; apply Array.ext'
    rw [ht]; rfl
  · obtain ⟨g, rfl, hgB, hgs, hce⟩ := hc (by omega)
    have c := Tryz.strings_Join g 0 cap (bas ps) sep w (fun j x hx => by
      have hjl : j < ps.length := by
        rw [← bas_len]
        rcases Nat.lt_or_ge j (bas ps).length with h | h
        · exact h
        · rw [List.getElem?_eq_none h] at hx; cases hx
      rw [Nat.zero_add, hce j hjl]
      exact bas_get ps j x hx) hgs (by rw [bas_len]; omega) (by rw [bas_len]; exact hnc) (by rw [bas_map, ← ht, size_list]; omega)
    rw [bas_len, bas_map] at c
    refine c.mono ?_
    rintro e w' ⟨rfl, hb⟩
    refine ⟨ret_str ?_, hb⟩
    apply ByteArray.ext; apply Array.ext'
    rw [ht]
end Go.Proofs.YtigbjhkkbgdkcacGreatDoor

/-
  What Get of package field computes; lists and texts are no longer than Go allows, and the values, with what stands between them, fit in 2^47 bytes.
-/
namespace Go.Proofs.YtigbjhkkbgdkcacGreatDoor
open Go.RowKit

theorem ret_sb {a b : ByteArray} {c d : Bool} (h : a = b) (h' : c = d) : Ending.returned (.tuple #[.string a, .bool c]) = .returned (.tuple #[.string b, .bool d]) := by rw [h, h']

set_option maxHeartbeats 2000000 in
set_option maxRecDepth 100000 in
theorem get_at (v : Value) (ls : List Fld) (s t : ByteArray) (b : Bool) (ht : t.data.toList = jn (vals ls s.data.toList)) (hb : b = !(vals ls s.data.toList).isEmpty) (w : World) (hf : Fl w v ls) (hl : Wide ls) (hs : s.size ≤ 140737488351232) (hj : t.size ≤ 140737488355328) :
    Calls Tryz.prog 9 #[v, .string s] w fun e w' => e = .returned (.tuple #[.string t, .bool b]) ∧ Below w.heap.size w w' := by
  obtain ⟨i0, hi, hz0, hz1, hz2⟩ := info_parts info9
  have HF : Hid (Fl w v ls) := hf
  have HL : Hid (Wide ls) := hl
  have HT : Hid (t.data.toList = jn (vals ls s.data.toList)) := ht
  have HB : Hid (b = !(vals ls s.data.toList).isEmpty) := hb
  clear hf hl ht hb
  go_enter Tryz.func9, Tryz.ntmps9
  go_wp2_with fail
  refine (named_any s _ hs).mono ?_
  rintro e w1 ⟨f, rfl, hp1, hb1⟩
  have HP1 : Hid (Pred w1 f (fun x => lower x.1 == lower s.data.toList)) := hp1
  clear hp1
  go_wp2_with fail
  refine (pick_any _ _ ls _ _ (HF.out.below hb1) HL.out HP1.out).mono ?_
  rintro e w2 ⟨v2, rfl, hown2, hb2⟩
  obtain ⟨P, hP⟩ : ∃ P, P = ls.filter (nm s.data.toList) := ⟨_, rfl⟩
  have HP : Hid (vals ls s.data.toList = P.map (·.2)) := by show _ = _; rw [hP]; rfl
  have hPl : P.length * 32 ≤ 140737488353000 := by rw [hP]; exact (HL.out.filter (nm s.data.toList)).2
  have hF2 : Fl w2 v2 P := by rw [hP]; exact Fl.own hown2
  have hw2 := hb1.trans (hb2.mono hb1.size)
  obtain ⟨ad, cap, hv, hcap, hcm, hc⟩ := hF2
  subst hv
  have HC : Hid (0 < P.length → ∃ g off, ad = some ⟨g, off, none⟩ ∧ g < w2.heap.size ∧
    ∀ (k : Nat) (h : k < P.length), w2.cell? ⟨g, off + k * 2, none⟩ = some (.string ⟨(P[k]).1.toArray⟩) ∧ w2.cell? ⟨g, off + k * 2 + 1, none⟩ = some (.string ⟨(P[k]).2.toArray⟩)) := hc
  clear hc hown2 hb2 hb1 HP1 hP
  unfold maxLen at hcm
  have hsz2 := hw2.size
  go_wp2_with fail
  go_loopw [6, 14] (fun o i wr => ∃ k : Nat, k ≤ P.length ∧ i = .int .i64 k ∧ wr.ownsRow w2.heap.size 9 1 o ((P.take k).map (·.2)).length (strs ((P.take k).map (·.2))) ∧ Below w2.heap.size w2 wr) (fun _ i _ => P.length - (intOf i).toNat)
  case atStart => exact ⟨0, Nat.zero_le _, rfl, by simpa [strs] using World.ownsRow_nil w2 w2.heap.size 9 1, Below.refl _ _⟩
  case round =>
    obtain ⟨k, hk, rfl, hown, hw⟩ := hrel
    have hsz := hw.size
    have hml : ((P.take k).map (·.2)).length = k := by rw [List.length_map, List.length_take]; omega
    by_cases hlt : k < P.length
    · obtain ⟨g, off, rfl, hgs, hce⟩ := HC.out (by omega)
      obtain ⟨c1, c2⟩ := hce k hlt
      obtain ⟨n, hn⟩ : ∃ n : ByteArray, n = ⟨(P[k]).1.toArray⟩ := ⟨_, rfl⟩
      obtain ⟨u, hu⟩ : ∃ u : ByteArray, u = ⟨(P[k]).2.toArray⟩ := ⟨_, rfl⟩
      have HE : Hid ((P.take (k + 1)).map (·.2) = (P.take k).map (·.2) ++ [u.data.toList]) := by
        show _ = _
        rw [List.take_succ_eq_append_getElem hlt, List.map_append, hu]; rfl
      have d1 : wr.cell? ⟨g, off + k * 2, none⟩ = some (.string n) := by rw [hw.cell (p := ⟨g, off + k * 2, none⟩) hgs, hn]; exact c1
      have d2 : wr.cell? ⟨g, off + k * 2 + 1, none⟩ = some (.string u) := by rw [hw.cell (p := ⟨g, off + k * 2 + 1, none⟩) hgs, hu]; exact c2
      have hgr : g < wr.heap.size := by omega
      clear hce c1 c2 hn hu
      have hki : (k : Int) < (P.length : Int) := by omega
      have hk0 : (0 : Int) ≤ (k : Int) := by omega
      have hown0 := hown.alloc (.cells #[.string n, .string u] 58)
      have hw0 := hw.alloc hsz (.cells #[.string n, .string u] 58)
      have HML : Hid (((P.take k).map (·.2)).length = k) := hml
      clear hown hml
      go_wp2_with (at_builtin; refine wpList_append_own _ rfl _ _ 33 rfl w2.heap.size 9 i0 (.string ⟨#[]⟩) 1 16 Tryz.underlying33 hi hz0 hz1 hz2 rfl (by decide) _ _ _ rfl (hown0.alloc _) ⟨wr.heap.size + 1, 0, none⟩ 1 1 [.string u] rfl rfl ?c1 ?c2 ?c3 ?c4 ?c5 ?_)
      case c2 => rfl
      case c3 => unfold maxLen; omega
      case c4 => omega
      case c5 => omega
      · intro v' w4 hown' hgrow _
        have hB : Below w2.heap.size w2 w4 := (hw0.alloc (by simp; omega) _).grown hgrow (by simp; omega) (fun b hb => ((hown0.alloc (.cells #[.string u] 9)).lt b hb).1)
        have hown4 : w4.ownsRow w2.heap.size 9 1 v' ((P.take (k + 1)).map (·.2)).length (strs ((P.take (k + 1)).map (·.2))) := by
          rw [HE.out, ← strs_snoc, List.length_append, HML.out, List.map_take]; exact hown'
        clear hown' hgrow hown0 hw0
        go_wp2_with fail
        go_roundw
        case rel => exact ⟨k + 1, by omega, by go_num, hown4, hB⟩
        case measure => simp [intOf]; omega
    · obtain rfl : k = P.length := by omega
      rw [List.take_length] at hown
      have HJ : Hid (t.data.toList = Lib.join (P.map (·.2)) (⟨#[44, 32]⟩ : ByteArray).data.toList) := by show _ = _; rw [← HP.out]; exact HT.out
      obtain ⟨ad', cap', hv', hcm', hnc', hcx⟩ := own_slice hown
      have hml2 : (P.map (·.2)).length = P.length := List.length_map _
      have HBB : Hid (decide (0 < P.length) = b) := by
        show _ = _
        rw [HB.out, HP.out]
        cases P <;> simp
      have HO : Hid (wr.ownsRow w2.heap.size 9 1 (.slice ad' (P.map (·.2)).length cap') (P.map (·.2)).length (strs (P.map (·.2)))) := by show World.ownsRow _ _ _ _ _ _ _; rw [← hv']; exact hown
      subst hv'
      clear hcx hown
      rw [hml2] at HO hnc' ⊢
      go_wp2_with fail
      refine (join_at _ (P.map (·.2)) w2.heap.size _ t HJ.out _ (by rw [hml2]; exact HO.out) (by rw [hml2]; omega) hj).mono ?_
      rintro e w5 ⟨rfl, hb5⟩
      have hw5 := hw2.trans ((hw.trans (hb5.mono hsz)).mono hsz2)
      go_wp2_with fail
      go_ret2
      exact ⟨ret_sb rfl HBB.out, hw5⟩
end Go.Proofs.YtigbjhkkbgdkcacGreatDoor

/-
  The tables that package date and package strconv read, as the rows of this seat list them, hold what their functions ask.
-/
namespace Go.Proofs.YtigbjhkkbgdkcacGreatDoor
open Go.RowKit Go.Lib

theorem cells_of_strs {H : Type} {enc : TypeId × Value → H} {P : Program} {w : World} {base : Nat} {sp : Nat → Bool} {held : Bool} {fuel : Nat} {t e : TypeId} {n : Nat} {cs : List Value} {zs : List (List UInt8)} {p : List MemPlace}
    (ht : P.underlying t = some (.array n e)) (he : P.underlying e = some .string) (hce : P.cellsOf e = 1) (hct : P.cellsOf t = n)
    (h : DataW.trod enc P w base sp held fuel t cs = some (.agg (zs.map fun z => .lit (.string z)), p)) (i : Nat) (hi : i < zs.length) : cs[i]? = some (.string ⟨(zs.getD i []).toArray⟩) := by
  cases fuel with
  | zero => simp [DataW.trod] at h
  | succ fuel =>
    simp only [DataW.trod, ht, hce, hct, Nat.mul_one] at h
    split at h
    · obtain ⟨xs, hm, hx⟩ := Option.map_eq_some_iff.1 h
      have hxs : xs.map (·.1) = zs.map fun z => (DataW.lit (.string z) : DataW H) := by
        have := congrArg Prod.fst hx
        simpa using this
      have hxl : xs.length = n := by simpa using mapM_length hm
      have hzl : zs.length = n := by
        have := congrArg List.length hxs
        simp at this
        omega
      obtain ⟨b, hb, hf⟩ := mapM_at hm i i (by rw [List.getElem?_range (by omega)])
      obtain ⟨s, hc, rfl, _⟩ := DataW.trod_string he hf
      have h1 : cs[i]? = some (.string s) := by
        have := congrArg (·[0]?) hc
        simpa [List.getElem?_take, List.getElem?_drop] using this
      have h2 : (xs.map (·.1))[i]? = some (DataW.lit (.string s.data.toList) : DataW H) := by simp [hb]
      rw [hxs] at h2
      simp only [List.getElem?_map, Option.map_eq_some_iff, DataW.lit.injEq, Lit.string.injEq] at h2
      obtain ⟨z, hz, hzs⟩ := h2
      rw [h1, List.getD, hz, Option.getD_some, hzs]
    · cases h

structure DTabs (w : World) : Prop where
  pow : Lib.TabIs Tryz.prog w "internal/strconv.uint64pow10" .u64 Lib.pow10Tab
  week : ∀ i : Nat, i < 7 → w.cell? ⟨0, i, none⟩ = some (.string ⟨(weekS i).toArray⟩)
  month : ∀ i : Nat, i < 12 → w.cell? ⟨1, i, none⟩ = some (.string ⟨(monthS i).toArray⟩)

theorem var_below {P : Program} {n : String} {cs : Array Value} {w w' : World} (h : w.var? P n = some cs) (hb : Below w.heap.size w w') : w'.var? P n = some cs := by
  unfold World.var? at h ⊢
  cases hg : P.globalNamed n with
  | none => rw [hg] at h; cases h
  | some g =>
    rw [hg, Option.bind_some] at h
    rw [Option.bind_some]
    by_cases hlt : g < w.heap.size
    · rw [hb.block g hlt]; exact h
    · rw [Array.getElem?_eq_none (by omega)] at h; cases h

theorem lt_of_cell {w : World} {g i : Nat} {v : Value} (h : w.cell? ⟨g, i, none⟩ = some v) : g < w.heap.size := by
  by_cases hg : g < w.heap.size
  · exact hg
  · simp only [World.cell?] at h
    rw [Array.getElem?_eq_none (by omega)] at h
    simp at h

theorem DTabs.below {w w' : World} (h : DTabs w) (hb : Below w.heap.size w w') : DTabs w' where
  pow := var_below h.pow hb
  week := fun i hi => by rw [hb.cell (p := ⟨0, i, none⟩) (lt_of_cell (h.week i hi))]; exact h.week i hi
  month := fun i hi => by rw [hb.cell (p := ⟨1, i, none⟩) (lt_of_cell (h.month i hi))]; exact h.month i hi

theorem strs_of {w : World} {name : String} {g : Nat} {t : TypeId} {n : Nat} {zs : List (List UInt8)} (h : VarReads Tryz.prog w name (.agg (zs.map fun z => .lit (.string z)))) (hg : Tryz.prog.globalNamed name = some g)
    (hty : (Tryz.prog.globals[g]?).map (·.type) = some t) (ht : Tryz.prog.underlying t = some (.array n 9)) (hct : Tryz.prog.cellsOf t = n) (i : Nat) (hi : i < zs.length) : w.cell? ⟨g, i, none⟩ = some (.string ⟨(zs.getD i []).toArray⟩) := by
  obtain ⟨g', t', cs, fuel, p, hg', ht', hv, hd⟩ := h
  obtain rfl := Option.some.inj (hg.symm.trans hg')
  obtain rfl := Option.some.inj (hty.symm.trans ht')
  have hc := cells_of_strs ht Tryz.underlying9 (by kernel_rfl) hct hd i hi
  rw [World.var?_cell hg hv i]
  simpa using hc

theorem dtabs_of {l : List (String × DataW Unit)} (w : World) (h : laidMet Tryz.prog l w) (h1 : ("internal/strconv.uint64pow10", Rows.laid_internal_strconv_uint64pow10) ∈ l)
    (h2 : ("larder/date.weekdays", Rows.laid_larder_date_weekdays) ∈ l) (h3 : ("larder/date.months", Rows.laid_larder_date_months) ∈ l) : DTabs w where
  pow := by
    have r : VarReads Tryz.prog w "internal/strconv.uint64pow10" Rows.laid_internal_strconv_uint64pow10 := laidMet.reads h h1
    rw [show (Rows.laid_internal_strconv_uint64pow10 : DataW Unit) = tabData .u64 pow10Tab from by kernel_rfl] at r
    obtain ⟨g', t', cs, fuel, p, hg', ht', hv, hd⟩ := r
    obtain rfl := Option.some.inj ((show Tryz.prog.globalNamed "internal/strconv.uint64pow10" = some 3 by kernel_rfl).symm.trans hg')
    obtain rfl := Option.some.inj ((show (Tryz.prog.globals[3]?).map (·.type) = some 148 by kernel_rfl).symm.trans ht')
    unfold TabIs
    rw [hv, ← cells_of_tab Tryz.underlying148 Tryz.underlying133 (by kernel_rfl) (by kernel_rfl) hd]
  week := fun i hi => strs_of (zs := weekL) (laidMet.reads h h2) (by kernel_rfl) (by kernel_rfl) Tryz.underlying79 (by kernel_rfl) i hi
  month := fun i hi => strs_of (zs := monthL) (laidMet.reads h h3) (by kernel_rfl) (by kernel_rfl) Tryz.underlying81 (by kernel_rfl) i hi
end Go.Proofs.YtigbjhkkbgdkcacGreatDoor

/-
  Leap years as Bools; no program is named here.
-/
namespace Go.Proofs.YtigbjhkkbgdkcacGreatDoor
open Go.RowKit

theorem ret_ie {a b c d : Int} (h : a = b) (h' : c = d) : Ending.returned (.tuple #[.int .i64 a, .int .i64 c]) = .returned (.tuple #[.int .i64 b, .int .i64 d]) := by rw [h, h']

theorem lpB_yes {y : Int} (h4 : y % 4 = 0) (h : y % 100 ≠ 0 ∨ y % 400 = 0) : lpB y = true := by
  unfold lpB lp; rw [if_pos ⟨h4, h⟩]; rfl
theorem lpB_no {y : Int} (h : ¬ (y % 4 = 0 ∧ (y % 100 ≠ 0 ∨ y % 400 = 0))) : lpB y = false := by
  unfold lpB lp; rw [if_neg h]; rfl
theorem lp_of_true {y : Int} (h : lpB y = true) : lp y = 1 := by unfold lpB at h; simpa using h
theorem lp_of_false {y : Int} (h : lpB y = false) : lp y = 0 := by
  have := lp_or y; unfold lpB at h; simp at h; omega
end Go.Proofs.YtigbjhkkbgdkcacGreatDoor

/-
  What the calendar of package date computes: isLeap, monthLength, leapsAhead, daysAhead, yearOf and Civil, each a contract over the program's text.
-/
namespace Go.Proofs.YtigbjhkkbgdkcacGreatDoor
open Go.RowKit

set_option maxHeartbeats 400000 in
theorem isLeap_any (y : Int) (w : World) (h1 : 1970 ≤ y) (h2 : y ≤ 10000) :
    Calls Tryz.prog 75 #[.int .i64 y] w fun e w' => e = .returned (.bool (lpB y)) ∧ w' = w := by
  have h0 : 0 ≤ y := by omega
  by_cases a : y % 4 = 0
  · by_cases b : y % 100 = 0
    · by_cases c : y % 400 = 0
      · have HL : Hid (lpB y = true) := lpB_yes a (.inr c)
        go_enter Tryz.func75, Tryz.ntmps75
        go_wp2
        go_ret
        exact ⟨ret_bool (by rw [HL.out]), rfl⟩
      · have HL : Hid (lpB y = false) := lpB_no (by omega)
        go_enter Tryz.func75, Tryz.ntmps75
        go_wp2
        go_ret
        exact ⟨ret_bool (by rw [HL.out]; simpa using c), rfl⟩
    · have HL : Hid (lpB y = true) := lpB_yes a (.inl b)
      go_enter Tryz.func75, Tryz.ntmps75
      go_wp2
      go_ret
      exact ⟨ret_bool (by rw [HL.out]), rfl⟩
  · have HL : Hid (lpB y = false) := lpB_no (by omega)
    go_enter Tryz.func75, Tryz.ntmps75
    go_wp2
    go_ret
    exact ⟨ret_bool (by rw [HL.out]), rfl⟩

set_option maxHeartbeats 400000 in
theorem dim_any (y m : Int) (w : World) (h1 : 1970 ≤ y) (h2 : y ≤ 10000) (h3 : 1 ≤ m) (h4 : m ≤ 12) :
    Calls Tryz.prog 58 #[.int .i64 y, .int .i64 m] w fun e w' => e = .returned (.int .i64 (dim y m)) ∧ w' = w := by
  by_cases hm : m = 2
  · subst hm
    cases hl : lpB y
    · have HL : Hid (lpB y = false) := hl
      have HD : Hid (dim y 2 = 28) := by show dim y 2 = 28; unfold dim; rw [if_pos rfl, lp_of_false hl]; rfl
      clear hl
      go_enter Tryz.func58, Tryz.ntmps58
      go_wp2_with fail
      refine (isLeap_any _ _ h1 h2).mono ?_
      rintro e w' ⟨rfl, rfl⟩
      rw [HL.out]
      go_wp2_with fail
      go_ret
      exact ⟨ret_int (by rw [HD.out]), rfl⟩
    · have HL : Hid (lpB y = true) := hl
      have HD : Hid (dim y 2 = 29) := by show dim y 2 = 29; unfold dim; rw [if_pos rfl, lp_of_true hl]; rfl
      clear hl
      go_enter Tryz.func58, Tryz.ntmps58
      go_wp2_with fail
      refine (isLeap_any _ _ h1 h2).mono ?_
      rintro e w' ⟨rfl, rfl⟩
      rw [HL.out]
      go_wp2_with fail
      go_ret
      exact ⟨ret_int (by rw [HD.out]), rfl⟩
  · have HD : Hid (dim y m = if m = 4 ∨ m = 6 ∨ m = 9 ∨ m = 11 then 30 else 31) := by show dim y m = _; unfold dim; rw [if_neg hm]
    rcases m12 h3 h4 with rfl | rfl | rfl | rfl | rfl | rfl | rfl | rfl | rfl | rfl | rfl | rfl
    all_goals first
      | (exact absurd rfl hm)
      | (clear hm
         go_enter Tryz.func58, Tryz.ntmps58
         go_wp2_with fail
         go_ret
         exact ⟨ret_int (by rw [HD.out]; rfl), rfl⟩)

set_option maxHeartbeats 400000 in
theorem leaps_any (y : Int) (w : World) (h1 : 1970 ≤ y) (h2 : y ≤ 10000) :
    Calls Tryz.prog 74 #[.int .i64 y] w fun e w' => e = .returned (.int .i64 ((y - 1) / 4 - (y - 1) / 100 + (y - 1) / 400)) ∧ w' = w := by
  go_enter Tryz.func74, Tryz.ntmps74
  go_wp2
  go_ret
  exact ⟨rfl, rfl⟩

set_option maxHeartbeats 400000 in
theorem dby_any (y : Int) (w : World) (h1 : 1970 ≤ y) (h2 : y ≤ 10000) :
    Calls Tryz.prog 57 #[.int .i64 y] w fun e w' => e = .returned (.int .i64 (dby y)) ∧ w' = w := by
  have hd : dby y = (y - 1970) * 365 + ((y - 1) / 4 - (y - 1) / 100 + (y - 1) / 400) - 477 := rfl
  have HD : Hid (dby y = (y - 1970) * 365 + ((y - 1) / 4 - (y - 1) / 100 + (y - 1) / 400) - 477) := hd
  clear hd
  go_enter Tryz.func57, Tryz.ntmps57
  go_wp2_with fail
  refine (leaps_any _ _ h1 h2).mono ?_
  rintro e w' ⟨rfl, rfl⟩
  go_wp2_with fail
  refine (leaps_any _ _ (by omega) (by omega)).mono ?_
  rintro e w' ⟨rfl, rfl⟩
  go_wp2_with fail
  go_ret
  exact ⟨ret_int (by rw [HD.out]), rfl⟩

set_option maxHeartbeats 400000 in
theorem yearOf_any (n : Int) (w : World) (h1 : 0 ≤ n) (h2 : n ≤ 2932896) :
    Calls Tryz.prog 56 #[.int .i64 n] w fun e w' => ∃ y : Int, e = .returned (.int .i64 y) ∧ 1970 ≤ y ∧ y ≤ 9999 ∧ dby y ≤ n ∧ n < dby (y + 1) ∧ w' = w := by
  have g0 := dby_guess n h1
  have G0 : Hid (dby (1970 + n / 366) ≤ n) := g0
  clear g0
  go_enter Tryz.func56, Tryz.ntmps56
  go_wp2_with fail
  go_loop [3] (fun t => ∃ y : Int, 1970 ≤ y ∧ y ≤ 9999 ∧ dby y ≤ n ∧ t = .int .i64 y) (fun t => (9999 - intOf t).toNat)
  case atStart => exact ⟨_, by omega, by omega, G0.out, rfl⟩
  case round =>
    obtain ⟨y, hy1, hy2, hy3, rfl⟩ := hrel
    have hb := dby_bd (y + 1) (by omega) (by omega)
    by_cases hc : dby (y + 1) ≤ n
    · have hlt : y < 9999 := by
        by_cases hlt : y < 9999
        · exact hlt
        · obtain rfl : y = 9999 := by omega
          have := dby_max
          have e : dby (9999 + 1) = 2932897 := dby_max
          omega
      go_wp2_with fail
      refine (dby_any _ _ (by omega) (by omega)).mono ?_
      rintro e w' ⟨rfl, rfl⟩
      go_wp2_with fail
      go_round
      case rel => exact ⟨y + 1, by omega, by omega, hc, rfl⟩
      case measure => simp [intOf]; omega
    · go_wp2_with fail
      refine (dby_any _ _ (by omega) (by omega)).mono ?_
      rintro e w' ⟨rfl, rfl⟩
      go_wp2_with fail
      go_ret
      exact ⟨y, rfl, hy1, hy2, hy3, by omega, rfl⟩

theorem civil_no (n : Int) (w : World) (h : n < 0 ∨ 2932896 < n) :
    Calls Tryz.prog 31 #[.int .i64 n] w fun e w' => e = .returned (.tuple #[.int .i64 0, .int .i64 0, .int .i64 0, .int .i64 1]) ∧ w' = w := by
  rcases h with h | h
  · go_enter Tryz.func31, Tryz.ntmps31
    go_wp2_with fail
    exact bodyPost_ret (v := .tuple #[.int .i64 0, .int .i64 0, .int .i64 0, .int .i64 1]) (by simp [results, Tryz.results31, go_sem]) rfl ⟨rfl, rfl⟩
  · have h' : ¬ n < 0 := by omega
    go_enter Tryz.func31, Tryz.ntmps31
    go_wp2_with fail
    exact bodyPost_ret (v := .tuple #[.int .i64 0, .int .i64 0, .int .i64 0, .int .i64 1]) (by simp [results, Tryz.results31, go_sem]) rfl ⟨rfl, rfl⟩

set_option maxHeartbeats 1000000 in
theorem civil_yes (n : Int) (w : World) (h1 : 0 ≤ n) (h2 : n ≤ 2932896) :
    Calls Tryz.prog 31 #[.int .i64 n] w fun e w' => ∃ y m d : Int, e = .returned (.tuple #[.int .i64 y, .int .i64 m, .int .i64 d, .int .i64 0]) ∧ vldB y m d = true ∧ num y m d = n ∧ w' = w := by
  go_enter Tryz.func31, Tryz.ntmps31
  go_wp2_with fail
  refine (yearOf_any _ _ h1 h2).mono ?_
  rintro e w' ⟨y, rfl, hy1, hy2, hy3, hy4, rfl⟩
  have hb := dby_bd y hy1 (by omega)
  have hs := dby_succ y
  have hl := lp_01 y
  have HY : Hid (n < dby y + 365 + lp y) := by show n < _; omega
  clear hy4 hs
  go_wp2_with fail
  refine (dby_any _ _ hy1 (by omega)).mono ?_
  rintro e w' ⟨rfl, rfl⟩
  go_wp2_with fail
  go_loop [7, 8] (fun r k => ∃ m : Int, 1 ≤ m ∧ m ≤ 12 ∧ k = .int .i64 m ∧ 0 ≤ n - dby y - cum y m ∧ r = .int .i64 (n - dby y - cum y m)) (fun _ k => (12 - intOf k).toNat)
  case atStart => exact ⟨1, by omega, by omega, rfl, by rw [cum_one]; omega, by rw [cum_one, Int.sub_zero]⟩
  case round =>
    obtain ⟨m, hm1, hm2, rfl, hr, rfl⟩ := hrel
    have cb := cum_bd y m
    have db := dim_lo y m
    have CS : Hid (cum y (m + 1) = cum y m + dim y m) := cum_succ y m hm1 hm2
    by_cases hc : dim y m ≤ n - dby y - cum y m
    · have hm : m < 12 := by
        by_cases hm : m < 12
        · exact hm
        · obtain rfl : m = 12 := by omega
          have e := CS.out
          have e' : cum y (12 + 1) = 365 + lp y := cum_13 y
          have := HY.out
          omega
      go_wp2_with fail
      refine (dim_any _ _ _ hy1 (by omega) hm1 hm2).mono ?_
      rintro e w' ⟨rfl, rfl⟩
      go_wp2_with fail
      refine (dim_any _ _ _ hy1 (by omega) hm1 hm2).mono ?_
      rintro e w' ⟨rfl, rfl⟩
      go_wp2_with fail
      go_round
      case rel => exact ⟨m + 1, by omega, by omega, rfl, by rw [CS.out]; omega, by rw [CS.out]; go_num⟩
      case measure => simp [intOf]; omega
    · go_wp2_with fail
      refine (dim_any _ _ _ hy1 (by omega) hm1 hm2).mono ?_
      rintro e w' ⟨rfl, rfl⟩
      go_wp2_with fail
      exact bodyPost_ret (v := .tuple #[.int .i64 y, .int .i64 m, .int .i64 (n - dby y - cum y m + 1), .int .i64 0]) (by simp [results, Tryz.results31, go_sem]) rfl ⟨y, m, _, rfl, vld_of n y m hy1 hy2 hm1 hm2 hr (by omega), num_of n y m, rfl⟩
end Go.Proofs.YtigbjhkkbgdkcacGreatDoor

/-
  The contract of Go's (*strings.Builder).WriteString, which the shelf proves over any program, laid over this seat's translation. No condition but those that the theorem names.
-/
namespace Go.Proofs
def Tryz.lays166_ren : Go.Shelf.Ren := ⟨fun | 166 => 32 | 240 => 59 | 276 => 76 | n => n, fun | 0 => 0 | 3 => 3 | 4 => 4 | 5 => 5 | 9 => 9 | 20 => 20 | 37 => 72 | 70 => 71 | 72 => 74 | 75 => 76 | 80 => 82 | 164 => 112 | n => n, fun | n => n⟩
theorem Tryz.lays166 : Go.Proofs.Lays.n166 Tryz.prog Tryz.lays166_ren := {
  mixed := by kernel_rfl
  f166 := Tryz.func32.trans (congrArg some (by kernel_rfl))
  f240 := Tryz.func59.trans (congrArg some (by kernel_rfl))
  f276 := Tryz.func76.trans (congrArg some (by kernel_rfl))
  t0 := Tryz.underlying0
  a0 := Tryz.isAgg0
  z0 := Tryz.sizeOf0
  v0 := Tryz.zeroValue0
  t3 := Tryz.underlying3
  a3 := Tryz.isAgg3
  z3 := Tryz.sizeOf3
  v3 := Tryz.zeroValue3
  t4 := Tryz.underlying4
  a4 := Tryz.isAgg4
  z4 := Tryz.sizeOf4
  v4 := Tryz.zeroValue4
  t9 := Tryz.underlying9
  a9 := Tryz.isAgg9
  z9 := Tryz.sizeOf9
  v9 := Tryz.zeroValue9
  t20 := Tryz.underlying20
  a20 := Tryz.isAgg20
  z20 := Tryz.sizeOf20
  v20 := Tryz.zeroValue20
  t37 := Tryz.underlying72
  a37 := Tryz.isAgg72
  z37 := Tryz.sizeOf72
  v37 := Tryz.zeroValue72
  t70 := Tryz.underlying71
  a70 := Tryz.isAgg71
  z70 := Tryz.sizeOf71
  v70 := Tryz.zeroValue71
  t72 := Tryz.underlying74
  a72 := Tryz.isAgg74
  z72 := Tryz.sizeOf74
  v72 := Tryz.zeroValue74
  t75 := Tryz.underlying76
  a75 := Tryz.isAgg76
  z75 := Tryz.sizeOf76
  v75 := Tryz.zeroValue76
  t164 := Tryz.underlying112
  a164 := Tryz.isAgg112
  z164 := Tryz.sizeOf112
  v164 := Tryz.zeroValue112 }
theorem Tryz.Builder_Extra_166 : Builder.Extra Tryz.prog Tryz.lays166_ren := {
  sizeBuilder := by kernel_rfl
  liesBuilder := by kernel_rfl
  t5 := Tryz.underlying5
  a5 := Tryz.isAgg5
  z5 := Tryz.sizeOf5
  v5 := Tryz.zeroValue5
  infoByte := by kernel_rfl
  cellsByte := by kernel_rfl
  sizeByte := by kernel_rfl
  neB5 := by decide }
open Go.RowKit in
theorem Tryz.Builder_WriteString (B b : Nat) (bs : List Value) (s : ByteArray) (w : World) (h : Lib.IsBuilder 74 5 B b bs w) (hlen : bs.length + s.size ≤ 140737488355328) (hBw : B ≤ w.heap.size) :
    Calls Tryz.prog 32 #[.pointer (some ⟨b, 0, none⟩), .string s] w fun e w' => e = .returned (.tuple #[.int .i64 s.size, .nilIface]) ∧ (Lib.BuilderAt 74 5 B b (.pointer (some ⟨b, 0, none⟩)) (bs ++ Lib.strCells s) w' ∧ Below B w w') := Any.Builder_WriteString Tryz.lays166 Tryz.Builder_Extra_166 B b bs s w h hlen hBw
open Go.RowKit in
theorem Tryz.Builder_WriteString_k (B b : Nat) (bs : List Value) (s : ByteArray) (w : World) (h : Lib.IsBuilderF 74 5 B b bs w) (hlen : bs.length + s.size ≤ 140737488355328) (hBw : B ≤ w.heap.size) :
    Calls Tryz.prog 32 #[.pointer (some ⟨b, 0, none⟩), .string s] w fun e w' => e = .returned (.tuple #[.int .i64 s.size, .nilIface]) ∧ (Lib.BuilderAtF 74 5 B b (.pointer (some ⟨b, 0, none⟩)) (bs ++ Lib.strCells s) w' ∧ Below B w w' ∧ Lib.OthersKept 5 (some b) w w') := Any.Builder_WriteString_k Tryz.lays166 Tryz.Builder_Extra_166 B b bs s w h hlen hBw
end Go.Proofs

/-
  What digits and Print of package date compute, each a contract over the program's text; the tables that they read hold what the program's text lays there.
-/
namespace Go.Proofs.YtigbjhkkbgdkcacGreatDoor
open Go.RowKit

theorem ret_se {a b : ByteArray} {c d : Int} (h : a = b) (h' : c = d) : Ending.returned (.tuple #[.string a, .int .i64 c]) = .returned (.tuple #[.string b, .int .i64 d]) := by rw [h, h']
theorem cells_app (a : List UInt8) (s : ByteArray) : Lib.byteCells a ++ Lib.strCells s = Lib.byteCells (a ++ s.data.toList) := by rw [Lib.byteCells_append]; rfl
theorem drewN_belowD (B : Nat) (w : World) (n : Nat) : Below B w (w.drewN n) := by
  induction n with
  | zero => exact Below.refl _ _
  | succ n ih => exact ih.drew
theorem grow_below (w : World) (k : Nat) (os : Array Obj) : Below w.heap.size w (Sort.grow (w.drewN k) os) := by
  have h1 := drewN_belowD w.heap.size w k
  refine ⟨h1.os, h1.tape, h1.output, ?_, fun j hj => ?_⟩
  · rw [Sort.size_grow]; have := h1.size; omega
  · rw [Sort.heap_grow_old _ _ (by have := h1.size; omega)]
    exact h1.block j hj

theorem bu_below {T e : TypeId} {B b : Nat} {bs : List Value} {W W' : World} (h : Lib.IsBuilderF T e B b bs W) (hb : Below W.heap.size W W') : Lib.IsBuilderF T e B b bs W' := by
  have one : ∀ {p : Value}, Lib.BuilderAtF T e B b p bs W → Lib.BuilderAtF T e B b p bs W' := by
    intro p h
    have hlt := h.lt
    obtain ⟨hB, v, hv, hown, hne⟩ := h
    refine ⟨hB, v, ?_, hown.kept (row := none) ⟨hb.os, hb.tape, hb.output, hb.size, fun k hk _ => hb.block k hk⟩ (Classical.em _), hne⟩
    rw [hb.block b hlt]; exact hv
  rcases h with h | h
  · exact .inl (one h)
  · exact .inr (one h)

theorem mk_append (s : ByteArray) (l : List UInt8) (h : l = s.data.toList) : (⟨#[]⟩ : ByteArray) ++ s = ⟨l.toArray⟩ := by
  apply ByteArray.ext
  rw [ByteArray.data_append, h]
  simp

set_option maxHeartbeats 1000000 in
theorem digits2_nat (u : Nat) (h : u < 100) (w : World) :
    Calls Tryz.prog 33 #[.int .i64 (u : Int), .int .i64 2] w fun e w' => e = .returned (.string ⟨(dig2 u).toArray⟩) ∧ w' = w := by
  have c := Tryz.strconv_Itoa_small u h w
  obtain ⟨t, ht⟩ : ∃ t : ByteArray, t = ⟨(Lib.decDigits u).toArray⟩ := ⟨_, rfl⟩
  rw [← ht] at c
  have HL : Hid (t.data.toList = Lib.decDigits u) := by show t.data.toList = _; rw [ht]
  clear ht
  by_cases h1 : u < 10
  · have hz : t.size = 1 := by rw [← size_list, HL.out, Lib.decDigits_one h1]; rfl
    go_enter Tryz.func33, Tryz.ntmps33
    go_wp2_with fail
    refine c.mono ?_
    rintro e w ⟨rfl, rfl⟩
    go_wp2_with fail
    refine (Tryz.strings_Repeat_one _ _).mono ?_
    rintro e w ⟨rfl, rfl⟩
    go_wp2_with fail
    go_ret
    refine ⟨ret_str ?_, rfl⟩
    apply ByteArray.ext
    rw [ByteArray.data_append, ← dec_1 u h1, ← HL.out]
    simp
  · have hz : t.size = 2 := by rw [← size_list, HL.out, dec_2 u h1 h]; rfl
    go_enter Tryz.func33, Tryz.ntmps33
    go_wp2_with fail
    refine c.mono ?_
    rintro e w ⟨rfl, rfl⟩
    go_wp2_with fail
    refine (Tryz.strings_Repeat_zero _ _).mono ?_
    rintro e w ⟨rfl, rfl⟩
    go_wp2_with fail
    go_ret
    exact ⟨ret_str (mk_append _ _ (by rw [HL.out, dec_2 u h1 h])), rfl⟩

theorem digits2_any (x : Int) (h0 : 0 ≤ x) (h1 : x < 100) (w : World) :
    Calls Tryz.prog 33 #[.int .i64 x, .int .i64 2] w fun e w' => e = .returned (.string ⟨(dig2 x.toNat).toArray⟩) ∧ w' = w := by
  obtain ⟨u, rfl⟩ := Int.eq_ofNat_of_zero_le h0
  exact digits2_nat u (by omega) w

set_option maxHeartbeats 1000000 in
theorem digits4_any (x : Int) (h0 : 1000 ≤ x) (h1 : x ≤ 9999) (w : World) (ht : DTabs w) :
    Calls Tryz.prog 33 #[.int .i64 x, .int .i64 4] w fun e w' => e = .returned (.string ⟨(dig4 x.toNat).toArray⟩) ∧ Below w.heap.size w w' := by
  have c := Tryz.strconv_Itoa x (by omega) (by omega) w ht.pow
  obtain ⟨t, ht⟩ : ∃ t : ByteArray, t = ⟨(Lib.itoa x).toArray⟩ := ⟨_, rfl⟩
  rw [← ht] at c
  have HL : Hid (t.data.toList = dig4 x.toNat) := by
    show t.data.toList = _
    rw [ht, ← dec_4 x.toNat (by omega) (by omega), Lib.itoa, if_neg (by omega)]
  have hz : t.size = 4 := by rw [← size_list, HL.out]; rfl
  clear ht
  go_enter Tryz.func33, Tryz.ntmps33
  go_wp2_with fail
  refine c.mono ?_
  rintro e w2 ⟨rfl, k, os, rfl⟩
  have HB : Hid (Below w.heap.size w (Sort.grow (w.drewN k) os)) := grow_below w k os
  go_wp2_with fail
  refine (Tryz.strings_Repeat_zero _ _).mono ?_
  rintro e w3 ⟨rfl, rfl⟩
  go_wp2_with fail
  go_ret
  exact ⟨ret_str (mk_append _ _ HL.out.symm), HB.out⟩

theorem wr_step (B : Nat) (l : List UInt8) (s : ByteArray) (w0 w : World) (hb : Lib.IsBuilderF 74 5 B B (Lib.byteCells l) w) (hw : Below B w0 w) (h0 : B ≤ w0.heap.size) (hl : l.length ≤ 100) (hs : s.size ≤ 100) :
    Calls Tryz.prog 32 #[.pointer (some ⟨B, 0, none⟩), .string s] w fun e w' => e = .returned (.tuple #[.int .i64 s.size, .nilIface]) ∧ Lib.IsBuilderF 74 5 B B (Lib.byteCells (l ++ s.data.toList)) w' ∧ Below B w0 w' := by
  have hsz := hw.size
  refine (Tryz.Builder_WriteString_k B B _ s _ hb (by rw [Lib.byteCells_length]; omega) (by omega)).mono ?_
  rintro e w' ⟨h1, h2, h3, _⟩
  rw [cells_app] at h2
  exact ⟨h1, .inr h2, hw.trans h3⟩
end Go.Proofs.YtigbjhkkbgdkcacGreatDoor

/-
  What Print of package date computes, a contract over the program's text; the tables that it reads hold what the program's text lays there.
-/
namespace Go.Proofs.YtigbjhkkbgdkcacGreatDoor
open Go.RowKit

theorem dprint_no (n : Int) (w : World) (h : n < 0 ∨ 253402300799 < n) :
    Calls Tryz.prog 13 #[.int .i64 n] w fun e w' => e = .returned (.tuple #[.string ⟨#[]⟩, .int .i64 1]) ∧ w' = w := by
  rcases h with h | h
  · go_enter Tryz.func13, Tryz.ntmps13
    go_wp2_with fail
    go_ret2
    exact ⟨rfl, rfl⟩
  · have h' : ¬ n < 0 := by omega
    go_enter Tryz.func13, Tryz.ntmps13
    go_wp2_with fail
    go_ret2
    exact ⟨rfl, rfl⟩

set_option maxHeartbeats 4000000 in
set_option maxRecDepth 100000 in
theorem dprint_yes (n : Int) (w : World) (h1 : 0 ≤ n) (h2 : n ≤ 253402300799) (ht : DTabs w) :
    Calls Tryz.prog 13 #[.int .i64 n] w fun e w' => ∃ y m d : Int, e = .returned (.tuple #[.string ⟨(dtext n y m d).toArray⟩, .int .i64 0]) ∧ vldB y m d = true ∧ num y m d = n / 86400 ∧ Below w.heap.size w w' := by
  have HT : Hid (DTabs w) := ht
  clear ht
  go_enter Tryz.func13, Tryz.ntmps13
  go_wp2_with fail
  refine (civil_yes _ _ (by omega) (by omega)).mono ?_
  rintro e w ⟨y, m, d, rfl, hv, hn, rfl⟩
  have HV : Hid (vldB y m d = true) := hv
  have HN : Hid (num y m d = n / 86400) := hn
  obtain ⟨a1, a2, a3, a4, a5, a6⟩ := vld_iff.1 hv
  have hdl := dim_lo y m
  have hd31 : d ≤ 31 := by omega
  clear hv hn a6 hdl
  obtain ⟨k, hk⟩ : ∃ k : Nat, n / 86400 % 7 = (k : Int) := ⟨(n / 86400 % 7).toNat, by omega⟩
  have hk7 : k < 7 := by omega
  obtain ⟨j, hj⟩ : ∃ j : Nat, m - 1 = (j : Int) := ⟨(m - 1).toNat, by omega⟩
  have hj12 : j < 12 := by omega
  have LW : Hid ((weekS k).length = 3) := week_len k hk7
  have LM : Hid ((monthS j).length = 3) := month_len j hj12
  have HX : Hid (dtext n y m d = weekS k ++ [44, 32] ++ dig2 d.toNat ++ [32] ++ monthS j ++ [32] ++ dig4 y.toNat ++ [32]
    ++ dig2 (n % 86400 / 3600).toNat ++ [58] ++ dig2 (n % 3600 / 60).toNat ++ [58] ++ dig2 (n % 60).toNat ++ [32, 71, 77, 84]) := by
    show dtext n y m d = _
    unfold dtext; rw [hk, hj]; rfl
  have hcw := HT.out.week k hk7
  have hgw := lt_of_cell hcw
  have HB0 : Hid (Lib.IsBuilderF 74 5 w.heap.size w.heap.size (Lib.byteCells []) (w.alloc (.cells #[.pointer none, .slice none 0 0] 74))) := Lib.IsBuilderF.of (Lib.fresh_isBuilder 74 5 w)
  have HW0 : Hid (Below w.heap.size w (w.alloc (.cells #[.pointer none, .slice none 0 0] 74))) := (Below.refl _ w).alloc (Nat.le_refl _) _
  go_wp2_with fail
  refine (wr_step w.heap.size _ _ w _ HB0.out HW0.out (Nat.le_refl _) (Nat.zero_le _) (by rw [← size_list]; show (weekS k).length ≤ _; rw [LW.out]; omega)).mono ?_
  rintro e w1 ⟨rfl, hb, hw⟩
  have HB1 : Hid (Lib.IsBuilderF 74 5 w.heap.size w.heap.size (Lib.byteCells (weekS k)) w1) := hb
  have HW1 : Hid (Below w.heap.size w w1) := hw
  clear hb hw HB0 HW0
  clear hcw hgw
  go_wp2_with fail
  refine (wr_step w.heap.size _ _ w _ HB1.out HW1.out (Nat.le_refl _) (by simp only [LW.out]; omega) (by decide)).mono ?_
  rintro e w2 ⟨rfl, hb, hw⟩
  have HB2 : Hid (Lib.IsBuilderF 74 5 w.heap.size w.heap.size (Lib.byteCells (weekS k ++ [44, 32])) w2) := hb
  have HW2 : Hid (Below w.heap.size w w2) := hw
  clear hb hw HB1 HW1
  go_wp2_with fail
  refine (digits2_any _ (by omega) (by omega) _).mono ?_
  rintro e w2 ⟨rfl, rfl⟩
  go_wp2_with fail
  refine (wr_step w.heap.size _ _ w _ HB2.out HW2.out (Nat.le_refl _) (by simp only [LW.out, List.length_append, List.length_cons, List.length_nil]; omega) (by exact Nat.le_of_ble_eq_true rfl)).mono ?_
  rintro e w3 ⟨rfl, hb, hw⟩
  have HB3 : Hid (Lib.IsBuilderF 74 5 w.heap.size w.heap.size (Lib.byteCells (weekS k ++ [44, 32] ++ dig2 d.toNat)) w3) := hb
  have HW3 : Hid (Below w.heap.size w w3) := hw
  clear hb hw HB2 HW2
  go_wp2_with fail
  refine (wr_step w.heap.size _ _ w _ HB3.out HW3.out (Nat.le_refl _) (by simp only [LW.out, dig2_len, List.length_append, List.length_cons, List.length_nil]; omega) (by decide)).mono ?_
  rintro e w4 ⟨rfl, hb, hw⟩
  have HB4 : Hid (Lib.IsBuilderF 74 5 w.heap.size w.heap.size (Lib.byteCells (weekS k ++ [44, 32] ++ dig2 d.toNat ++ [32])) w4) := hb
  have HW4 : Hid (Below w.heap.size w w4) := hw
  clear hb hw HB3 HW3
  have hcm := (HT.out.below HW4.out).month j hj12
  go_wp2_with fail
  refine (wr_step w.heap.size _ _ w _ HB4.out HW4.out (Nat.le_refl _) (by simp only [LW.out, dig2_len, List.length_append, List.length_cons, List.length_nil]; omega) (by rw [← size_list]; show (monthS j).length ≤ _; rw [LM.out]; omega)).mono ?_
  rintro e w5 ⟨rfl, hb, hw⟩
  have HB5 : Hid (Lib.IsBuilderF 74 5 w.heap.size w.heap.size (Lib.byteCells (weekS k ++ [44, 32] ++ dig2 d.toNat ++ [32] ++ monthS j)) w5) := hb
  have HW5 : Hid (Below w.heap.size w w5) := hw
  clear hb hw HB4 HW4
  clear hcm
  go_wp2_with fail
  refine (wr_step w.heap.size _ _ w _ HB5.out HW5.out (Nat.le_refl _) (by simp only [LW.out, LM.out, dig2_len, List.length_append, List.length_cons, List.length_nil]; omega) (by decide)).mono ?_
  rintro e w6 ⟨rfl, hb, hw⟩
  have HB6 : Hid (Lib.IsBuilderF 74 5 w.heap.size w.heap.size (Lib.byteCells (weekS k ++ [44, 32] ++ dig2 d.toNat ++ [32] ++ monthS j ++ [32])) w6) := hb
  have HW6 : Hid (Below w.heap.size w w6) := hw
  clear hb hw HB5 HW5
  go_wp2_with fail
  refine (digits4_any _ (by omega) (by omega) _ (HT.out.below HW6.out)).mono ?_
  rintro e w6a ⟨rfl, hb⟩
  have HB6a : Hid (Lib.IsBuilderF 74 5 w.heap.size w.heap.size (Lib.byteCells (weekS k ++ [44, 32] ++ dig2 d.toNat ++ [32] ++ monthS j ++ [32])) w6a) := bu_below HB6.out hb
  have HW6a : Hid (Below w.heap.size w w6a) := HW6.out.trans (hb.mono HW6.out.size)
  clear hb HB6 HW6
  have HB6 := HB6a
  have HW6 := HW6a
  clear HB6a HW6a
  go_wp2_with fail
  refine (wr_step w.heap.size _ _ w _ HB6.out HW6.out (Nat.le_refl _) (by simp only [LW.out, LM.out, dig2_len, List.length_append, List.length_cons, List.length_nil]; omega) (by exact Nat.le_of_ble_eq_true rfl)).mono ?_
  rintro e w7 ⟨rfl, hb, hw⟩
  have HB7 : Hid (Lib.IsBuilderF 74 5 w.heap.size w.heap.size (Lib.byteCells (weekS k ++ [44, 32] ++ dig2 d.toNat ++ [32] ++ monthS j ++ [32] ++ dig4 y.toNat)) w7) := hb
  have HW7 : Hid (Below w.heap.size w w7) := hw
  clear hb hw HB6 HW6
  go_wp2_with fail
  refine (wr_step w.heap.size _ _ w _ HB7.out HW7.out (Nat.le_refl _) (by simp only [LW.out, LM.out, dig2_len, dig4_len, List.length_append, List.length_cons, List.length_nil]; omega) (by decide)).mono ?_
  rintro e w8 ⟨rfl, hb, hw⟩
  have HB8 : Hid (Lib.IsBuilderF 74 5 w.heap.size w.heap.size (Lib.byteCells (weekS k ++ [44, 32] ++ dig2 d.toNat ++ [32] ++ monthS j ++ [32] ++ dig4 y.toNat ++ [32])) w8) := hb
  have HW8 : Hid (Below w.heap.size w w8) := hw
  clear hb hw HB7 HW7
  go_wp2_with fail
  refine (digits2_any _ (by omega) (by omega) _).mono ?_
  rintro e w8 ⟨rfl, rfl⟩
  go_wp2_with fail
  refine (wr_step w.heap.size _ _ w _ HB8.out HW8.out (Nat.le_refl _) (by simp only [LW.out, LM.out, dig2_len, dig4_len, List.length_append, List.length_cons, List.length_nil]; omega) (by exact Nat.le_of_ble_eq_true rfl)).mono ?_
  rintro e w9 ⟨rfl, hb, hw⟩
  have HB9 : Hid (Lib.IsBuilderF 74 5 w.heap.size w.heap.size (Lib.byteCells (weekS k ++ [44, 32] ++ dig2 d.toNat ++ [32] ++ monthS j ++ [32] ++ dig4 y.toNat ++ [32] ++ dig2 (n % 86400 / 3600).toNat)) w9) := hb
  have HW9 : Hid (Below w.heap.size w w9) := hw
  clear hb hw HB8 HW8
  go_wp2_with fail
  refine (wr_step w.heap.size _ _ w _ HB9.out HW9.out (Nat.le_refl _) (by simp only [LW.out, LM.out, dig2_len, dig4_len, List.length_append, List.length_cons, List.length_nil]; omega) (by decide)).mono ?_
  rintro e w10 ⟨rfl, hb, hw⟩
  have HB10 : Hid (Lib.IsBuilderF 74 5 w.heap.size w.heap.size (Lib.byteCells (weekS k ++ [44, 32] ++ dig2 d.toNat ++ [32] ++ monthS j ++ [32] ++ dig4 y.toNat ++ [32] ++ dig2 (n % 86400 / 3600).toNat ++ [58])) w10) := hb
  have HW10 : Hid (Below w.heap.size w w10) := hw
  clear hb hw HB9 HW9
  go_wp2_with fail
  refine (digits2_any _ (by omega) (by omega) _).mono ?_
  rintro e w10 ⟨rfl, rfl⟩
  go_wp2_with fail
  refine (wr_step w.heap.size _ _ w _ HB10.out HW10.out (Nat.le_refl _) (by simp only [LW.out, LM.out, dig2_len, dig4_len, List.length_append, List.length_cons, List.length_nil]; omega) (by exact Nat.le_of_ble_eq_true rfl)).mono ?_
  rintro e w11 ⟨rfl, hb, hw⟩
  have HB11 : Hid (Lib.IsBuilderF 74 5 w.heap.size w.heap.size (Lib.byteCells (weekS k ++ [44, 32] ++ dig2 d.toNat ++ [32] ++ monthS j ++ [32] ++ dig4 y.toNat ++ [32] ++ dig2 (n % 86400 / 3600).toNat ++ [58] ++ dig2 (n % 3600 / 60).toNat)) w11) := hb
  have HW11 : Hid (Below w.heap.size w w11) := hw
  clear hb hw HB10 HW10
  go_wp2_with fail
  refine (wr_step w.heap.size _ _ w _ HB11.out HW11.out (Nat.le_refl _) (by simp only [LW.out, LM.out, dig2_len, dig4_len, List.length_append, List.length_cons, List.length_nil]; omega) (by decide)).mono ?_
  rintro e w12 ⟨rfl, hb, hw⟩
  have HB12 : Hid (Lib.IsBuilderF 74 5 w.heap.size w.heap.size (Lib.byteCells (weekS k ++ [44, 32] ++ dig2 d.toNat ++ [32] ++ monthS j ++ [32] ++ dig4 y.toNat ++ [32] ++ dig2 (n % 86400 / 3600).toNat ++ [58] ++ dig2 (n % 3600 / 60).toNat ++ [58])) w12) := hb
  have HW12 : Hid (Below w.heap.size w w12) := hw
  clear hb hw HB11 HW11
  go_wp2_with fail
  refine (digits2_any _ (by omega) (by omega) _).mono ?_
  rintro e w12 ⟨rfl, rfl⟩
  go_wp2_with fail
  refine (wr_step w.heap.size _ _ w _ HB12.out HW12.out (Nat.le_refl _) (by simp only [LW.out, LM.out, dig2_len, dig4_len, List.length_append, List.length_cons, List.length_nil]; omega) (by exact Nat.le_of_ble_eq_true rfl)).mono ?_
  rintro e w13 ⟨rfl, hb, hw⟩
  have HB13 : Hid (Lib.IsBuilderF 74 5 w.heap.size w.heap.size (Lib.byteCells (weekS k ++ [44, 32] ++ dig2 d.toNat ++ [32] ++ monthS j ++ [32] ++ dig4 y.toNat ++ [32] ++ dig2 (n % 86400 / 3600).toNat ++ [58] ++ dig2 (n % 3600 / 60).toNat ++ [58] ++ dig2 (n % 60).toNat)) w13) := hb
  have HW13 : Hid (Below w.heap.size w w13) := hw
  clear hb hw HB12 HW12
  go_wp2_with fail
  refine (wr_step w.heap.size _ _ w _ HB13.out HW13.out (Nat.le_refl _) (by simp only [LW.out, LM.out, dig2_len, dig4_len, List.length_append, List.length_cons, List.length_nil]; omega) (by decide)).mono ?_
  rintro e w14 ⟨rfl, hb, hw⟩
  have HB14 : Hid (Lib.IsBuilderF 74 5 w.heap.size w.heap.size (Lib.byteCells (weekS k ++ [44, 32] ++ dig2 d.toNat ++ [32] ++ monthS j ++ [32] ++ dig4 y.toNat ++ [32] ++ dig2 (n % 86400 / 3600).toNat ++ [58] ++ dig2 (n % 3600 / 60).toNat ++ [58] ++ dig2 (n % 60).toNat ++ [32, 71, 77, 84])) w14) := hb
  have HW14 : Hid (Below w.heap.size w w14) := hw
  clear hb hw HB13 HW13
  go_wp2_with fail
  refine (Tryz.Builder_String_any_f w.heap.size w.heap.size _ _ HB14.out HW14.out.size).mono ?_
  rintro e wz ⟨rfl, hz⟩
  have HZ : Hid (Below w.heap.size w wz) := HW14.out.trans hz.2
  clear hz
  go_wp2_with fail
  go_ret2
  exact ⟨y, m, d, ret_se (by rw [HX.out]; simp) rfl, HV.out, HN.out, HZ.out⟩
end Go.Proofs.YtigbjhkkbgdkcacGreatDoor

/-
  What Days of package date computes, a contract over the program's text.
-/
namespace Go.Proofs.YtigbjhkkbgdkcacGreatDoor
open Go.RowKit

set_option maxHeartbeats 1000000 in
theorem days_yes (y m d : Int) (w : World) (h : vldB y m d = true) :
    Calls Tryz.prog 97 #[.int .i64 y, .int .i64 m, .int .i64 d] w fun e w' => e = .returned (.tuple #[.int .i64 (num y m d), .int .i64 0]) ∧ w' = w := by
  obtain ⟨a1, a2, a3, a4, a5, a6⟩ := vld_iff.1 h
  have hdl := dim_lo y m
  have hbd := dby_bd y a1 (by omega)
  have HN : Hid (num y m d = dby y + cum y m + d - 1) := rfl
  clear h
  go_enter Tryz.func97, Tryz.ntmps97
  go_wp2_with fail
  refine (dim_any _ _ _ a1 (by omega) a3 a4).mono ?_
  rintro e w' ⟨rfl, rfl⟩
  go_wp2_with fail
  refine (dby_any _ _ a1 (by omega)).mono ?_
  rintro e w' ⟨rfl, rfl⟩
  go_wp2_with fail
  go_loop [8, 9] (fun r k => ∃ j : Int, 1 ≤ j ∧ j ≤ m ∧ k = .int .i64 j ∧ r = .int .i64 (dby y + cum y j)) (fun _ k => (12 - intOf k).toNat)
  case atStart => exact ⟨1, by omega, by omega, rfl, by rw [cum_one, Int.add_zero]⟩
  case round =>
    obtain ⟨j, hj1, hj2, rfl, rfl⟩ := hrel
    have cb := cum_bd y j
    have db := dim_lo y j
    have CS : Hid (cum y (j + 1) = cum y j + dim y j) := cum_succ y j hj1 (by omega)
    by_cases hlt : j < m
    · go_wp2_with fail
      refine (dim_any _ _ _ a1 (by omega) hj1 (by omega)).mono ?_
      rintro e w' ⟨rfl, rfl⟩
      go_wp2_with fail
      go_round
      case rel => exact ⟨j + 1, by omega, by omega, rfl, by rw [CS.out, Int.add_assoc]⟩
      case measure => simp [intOf]; omega
    · obtain rfl : j = m := by omega
      go_wp2_with fail
      go_ret2
      exact ⟨ret_ie (by rw [HN.out]) rfl, rfl⟩

set_option maxHeartbeats 1000000 in
theorem days_no (y m d : Int) (w : World) (h : vldB y m d = false) :
    Calls Tryz.prog 97 #[.int .i64 y, .int .i64 m, .int .i64 d] w fun e w' => e = .returned (.tuple #[.int .i64 0, .int .i64 1]) ∧ w' = w := by
  have hn : ¬ (1970 ≤ y ∧ y ≤ 9999 ∧ 1 ≤ m ∧ m ≤ 12 ∧ 1 ≤ d ∧ d ≤ dim y m) := fun g => by rw [vld_mk g] at h; cases h
  clear h
  by_cases b1 : y < 1970
  · clear hn
    go_enter Tryz.func97, Tryz.ntmps97
    go_wp2_with fail
    go_ret2
    exact ⟨rfl, rfl⟩
  by_cases b2 : 9999 < y
  · clear hn
    go_enter Tryz.func97, Tryz.ntmps97
    go_wp2_with fail
    go_ret2
    exact ⟨rfl, rfl⟩
  by_cases b3 : m < 1
  · clear hn
    go_enter Tryz.func97, Tryz.ntmps97
    go_wp2_with fail
    go_ret2
    exact ⟨rfl, rfl⟩
  by_cases b4 : 12 < m
  · clear hn
    go_enter Tryz.func97, Tryz.ntmps97
    go_wp2_with fail
    go_ret2
    exact ⟨rfl, rfl⟩
  by_cases b5 : d < 1
  · clear hn
    go_enter Tryz.func97, Tryz.ntmps97
    go_wp2_with fail
    go_ret2
    exact ⟨rfl, rfl⟩
  have b6 : dim y m < d := by omega
  clear hn
  go_enter Tryz.func97, Tryz.ntmps97
  go_wp2_with fail
  refine (dim_any _ _ _ (by omega) (by omega) (by omega) (by omega)).mono ?_
  rintro e w' ⟨rfl, rfl⟩
  go_wp2_with fail
  go_ret2
  exact ⟨rfl, rfl⟩
end Go.Proofs.YtigbjhkkbgdkcacGreatDoor

/-
  What number and monthNumber of package date compute, each a contract over the program's text; the tables that they read hold what the program's text lays there.
-/
namespace Go.Proofs.YtigbjhkkbgdkcacGreatDoor
open Go.RowKit

theorem ret_ib {a b : Int} {c d : Bool} (h : a = b) (h' : c = d) : Ending.returned (.tuple #[.int .i64 a, .bool c]) = .returned (.tuple #[.int .i64 b, .bool d]) := by rw [h, h']
theorem ret_i {a b : Int} (h : a = b) : Ending.returned (.int .i64 a) = .returned (.int .i64 b) := by rw [h]

theorem numb_bd (l : List UInt8) : ∀ k : Nat, k ≤ 4 → l.length = k → -53328 ≤ numb l ∧ numb l ≤ 229977 := by
  intro k hk hl
  match l, hl with
  | [], _ => exact ⟨by decide, by decide⟩
  | [a], _ =>
    have := a.toNat_lt
    show -53328 ≤ 0 * 10 + (a.toNat : Int) - 48 ∧ 0 * 10 + (a.toNat : Int) - 48 ≤ 229977
    omega
  | [a, b], _ => have := numb_bd2 (l := [a, b]) rfl; omega
  | [a, b, c], _ =>
    have := a.toNat_lt; have := b.toNat_lt; have := c.toNat_lt
    show -53328 ≤ ((0 * 10 + (a.toNat : Int) - 48) * 10 + (b.toNat : Int) - 48) * 10 + (c.toNat : Int) - 48 ∧ ((0 * 10 + (a.toNat : Int) - 48) * 10 + (b.toNat : Int) - 48) * 10 + (c.toNat : Int) - 48 ≤ 229977
    omega
  | [a, b, c, d], _ => exact numb_bd4 (l := [a, b, c, d]) rfl
  | _ :: _ :: _ :: _ :: _ :: _, h => simp at h; omega

set_option maxHeartbeats 1000000 in
theorem number_any (s : ByteArray) (w : World) (hs : s.size ≤ 4) :
    Calls Tryz.prog 98 #[.string s] w fun e w' => e = .returned (.int .i64 (numb s.data.toList)) ∧ w' = w := by
  go_enter Tryz.func98, Tryz.ntmps98
  go_wp2_with fail
  go_loop [3, 7] (fun n i => ∃ k : Nat, k ≤ s.size ∧ i = .int .i64 k ∧ n = .int .i64 (numb (s.data.toList.take k))) (fun _ i => s.size - (intOf i).toNat)
  case atStart => exact ⟨0, Nat.zero_le _, rfl, rfl⟩
  case round =>
    obtain ⟨k, hk, rfl, rfl⟩ := hrel
    have hl : (s.data.toList.take k).length = k := by rw [List.length_take, size_list]; omega
    have hb := numb_bd (s.data.toList.take k) k (by omega) hl
    clear hl
    by_cases hlt : k < s.size
    · have HS : Hid (numb (s.data.toList.take (k + 1)) = numb (s.data.toList.take k) * 10 + (s[k].toNat : Int) - 48) := by
        show numb _ = _
        rw [take_snoc s k hlt, numb_snoc]
      have hc := s[k].toNat_lt
      go_wp2_with fail
      go_round
      case rel => exact ⟨k + 1, by omega, by go_num, by rw [HS.out]⟩
      case measure => simp [intOf]; omega
    · obtain rfl : k = s.size := by omega
      go_wp2_with fail
      go_ret
      exact ⟨ret_i (by rw [take_all]), rfl⟩

set_option maxRecDepth 100000 in
theorem month_idx (k : Nat) (h : k < 12) (w : World) : Sem.run Tryz.prog (Instr.index 81 (.agg #[.string ⟨(monthS 0).toArray⟩, .string ⟨(monthS 1).toArray⟩, .string ⟨(monthS 2).toArray⟩, .string ⟨(monthS 3).toArray⟩, .string ⟨(monthS 4).toArray⟩, .string ⟨(monthS 5).toArray⟩, .string ⟨(monthS 6).toArray⟩, .string ⟨(monthS 7).toArray⟩, .string ⟨(monthS 8).toArray⟩, .string ⟨(monthS 9).toArray⟩, .string ⟨(monthS 10).toArray⟩, .string ⟨(monthS 11).toArray⟩]) (.int .i64 (k : Int))) w = .ok (.string ⟨(monthS k).toArray⟩) w := by
  have e := Tryz.underlying81
  rcases (show k = 0 ∨ k = 1 ∨ k = 2 ∨ k = 3 ∨ k = 4 ∨ k = 5 ∨ k = 6 ∨ k = 7 ∨ k = 8 ∨ k = 9 ∨ k = 10 ∨ k = 11 by omega) with rfl | rfl | rfl | rfl | rfl | rfl | rfl | rfl | rfl | rfl | rfl | rfl <;> simp [Instr.index, run_underlying e, asIntOf, go_sem]

set_option maxHeartbeats 2000000 in
set_option maxRecDepth 100000 in
theorem month_any (s : ByteArray) (w : World) (ht : DTabs w) :
    Calls Tryz.prog 99 #[.string s] w fun e w' => e = .returned (.int .i64 (mnum s.data.toList)) ∧ w' = w := by
  have h0 := ht.month 0 (by omega)
  have h1 := ht.month 1 (by omega)
  have h2 := ht.month 2 (by omega)
  have h3 := ht.month 3 (by omega)
  have h4 := ht.month 4 (by omega)
  have h5 := ht.month 5 (by omega)
  have h6 := ht.month 6 (by omega)
  have h7 := ht.month 7 (by omega)
  have h8 := ht.month 8 (by omega)
  have h9 := ht.month 9 (by omega)
  have h10 := ht.month 10 (by omega)
  have h11 := ht.month 11 (by omega)
  clear ht
  go_enter Tryz.func99, Tryz.ntmps99
  go_wp2_with fail
  go_loop [6] (fun i => ∃ k : Nat, k ≤ 12 ∧ i = .int .i64 k ∧ mnum s.data.toList = mnumAt s.data.toList k) (fun i => 12 - (intOf i).toNat)
  case atStart => exact ⟨0, by omega, rfl, rfl⟩
  case round =>
    obtain ⟨k, hk, rfl, hm⟩ := hrel
    have HM : Hid (mnum s.data.toList = mnumAt s.data.toList k) := hm
    clear hm
    by_cases hlt : k < 12
    · clear h0 h1 h2 h3 h4 h5 h6 h7 h8 h9 h10 h11
      have hi := month_idx k hlt w
      obtain ⟨a, ha⟩ : ∃ a : ByteArray, a = ⟨(monthS k).toArray⟩ := ⟨_, rfl⟩
      rw [← ha] at hi
      have HA : Hid (a.data.toList = monthS k) := by show a.data.toList = _; rw [ha]
      clear ha
      by_cases he : a = s
      · subst he
        go_wp2_with fail
        go_ret
        exact ⟨ret_i (by rw [HM.out, mnum_hit _ k hlt HA.out.symm]), rfl⟩
      · have HE : Hid (monthS k ≠ s.data.toList) := fun h => he (ByteArray.ext (Array.toList_inj.1 (HA.out.trans h)))
        have hq : (a.toList == s.toList) = false := by
          rw [ByteArray.toList_eq, ByteArray.toList_eq, beq_eq_false_iff_ne]
          exact fun h => he (ByteArray.ext (Array.toList_inj.1 h))
        clear he
        go_wp2_with fail
        go_round
        case rel => exact ⟨k + 1, by omega, by go_num, by rw [HM.out, mnum_miss _ k hlt HE.out]⟩
        case measure => simp [intOf]; omega
    · obtain rfl : k = 12 := by omega
      go_wp2_with fail
      go_ret
      exact ⟨ret_i (by rw [HM.out, mnum_end]), rfl⟩

theorem ext_list (s : ByteArray) (i j : Nat) : (s.extract i j).data.toList = sl s.data.toList i j := by
  rw [ByteArray.data_extract, Array.toList_extract]
  rfl

set_option maxHeartbeats 2000000 in
set_option maxRecDepth 100000 in
theorem guess_short (s : ByteArray) (w : World) (hs : s.size ≠ 29) :
    Calls Tryz.prog 81 #[.string s] w fun e w' => e = .returned (.tuple #[.int .i64 0, .bool false]) ∧ w' = w := by
  have hn : ((s.size : Int) == 29) = false := by rw [beq_eq_false_iff_ne]; omega
  clear hs
  go_enter Tryz.func81, Tryz.ntmps81
  go_wp2_with fail
  go_ret2
  exact ⟨rfl, rfl⟩

theorem num_at (s : ByteArray) (i j : Nat) (w : World) (h : j - i ≤ 4) :
    Calls Tryz.prog 98 #[.string (s.extract i j)] w fun e w' => e = .returned (.int .i64 (numb (sl s.data.toList i j))) ∧ w' = w := by
  have hz : (s.extract i j).size ≤ 4 := by rw [ByteArray.size_extract]; omega
  have c := number_any (s.extract i j) w hz
  rw [ext_list] at c
  exact c
theorem mon_at (s : ByteArray) (i j : Nat) (w : World) (ht : DTabs w) :
    Calls Tryz.prog 99 #[.string (s.extract i j)] w fun e w' => e = .returned (.int .i64 (mnum (sl s.data.toList i j))) ∧ w' = w := by
  have c := month_any (s.extract i j) w ht
  rw [ext_list] at c
  exact c

set_option maxHeartbeats 1000000 in
set_option maxRecDepth 100000 in
theorem guess_no (s : ByteArray) (w : World) (hs : s.size = 29) (ht : DTabs w) (hv : vldB (gY s.data.toList) (gM s.data.toList) (gD s.data.toList) = false) :
    Calls Tryz.prog 81 #[.string s] w fun e w' => e = .returned (.tuple #[.int .i64 0, .bool false]) ∧ ∃ k, w' = w.drewN k := by
  have HT : Hid (DTabs w) := ht
  have HV : Hid (vldB (numb (sl s.data.toList 12 16)) (mnum (sl s.data.toList 8 11)) (numb (sl s.data.toList 5 7)) = false) := hv
  clear hv ht
  go_enter Tryz.func81, Tryz.ntmps81
  go_wp2_with fail
  go_quiet (first | (go_at_call 98; exact Calls.quiet_of_same (num_at _ _ _ _ (by decide))) | (go_at_call 99; exact Calls.quiet_of_same (mon_at _ _ _ _ (HT.out.below (drewN_belowD _ _ _)))) | (go_at_call 97; exact Calls.quiet_of_same (days_no _ _ _ _ HV.out)))
  go_wp2_with fail
  go_ret2
  exact ⟨rfl, _, rfl⟩

set_option maxHeartbeats 1000000 in
set_option maxRecDepth 100000 in
theorem guess_yes (s : ByteArray) (w : World) (hs : s.size = 29) (ht : DTabs w) (hv : vldB (gY s.data.toList) (gM s.data.toList) (gD s.data.toList) = true) :
    Calls Tryz.prog 81 #[.string s] w fun e w' => e = .returned (.tuple #[.int .i64 (gss s.data.toList), .bool true]) ∧ ∃ k, w' = w.drewN k := by
  have HT : Hid (DTabs w) := ht
  have hb : 0 ≤ num (numb (sl s.data.toList 12 16)) (mnum (sl s.data.toList 8 11)) (numb (sl s.data.toList 5 7)) ∧ num (numb (sl s.data.toList 12 16)) (mnum (sl s.data.toList 8 11)) (numb (sl s.data.toList 5 7)) ≤ 2932896 := num_bd hv
  have hl : s.data.toList.length = 29 := by rw [size_list]; exact hs
  have b1 := numb_bd2 (sl_len _ 17 19 hl (by decide) (by decide))
  have b2 := numb_bd2 (sl_len _ 20 22 hl (by decide) (by decide))
  have b3 := numb_bd2 (sl_len _ 23 25 hl (by decide) (by decide))
  have HG : Hid (gss s.data.toList = num (numb (sl s.data.toList 12 16)) (mnum (sl s.data.toList 8 11)) (numb (sl s.data.toList 5 7)) * 86400 + (numb (sl s.data.toList 17 19) * 3600 + numb (sl s.data.toList 20 22) * 60 + numb (sl s.data.toList 23 25))) := rfl
  have HV : Hid (vldB (numb (sl s.data.toList 12 16)) (mnum (sl s.data.toList 8 11)) (numb (sl s.data.toList 5 7)) = true) := hv
  clear hv ht hl
  go_enter Tryz.func81, Tryz.ntmps81
  go_wp2_with fail
  go_quiet (first | (go_at_call 98; exact Calls.quiet_of_same (num_at _ _ _ _ (by decide))) | (go_at_call 99; exact Calls.quiet_of_same (mon_at _ _ _ _ (HT.out.below (drewN_belowD _ _ _)))) | (go_at_call 97; exact Calls.quiet_of_same (days_yes _ _ _ _ HV.out)))
  generalize hq : w.drewN _ = wq
  have HQ : Hid (∃ n, wq = w.drewN n) := ⟨_, hq.symm⟩
  clear hq
  go_wp2_with fail
  go_quiet (first | (go_at_call 98; exact Calls.quiet_of_same (num_at _ _ _ _ (by decide))))
  go_wp2_with fail
  go_ret2
  obtain ⟨n, hn⟩ := HQ.out
  exact ⟨ret_ib HG.out.symm rfl, _, by rw [hn, World.drewN_drewN]⟩
end Go.Proofs.YtigbjhkkbgdkcacGreatDoor
