/-
  Which bytes of a body these are, as a text, and a text of several of them; no program is named here.
-/
import Derived.Test.YtkmbhgbmdeoppacDoorMa
import Derived.BigQuiet
import Derived.Deep.QuietTactic
import Derived.Below
import Derived.Test.YtkmbhgbmdeoppacDoorRows
import Derived.Lib.LaidTab
import Derived.Lib.ItoaNum
import Derived.Test.YtkmbhgbmdeoppacDoorShelf
import Derived.Lib.LaidU8
import Derived.MakeChecks
import Derived.Lib.SplitLaws
import Derived.Lib.Join
import Derived.Lib.Strings
import Derived.Shelf.Strings.Cut
import Derived.Handy
import Derived.Deep.SlicePairs
namespace Go.Proofs.YtkmbhgbmdeoppacDoor
open Go.RowKit

/-- A slice of a body of so many bytes. -/
def okC (x : Wn) (size : Int) : Bool := decide (0 ≤ x.1 ∧ x.1 < x.2 ∧ x.2 ≤ size ∧ size ≤ 99999)
def ctB (x : Wn) (size : Int) : List UInt8 := [98, 121, 116, 101, 115, 32] ++ (Lib.decDigits x.1.toNat ++ 45 :: (Lib.decDigits (x.2 - 1).toNat ++ 47 :: Lib.decDigits size.toNat))
def prC (x : Wn) (size : Int) : List UInt8 × Int := if okC x size = true then (ctB x size, 0) else ([], 1)
theorem okC_is {x : Wn} {size : Int} (h : okC x size = true) : 0 ≤ x.1 ∧ x.1 < x.2 ∧ x.2 ≤ size ∧ size ≤ 99999 := by
  unfold okC at h; simpa using h
theorem okC_of {x : Wn} {size : Int} (h : 0 ≤ x.1 ∧ x.1 < x.2 ∧ x.2 ≤ size ∧ size ≤ 99999) : okC x size = true := by
  unfold okC; simpa using h
theorem prC_ok {x : Wn} {size : Int} (h : okC x size = true) : prC x size = (ctB x size, 0) := by unfold prC; rw [if_pos h]
theorem prC_bad {x : Wn} {size : Int} (h : okC x size = false) : prC x size = ([], 1) := by unfold prC; rw [if_neg (by rw [h]; simp)]
theorem dec_no (u : Nat) (d : UInt8) (hd : isDig d = false) : ∀ b ∈ Lib.decDigits u, b ≠ d := by
  intro b hb e
  subst e
  have := List.all_eq_true.1 (dec_all u) b hb
  rw [hd] at this; cases this
theorem ctB_len {x : Wn} {size : Int} (h : okC x size = true) : (ctB x size).length ≤ 23 := by
  obtain ⟨h1, h2, h3, h4⟩ := okC_is h
  have a := dec_len5 x.1.toNat (by omega)
  have b := dec_len5 (x.2 - 1).toNat (by omega)
  have c := dec_len5 size.toNat (by omega)
  unfold ctB
  simp only [List.length_append, List.length_cons, List.length_nil]; omega
/-- One such text, read as the document's answer reads it. -/
def paX (s : List UInt8) : Wn := (cnt ((s.take (Lib.index s [45]).toNat).drop 6) 99999, cnt ((s.take (Lib.index s [47]).toNat).drop ((Lib.index s [45]).toNat + 1)) 99999 + 1)
def paN (s : List UInt8) : Int := cnt (s.drop ((Lib.index s [47]).toNat + 1)) 99999
def paC (s : List UInt8) : (Wn × Int) × Int :=
  if Lib.index s [45] < 6 ∨ Lib.index s [47] < Lib.index s [45] then (((0, 0), 0), 3)
  else if okC (paX s) (paN s) = true ∧ ctB (paX s) (paN s) = s then ((paX s, paN s), 0) else (((0, 0), 0), 3)
theorem ctB_i45 (x : Wn) (size : Int) : Lib.index (ctB x size) [45] = 6 + ((Lib.decDigits x.1.toNat).length : Int) := by
  have e : ctB x size = ([98, 121, 116, 101, 115, 32] ++ Lib.decDigits x.1.toNat) ++ 45 :: (Lib.decDigits (x.2 - 1).toNat ++ 47 :: Lib.decDigits size.toNat) := by unfold ctB; simp
  rw [e, index_byte_at 45 _ _ ?_]
  · simp; omega
  · intro b hb
    rcases List.mem_append.1 hb with hb | hb
    · have : ∀ b ∈ ([98, 121, 116, 101, 115, 32] : List UInt8), b ≠ 45 := by decide
      exact this b hb
    · exact dec_no _ 45 (by decide) b hb
theorem ctB_i47 (x : Wn) (size : Int) : Lib.index (ctB x size) [47] = 7 + ((Lib.decDigits x.1.toNat).length : Int) + ((Lib.decDigits (x.2 - 1).toNat).length : Int) := by
  have e : ctB x size = ([98, 121, 116, 101, 115, 32] ++ Lib.decDigits x.1.toNat ++ 45 :: Lib.decDigits (x.2 - 1).toNat) ++ 47 :: Lib.decDigits size.toNat := by unfold ctB; simp
  rw [e, index_byte_at 47 _ _ ?_]
  · simp; omega
  · intro b hb
    rcases List.mem_append.1 hb with hb | hb
    · rcases List.mem_append.1 hb with hb | hb
      · have : ∀ b ∈ ([98, 121, 116, 101, 115, 32] : List UInt8), b ≠ 47 := by decide
        exact this b hb
      · exact dec_no _ 47 (by decide) b hb
    · rcases List.mem_cons.1 hb with rfl | hb
      · decide
      · exact dec_no _ 47 (by decide) b hb
theorem paX_back {x : Wn} {size : Int} (h : okC x size = true) : paX (ctB x size) = x ∧ paN (ctB x size) = size := by
  obtain ⟨h1, h2, h3, h4⟩ := okC_is h
  generalize hA : Lib.decDigits x.1.toNat = A at *
  generalize hB : Lib.decDigits (x.2 - 1).toNat = B at *
  generalize hC : Lib.decDigits size.toNat = C at *
  have i1 := ctB_i45 x size
  have i2 := ctB_i47 x size
  rw [hA] at i1
  rw [hA, hB] at i2
  have e : ctB x size = [98, 121, 116, 101, 115, 32] ++ (A ++ 45 :: (B ++ 47 :: C)) := by unfold ctB; rw [hA, hB, hC]
  have t1 : (Lib.index (ctB x size) [45]).toNat = 6 + A.length := by omega
  have t2 : (Lib.index (ctB x size) [47]).toNat = 7 + A.length + B.length := by omega
  have p1 : ((ctB x size).take (6 + A.length)).drop 6 = A := by
    rw [e]
    have : ([98, 121, 116, 101, 115, 32] ++ (A ++ 45 :: (B ++ 47 :: C)) : List UInt8).take (6 + A.length) = [98, 121, 116, 101, 115, 32] ++ A := by
      rw [← List.append_assoc]
      exact List.take_left' (by simp; omega)
    rw [this]; rfl
  have p2 : ((ctB x size).take (7 + A.length + B.length)).drop (6 + A.length + 1) = B := by
    rw [e]
    have : ([98, 121, 116, 101, 115, 32] ++ (A ++ 45 :: (B ++ 47 :: C)) : List UInt8) = ([98, 121, 116, 101, 115, 32] ++ (A ++ 45 :: B)) ++ 47 :: C := by simp
    rw [this, List.take_left' (by simp; omega)]
    have : ([98, 121, 116, 101, 115, 32] ++ (A ++ 45 :: B) : List UInt8) = ([98, 121, 116, 101, 115, 32] ++ (A ++ [45])) ++ B := by simp
    rw [this, List.drop_left' (by simp; omega)]
  have p3 : (ctB x size).drop (7 + A.length + B.length + 1) = C := by
    rw [e]
    have : ([98, 121, 116, 101, 115, 32] ++ (A ++ 45 :: (B ++ 47 :: C)) : List UInt8) = ([98, 121, 116, 101, 115, 32] ++ (A ++ 45 :: (B ++ [47]))) ++ C := by simp
    rw [this, List.drop_left' (by simp; omega)]
  unfold paX paN
  rw [t1, t2, p1, p2, p3, ← hA, ← hB, ← hC, cnt_dec5 _ (by omega), cnt_dec5 _ (by omega), cnt_dec5 _ (by omega)]
  refine ⟨Prod.ext (by simp only; omega) (by simp only; omega), by omega⟩
theorem paC_back {x : Wn} {size : Int} (h : okC x size = true) : paC (ctB x size) = ((x, size), 0) := by
  obtain ⟨e1, e2⟩ := paX_back h
  unfold paC
  rw [if_neg (by rw [ctB_i45, ctB_i47]; omega), e1, e2, if_pos ⟨h, rfl⟩]
theorem paC_ok {s : List UInt8} {x : Wn} {size : Int} (h : paC s = ((x, size), 0)) : okC x size = true ∧ ctB x size = s := by
  unfold paC at h
  split at h
  · cases (Prod.mk.inj h).2
  · split at h
    · rename_i h2
      obtain ⟨h3, _⟩ := Prod.mk.inj h
      obtain ⟨rfl, rfl⟩ := Prod.mk.inj h3
      exact h2
    · cases (Prod.mk.inj h).2
theorem paC_two (s : List UInt8) : (∃ x size, paC s = ((x, size), 0)) ∨ paC s = (((0, 0), 0), 3) := by
  unfold paC
  split
  · exact .inr rfl
  · split
    · exact .inl ⟨_, _, rfl⟩
    · exact .inr rfl
theorem paC_iff (s : List UInt8) (x : Wn) (size : Int) : paC s = ((x, size), 0) ↔ okC x size = true ∧ ctB x size = s :=
  ⟨paC_ok, fun ⟨h, e⟩ => by rw [← e]; exact paC_back h⟩
theorem paC_no {s : List UInt8} (h : ∀ x size, okC x size = true → ctB x size ≠ s) : paC s = (((0, 0), 0), 3) := by
  rcases paC_two s with ⟨x, size, h2⟩ | h2
  · obtain ⟨h3, h4⟩ := paC_ok h2
    exact absurd h4 (h x size h3)
  · exact h2
theorem paC_nil : paC [] = (((0, 0), 0), 3) := paC_no (fun x size _ h => by unfold ctB at h; simp at h)
theorem ctB_no (x : Wn) (size : Int) (d : UInt8) (hd : isDig d = false) (h1 : d ∉ ([98, 121, 116, 101, 115, 32, 45, 47] : List UInt8)) : ∀ b ∈ ctB x size, b ≠ d := by
  intro b hb e
  subst e
  unfold ctB at hb
  simp only [List.mem_append, List.mem_cons, List.not_mem_nil, or_false] at hb
  simp only [List.mem_cons, List.not_mem_nil, or_false, not_or] at h1
  rcases hb with hb | hb | hb | hb | hb | hb
  · rcases hb with hb | hb | hb | hb | hb | hb <;> simp_all
  · exact dec_no _ _ hd _ hb rfl
  · simp_all
  · exact dec_no _ _ hd _ hb rfl
  · simp_all
  · exact dec_no _ _ hd _ hb rfl
end Go.Proofs.YtkmbhgbmdeoppacDoor

/-
  A region that draws its order, whose own operations only read and whose callees leave what lies below as it is: one walk, in a class of worlds; no program is named here.
-/
namespace Go.Proofs.YtkmbhgbmdeoppacDoor
open Go.RowKit

theorem region_in {P : Program} {T : Type} (G : T → World) {id : Nat} {Q : Exit → Act → World → Prop} {a : Act} {w : World} {l : List Oper} (hm : P.follows .mixedOrders = true) (hB : Region.lexB .any l.toArray = true)
    (h0 : ∃ x, w.drew = G x) (h : wpQuiet P l.toArray (fun W => ∃ x, W = G x) (fun a' => ∀ W, (∃ x, W = G x) → Q .normal a' W) l a) : (Code.region id l.toArray true).wp P Q a w :=
  wp_region_quiet (C := fun W => ∃ x, W = G x) hm hB h0 (by simpa using h)
/-- The worlds that have all that this one has. -/
theorem below_class (w : World) : ∃ (T : Type) (G : T → World) (x0 : T), w = G x0 ∧ Hid (∀ x, Below (G x0).heap.size (G x0) (G x)) ∧ Hid (∀ x W, Below (G x).heap.size (G x) W → ∃ y, W = G y) ∧ Hid (∀ x, ∃ y, (G x).drew = G y) := by
  refine ⟨{W : World // Below w.heap.size w W}, Subtype.val, ⟨w, Below.refl _ _⟩, rfl, fun x => x.2, fun x W h => ⟨⟨W, x.2.trans (h.mono x.2.size)⟩, rfl⟩, fun x => ⟨⟨x.1.drew, x.2.drew⟩, rfl⟩⟩
end Go.Proofs.YtkmbhgbmdeoppacDoor

/-
  What PrintContent of package span answers; the powers of ten of package strconv hold what their text lays.
-/
namespace Go.Proofs.YtkmbhgbmdeoppacDoor
open Go.RowKit

theorem prC_no {a b size : Int} {t : ByteArray} {c : Int} (h : prC (a, b) size = (t.data.toList, c)) (hn : ¬ (0 ≤ a ∧ a < b ∧ b ≤ size ∧ size ≤ 99999)) : t = ⟨#[]⟩ ∧ c = 1 := by
  have hf : okC (a, b) size = false := by
    cases ho : okC (a, b) size
    · rfl
    · exact absurd (okC_is ho) hn
  rw [prC_bad hf] at h
  obtain ⟨h1, h2⟩ := Prod.mk.inj h
  exact ⟨by apply ByteArray.ext; apply Array.ext'; exact h1.symm, h2.symm⟩
set_option maxHeartbeats 1000000 in
set_option maxRecDepth 100000 in
theorem scprint_yes (a b size : Int) (t : ByteArray) (ht : t.data.toList = ctB (a, b) size) (h1 : 0 ≤ a) (h2 : a < b) (h3 : b ≤ size) (h4 : size ≤ 99999) (w : World) (hT : PowT w) :
    Calls Tryd.prog 5 #[.agg #[.int .i64 a, .int .i64 b], .int .i64 size] w fun e w' => e = .returned (.tuple #[.string t, .int .i64 0]) ∧ Below w.heap.size w w' := by
  obtain ⟨x, hx⟩ : ∃ x : ByteArray, x.data.toList = Lib.decDigits a.toNat := ⟨⟨(Lib.decDigits a.toNat).toArray⟩, rfl⟩
  obtain ⟨y, hy⟩ : ∃ y : ByteArray, y.data.toList = Lib.decDigits (b - 1).toNat := ⟨⟨(Lib.decDigits (b - 1).toNat).toArray⟩, rfl⟩
  obtain ⟨z, hz⟩ : ∃ z : ByteArray, z.data.toList = Lib.decDigits size.toNat := ⟨⟨(Lib.decDigits size.toNat).toArray⟩, rfl⟩
  have hxs : x.size ≤ 5 := by rw [← size_list, hx]; exact dec_len5 _ (by omega)
  have hys : y.size ≤ 5 := by rw [← size_list, hy]; exact dec_len5 _ (by omega)
  have hzs : z.size ≤ 5 := by rw [← size_list, hz]; exact dec_len5 _ (by omega)
  have HTT : Hid ((⟨#[98, 121, 116, 101, 115, 32]⟩ : ByteArray) ++ x ++ ⟨#[45]⟩ ++ y ++ ⟨#[47]⟩ ++ z = t) := by
    show _ = _
    apply ByteArray.ext; apply Array.ext'
    rw [ht]
    unfold ctB
    simp [hx, hy, hz]
  have hp : ∀ W : World, Below w.heap.size w W → PowT W := fun W h => hT.below h
  have HA : Hid (∀ W : World, Below w.heap.size w W → Calls Tryd.prog 11 #[.int .i64 a] W fun e w' => e = .returned (.string x) ∧ Below W.heap.size W w') := fun W h => pitoa_at a x h1 (by omega) hx W (hp W h)
  have HB : Hid (∀ W : World, Below w.heap.size w W → Calls Tryd.prog 11 #[.int .i64 (b - 1)] W fun e w' => e = .returned (.string y) ∧ Below W.heap.size W w') := fun W h => pitoa_at (b - 1) y (by omega) (by omega) hy W (hp W h)
  have HC : Hid (∀ W : World, Below w.heap.size w W → Calls Tryd.prog 11 #[.int .i64 size] W fun e w' => e = .returned (.string z) ∧ Below W.heap.size W w') := fun W h => pitoa_at size z (by omega) (by omega) hz W (hp W h)
  have g1 : decide (a < 0) = false := decide_eq_false (by omega)
  have g2 : decide (a < b) = true := decide_eq_true h2
  have g3 : decide (b > size) = false := decide_eq_false (by omega)
  have g4 : decide (size > 99999) = false := decide_eq_false (by omega)
  obtain ⟨d, hd⟩ : ∃ d, b - 1 = d := ⟨_, rfl⟩
  rw [hd] at HB
  have e1 : IntKind.i64.wrap (b - 1) = d := by rw [IntKind.wrap_i64]; omega
  have HG2' : Hid (decide (a < b) = true) := g2
  clear h1 h2 h3 h4 hx hy hz hp hT ht hd
  have hw0 : Below w.heap.size w (w.alloc (.cells #[.int .i64 a, .int .i64 b] 23)) := below_alloc w _
  go_enter Tryd.func5, Tryd.ntmps5
  go_wp2_with fail
  refine (shas_is a b true HG2'.out _).mono ?_
  rintro e w1 ⟨rfl, hb1⟩
  obtain ⟨T, G, x0, hG, HG1, HG2, HG3⟩ := below_class w1
  haveI : Nonempty T := ⟨x0⟩
  subst hG
  have hall : ∀ x, (G x).cell? ⟨w.heap.size, 0, none⟩ = some (.int .i64 a) ∧ (G x).cell? ⟨w.heap.size, 1, none⟩ = some (.int .i64 b) ∧ Below w.heap.size w (G x) := by
    intro x
    have h1 := hb1.trans ((HG1.out x).mono hb1.size)
    exact ⟨new_cell h1 0, new_cell h1 1, below_new h1⟩
  have hc0 : ∀ x, (G x).cell? ⟨w.heap.size, 0, none⟩ = some (.int .i64 a) := fun x => (hall x).1
  have hc1 : ∀ x, (G x).cell? ⟨w.heap.size, 1, none⟩ = some (.int .i64 b) := fun x => (hall x).2.1
  have HBW : Hid (∀ x, Below w.heap.size w (G x)) := fun x => (hall x).2.2
  clear hall hb1
  go_wp2_with fail
  refine region_in G (by kernel_rfl) (by kernel_rfl) (HG3.out _) ?_
  repeat (go_big_quiet_step (first | (go_at_call 11; with_reducible first | exact (HA.out _ (HBW.out _)).mono fun e W h => ⟨h.1, HG2.out _ W h.2⟩ | exact (HB.out _ (HBW.out _)).mono fun e W h => ⟨h.1, HG2.out _ W h.2⟩ | exact (HC.out _ (HBW.out _)).mono fun e W h => ⟨h.1, HG2.out _ W h.2⟩)))
  refine wpQuiet_nil ?_
  rintro _ ⟨x1, rfl⟩
  go_wp2_with fail
  go_ret2
  refine ⟨?_, HBW.out _⟩
  rw [← HTT.out]
  rfl
set_option maxHeartbeats 1000000 in
set_option maxRecDepth 100000 in
theorem scprint_no (a b size : Int) (hn : ¬ (0 ≤ a ∧ a < b ∧ b ≤ size ∧ size ≤ 99999)) (w : World) :
    Calls Tryd.prog 5 #[.agg #[.int .i64 a, .int .i64 b], .int .i64 size] w fun e w' => e = .returned (.tuple #[.string ⟨#[]⟩, .int .i64 1]) ∧ Below w.heap.size w w' := by
  have hw0 : Below w.heap.size w (w.alloc (.cells #[.int .i64 a, .int .i64 b] 23)) := below_alloc w _
  by_cases h1 : a < 0
  · have g1 : decide (a < 0) = true := decide_eq_true h1
    clear hn h1
    go_enter Tryd.func5, Tryd.ntmps5
    go_wp2_with fail
    go_ret2
    exact ⟨rfl, hw0⟩
  · have g1 : decide (a < 0) = false := decide_eq_false h1
    obtain ⟨r, hr⟩ : ∃ r, decide (a < b) = r := ⟨_, rfl⟩
    have HR : Hid (decide (a < b) = r) := hr
    have hrest : r = true → b > size ∨ size > 99999 := by
      intro e
      rw [e] at hr
      have := of_decide_eq_true hr
      omega
    clear hr hn h1
    go_enter Tryd.func5, Tryd.ntmps5
    go_wp2_with fail
    refine (shas_is a b r HR.out _).mono ?_
    rintro e w1 ⟨rfl, hb1⟩
    have hc0 := new_cell hb1 0
    have hc1 := new_cell hb1 1
    have hbw := below_new hb1
    have HBW : Hid (Below w.heap.size w w1) := hbw
    clear hb1 hw0 hbw
    cases r
    · clear hrest
      go_wp2_with fail
      go_ret2
      exact ⟨rfl, HBW.out⟩
    · have hrest := hrest rfl
      by_cases h3 : b > size
      · have g3 : decide (b > size) = true := decide_eq_true h3
        clear hrest h3
        go_wp2_with fail
        go_ret2
        exact ⟨rfl, HBW.out⟩
      · have g3 : decide (b > size) = false := decide_eq_false h3
        have g4 : decide (size > 99999) = true := decide_eq_true (by omega)
        clear hrest h3
        go_wp2_with fail
        go_ret2
        exact ⟨rfl, HBW.out⟩
theorem scprint_at (a b size : Int) (t : ByteArray) (c : Int) (h : prC (a, b) size = (t.data.toList, c)) (w : World) (hT : PowT w) :
    Calls Tryd.prog 5 #[.agg #[.int .i64 a, .int .i64 b], .int .i64 size] w fun e w' => e = .returned (.tuple #[.string t, .int .i64 c]) ∧ Below w.heap.size w w' := by
  by_cases hn : 0 ≤ a ∧ a < b ∧ b ≤ size ∧ size ≤ 99999
  · rw [prC_ok (okC_of hn)] at h
    obtain ⟨h1, h2⟩ := Prod.mk.inj h
    subst h2
    exact scprint_yes a b size t h1.symm hn.1 hn.2.1 hn.2.2.1 hn.2.2.2 w hT
  · obtain ⟨rfl, rfl⟩ := prC_no h hn
    exact scprint_no a b size hn w
end Go.Proofs.YtkmbhgbmdeoppacDoor

/-
  The variables that package strconv reads, as the rows of this seat list them, hold what its functions ask.
-/
namespace Go.Proofs.YtkmbhgbmdeoppacDoor
open Go.RowKit Go.Lib

theorem iface_of {H : Type} {enc : TypeId × Value → H} {P : Program} {w : World} {base : Nat} {sp : Nat → Bool} {held : Bool} {fuel : Nat} {t : TypeId} {cs : List Value} {nm : String} {d : DataW H} {p : List MemPlace} {ms : _}
    (ht : P.underlying t = some (.interface ms)) (h : DataW.trod enc P w base sp held fuel t cs = some (.iface nm d, p)) : ∃ u v, cs = [.iface u v] := by
  cases fuel with
  | zero => simp [DataW.trod] at h
  | succ fuel =>
    match cs, h with
    | [.iface u v], _ => exact ⟨u, v, rfl⟩
    | [], h => simp [DataW.trod, ht] at h
    | x :: y :: r, h => simp [DataW.trod, ht] at h
    | [x], h => cases x <;> simp [DataW.trod, ht] at h <;> exact ⟨_, _, rfl⟩

structure STabs (w : World) : Prop where
  pow : Lib.TabIs Tryd.prog w "internal/strconv.uint64pow10" .u64 Lib.pow10Tab
  syn : ∃ u v, w.cell? ⟨2, 0, none⟩ = some (.iface u v)
  rng : ∃ u v, w.cell? ⟨3, 0, none⟩ = some (.iface u v)
theorem vkeep {P : Program} {n : String} {cs : Array Value} {w w' : World} (h : w.var? P n = some cs) (hb : Below w.heap.size w w') : w'.var? P n = some cs := by
  unfold World.var? at h ⊢
  cases hg : P.globalNamed n with
  | none => rw [hg] at h; cases h
  | some g =>
    rw [hg, Option.bind_some] at h
    rw [Option.bind_some]
    by_cases hlt : g < w.heap.size
    · rw [hb.block g hlt]; exact h
    · rw [Array.getElem?_eq_none (by omega)] at h; cases h
theorem STabs.below {w w' : World} (h : STabs w) (hb : Below w.heap.size w w') : STabs w' where
  pow := vkeep h.pow hb
  syn := by obtain ⟨u, v, e⟩ := h.syn; exact ⟨u, v, cell_keep hb e⟩
  rng := by obtain ⟨u, v, e⟩ := h.rng; exact ⟨u, v, cell_keep hb e⟩
theorem err_of {w : World} {name : String} {g : Nat} {t : TypeId} {ms : _} {nm : String} {d : DataW Unit} (h : VarReads Tryd.prog w name (.iface nm d)) (hg : Tryd.prog.globalNamed name = some g)
    (hty : (Tryd.prog.globals[g]?).map (·.type) = some t) (ht : Tryd.prog.underlying t = some (.interface ms)) : ∃ u v, w.cell? ⟨g, 0, none⟩ = some (.iface u v) := by
  obtain ⟨g', t', cs, fuel, p, hg', ht', hv, hd⟩ := h
  obtain rfl := Option.some.inj (hg.symm.trans hg')
  obtain rfl := Option.some.inj (hty.symm.trans ht')
  obtain ⟨u, v, e⟩ := iface_of ht hd
  refine ⟨u, v, ?_⟩
  rw [World.var?_cell hg hv 0]
  have : cs[0]? = cs.toList[0]? := by simp
  rw [this, e]; rfl
theorem stabs_of {l : List (String × DataW Unit)} (w : World) (h : laidMet Tryd.prog l w) (h1 : ("internal/strconv.uint64pow10", Rows.laid_internal_strconv_uint64pow10) ∈ l)
    (h2 : ("strconv.ErrSyntax", Rows.laid_strconv_ErrSyntax) ∈ l) (h3 : ("strconv.ErrRange", Rows.laid_strconv_ErrRange) ∈ l) : STabs w where
  pow := by
    have r : VarReads Tryd.prog w "internal/strconv.uint64pow10" Rows.laid_internal_strconv_uint64pow10 := laidMet.reads h h1
    rw [show (Rows.laid_internal_strconv_uint64pow10 : DataW Unit) = tabData .u64 pow10Tab from by kernel_rfl] at r
    obtain ⟨g', t', cs, fuel, p, hg', ht', hv, hd⟩ := r
    obtain rfl := Option.some.inj ((show Tryd.prog.globalNamed "internal/strconv.uint64pow10" = some 1 by kernel_rfl).symm.trans hg')
    obtain rfl := Option.some.inj ((show (Tryd.prog.globals[1]?).map (·.type) = some 83 by kernel_rfl).symm.trans ht')
    unfold TabIs
    rw [hv, ← cells_of_tab Tryd.underlying83 Tryd.underlying69 (by kernel_rfl) (by kernel_rfl) hd]
  syn := err_of (laidMet.reads h h2) (by kernel_rfl) (by kernel_rfl) Tryd.underlying50
  rng := err_of (laidMet.reads h h3) (by kernel_rfl) (by kernel_rfl) Tryd.underlying50
end Go.Proofs.YtkmbhgbmdeoppacDoor

/-
  Words with a sign between them, parted at that sign; no program is named here.
-/
namespace Go.Proofs.YtkmbhgbmdeoppacDoor
open Go.RowKit

theorem index_none_byte (d : UInt8) (l : List UInt8) (h : ∀ b ∈ l, b ≠ d) : Lib.index l [d] = -1 := by
  rw [Lib.index_one]
  induction l with
  | nil => rfl
  | cons b l ih =>
    have hb : (b == d) = false := by simpa using h b (List.mem_cons_self ..)
    rw [Lib.indexByte, hb, ih fun x hx => h x (List.mem_cons_of_mem _ hx)]; rfl
def wordsB (d : UInt8) (ws : List (List UInt8)) : List UInt8 := ws.flatMap fun x => d :: x
theorem wordsB_cons (d : UInt8) (x : List UInt8) (ws : List (List UInt8)) : wordsB d (x :: ws) = d :: (x ++ wordsB d ws) := by simp [wordsB]
theorem split_words (d : UInt8) (ws : List (List UInt8)) : ∀ w0 : List UInt8, (∀ b ∈ w0, b ≠ d) → (∀ x ∈ ws, ∀ b ∈ x, b ≠ d) → Lib.count (w0 ++ wordsB d ws) [d] = ws.length ∧ Lib.splitK [d] 0 ws.length (w0 ++ wordsB d ws) = w0 :: ws := by
  induction ws with
  | nil =>
    intro w0 h0 _
    have hi := index_none_byte d w0 h0
    simp only [wordsB, List.flatMap_nil, List.append_nil, List.length_nil]
    exact ⟨Lib.count_miss hi, rfl⟩
  | cons x ws ih =>
    intro w0 h0 h
    have hi := index_byte_at d w0 (x ++ wordsB d ws) h0
    obtain ⟨h1, h2⟩ := ih x (h x (List.mem_cons_self ..)) fun y hy => h y (List.mem_cons_of_mem _ hy)
    rw [wordsB_cons]
    have hd : (w0 ++ d :: (x ++ wordsB d ws)).drop (w0.length + [d].length) = x ++ wordsB d ws := by
      rw [show w0 ++ d :: (x ++ wordsB d ws) = (w0 ++ [d]) ++ (x ++ wordsB d ws) by simp]
      exact List.drop_left' (by simp)
    refine ⟨?_, ?_⟩
    · rw [Lib.count_hit (by simp) hi, hd, h1, List.length_cons]; omega
    · rw [List.length_cons, Lib.splitK, hi]
      have hne : ((w0.length : Int) == -1) = false := by rw [beq_eq_false_iff_ne]; omega
      rw [hne, Int.toNat_natCast, hd, h2, Nat.add_zero, List.take_left' rfl]; rfl
/-- The row of parts of a text. -/
theorem splitB_words (d : UInt8) (s : ByteArray) (w0 : List UInt8) (ws : List (List UInt8)) (hs : s.data.toList = w0 ++ wordsB d ws) (h0 : ∀ b ∈ w0, b ≠ d) (h : ∀ x ∈ ws, ∀ b ∈ x, b ≠ d) :
    Lib.countB s ⟨#[d]⟩ = ws.length ∧ Lib.splitB ⟨#[d]⟩ 0 (Lib.countB s ⟨#[d]⟩) s = (w0 :: ws).map fun l => ⟨l.toArray⟩ := by
  obtain ⟨h1, h2⟩ := split_words d ws w0 h0 h
  have hc : Lib.countB s ⟨#[d]⟩ = ws.length := by
    show Lib.count s.data.toList [d] = _
    rw [hs, h1]
  refine ⟨hc, ?_⟩
  rw [hc]
  have := Lib.splitB_data ⟨#[d]⟩ 0 ws.length s
  rw [show (⟨#[d]⟩ : ByteArray).data.toList = [d] from rfl, hs, h2] at this
  rw [← this, List.map_map]
  conv => lhs; rw [← List.map_id (Lib.splitB ⟨#[d]⟩ 0 ws.length s)]
  exact List.map_congr_left fun x _ => rfl
end Go.Proofs.YtkmbhgbmdeoppacDoor

/-
  Lists of wants in plain lists: printed, and read; no program is named here.
-/
namespace Go.Proofs.YtkmbhgbmdeoppacDoor
open Go.RowKit

def bytesB : List UInt8 := [98, 121, 116, 101, 115, 61]
def prSp (l : List Wn) : List UInt8 × Int := if chkW l = 0 then (bytesB ++ Lib.join (l.map prW) [44], 0) else ([], chkW l)
theorem chkW_zero {l : List Wn} (h : chkW l = 0) : l.all okW = true ∧ 1 ≤ l.length ∧ l.length ≤ 20 := by
  unfold chkW at h
  split at h
  · cases h
  · split at h
    · cases h
    · split at h
      · cases h
      · rename_i h1 h2 h3
        exact ⟨by simpa using h1, by omega, by omega⟩
theorem chkW_of {l : List Wn} (h1 : l.all okW = true) (h2 : 1 ≤ l.length) (h3 : l.length ≤ 20) : chkW l = 0 := by
  unfold chkW
  rw [if_neg (by rw [h1]; simp), if_neg (by omega), if_neg (by omega)]
theorem chkW_two (l : List Wn) : chkW l = 0 ∨ chkW l = 1 ∨ chkW l = 2 := by
  unfold chkW
  split
  · exact .inr (.inl rfl)
  · split
    · exact .inr (.inl rfl)
    · split
      · exact .inr (.inr rfl)
      · exact .inl rfl
theorem prSp_ok {l : List Wn} (h : chkW l = 0) : prSp l = (bytesB ++ Lib.join (l.map prW) [44], 0) := by unfold prSp; rw [if_pos h]
theorem prSp_bad {l : List Wn} (h : chkW l ≠ 0) : prSp l = ([], chkW l) := by unfold prSp; rw [if_neg h]
theorem prSp_code (l : List Wn) : (prSp l).2 = chkW l := by
  by_cases h : chkW l = 0
  · rw [prSp_ok h, h]
  · rw [prSp_bad h]
/-- What stands between signs d. -/
def spl (d : UInt8) : List UInt8 → List (List UInt8)
  | [] => [[]]
  | c :: r => if c = d then [] :: spl d r else match spl d r with
    | [] => [[c]]
    | x :: xs => (c :: x) :: xs
theorem spl_form (d : UInt8) (l : List UInt8) : ∃ w ws, spl d l = w :: ws ∧ l = w ++ wordsB d ws ∧ (∀ b ∈ w, b ≠ d) ∧ ∀ x ∈ ws, ∀ b ∈ x, b ≠ d := by
  induction l with
  | nil => exact ⟨[], [], rfl, rfl, by simp, by simp⟩
  | cons c r ih =>
    obtain ⟨w, ws, h1, h2, h3, h4⟩ := ih
    rw [spl]
    by_cases hc : c = d
    · rw [if_pos hc]
      refine ⟨[], spl d r, rfl, ?_, by simp, ?_⟩
      · rw [h1, wordsB_cons, hc]
        simp [← h2]
      · intro x hx
        rw [h1] at hx
        rcases List.mem_cons.1 hx with rfl | hx
        · exact h3
        · exact h4 x hx
    · rw [if_neg hc, h1]
      refine ⟨c :: w, ws, rfl, by rw [h2]; rfl, ?_, h4⟩
      intro b hb
      rcases List.mem_cons.1 hb with rfl | hb
      · exact hc
      · exact h3 b hb
theorem spl_words (d : UInt8) (w : List UInt8) (hw : ∀ b ∈ w, b ≠ d) (ws : List (List UInt8)) (h : ∀ x ∈ ws, ∀ b ∈ x, b ≠ d) : spl d (w ++ wordsB d ws) = w :: ws := by
  induction ws generalizing w with
  | nil =>
    induction w with
    | nil => rfl
    | cons c r ih =>
      have hr := ih (fun b hb => hw b (List.mem_cons_of_mem _ hb))
      show spl d (c :: (r ++ wordsB d [])) = _
      rw [spl, if_neg (hw c (by simp)), hr]
  | cons x ws ih =>
    induction w with
    | nil =>
      rw [List.nil_append, wordsB_cons, spl, if_pos rfl, ih x (h x (by simp)) (fun y hy => h y (List.mem_cons_of_mem _ hy))]
    | cons c r ihr =>
      have hr := ihr (fun b hb => hw b (List.mem_cons_of_mem _ hb))
      show spl d (c :: (r ++ wordsB d (x :: ws))) = _
      rw [spl, if_neg (hw c (by simp)), hr]
theorem join_spl (w : List UInt8) (ws : List (List UInt8)) (d : UInt8) : Lib.join (w :: ws) [d] = w ++ wordsB d ws := by
  induction ws generalizing w with
  | nil => simp [Lib.join, wordsB]
  | cons x ws ih =>
    have e : Lib.join (w :: x :: ws) [d] = w ++ d :: Lib.join (x :: ws) [d] := by simp [Lib.join, List.intercalate]
    rw [e, ih x, wordsB_cons]
def wstep (acc : Option (List Wn)) (p : List UInt8) : Option (List Wn) :=
  match acc with
  | none => none
  | some ws => match paW p with
    | none => none
    | some w => some (ws ++ [w])
def wnE (P : List (List UInt8)) : Option (List Wn) := P.foldl wstep (some [])
def paSp (s : List UInt8) : List Wn × Int :=
  if Lib.hasPrefix s bytesB = false then ([], 3) else match wnE ((spl 44 (s.drop 6)).map trimL) with
    | none => ([], 3)
    | some ws => if 20 < ws.length then ([], 2) else (ws, 0)
theorem wstep_dead (P : List (List UInt8)) : P.foldl wstep none = none := by
  induction P with
  | nil => rfl
  | cons a P ih => rw [List.foldl_cons]; exact ih
theorem wn_snoc (P : List (List UInt8)) (p : List UInt8) : wnE (P ++ [p]) = wstep (wnE P) p := by simp [wnE]
theorem wn_take (P : List (List UInt8)) (k : Nat) (h : k < P.length) : wnE (P.take (k + 1)) = wstep (wnE (P.take k)) P[k] := by
  rw [List.take_succ_eq_append_getElem h, wn_snoc]
theorem wn_dead (P : List (List UInt8)) (k : Nat) (h : k < P.length) (hd : wstep (wnE (P.take k)) P[k] = none) : wnE P = none := by
  have e : P = P.take k ++ P[k] :: P.drop (k + 1) := by rw [← List.drop_eq_getElem_cons h, List.take_append_drop]
  rw [e]
  unfold wnE at hd ⊢
  rw [List.foldl_append, List.foldl_cons, hd, wstep_dead]
theorem wn_len : ∀ (P : List (List UInt8)) (ws : List Wn), wnE P = some ws → ws.length = P.length := by
  have gen : ∀ (P : List (List UInt8)) (a : List Wn) ws, P.foldl wstep (some a) = some ws → ws.length = a.length + P.length := by
    intro P
    induction P with
    | nil => intro a ws h; simp at h; subst h; simp
    | cons p P ih =>
      intro a ws h
      rw [List.foldl_cons] at h
      cases hu : paW p with
      | none =>
        have : wstep (some a) p = none := by unfold wstep; simp [hu]
        rw [this, wstep_dead] at h; cases h
      | some w =>
        have : wstep (some a) p = some (a ++ [w]) := by unfold wstep; simp [hu]
        rw [this] at h
        have := ih _ _ h
        rw [this]; simp; omega
  intro P ws h
  have := gen P [] ws h
  simpa using this
theorem wn_back (l : List Wn) (h : l.all okW = true) (P : List (List UInt8)) (hP : P.map trimL = l.map prW) : wnE (P.map trimL) = some l := by
  rw [hP]
  have gen : ∀ (l : List Wn) (a : List Wn), l.all okW = true → (l.map prW).foldl wstep (some a) = some (a ++ l) := by
    intro l
    induction l with
    | nil => intro a _; simp
    | cons w l ih =>
      intro a hl
      rw [List.all_cons, Bool.and_eq_true] at hl
      rw [List.map_cons, List.foldl_cons]
      have : wstep (some a) (prW w) = some (a ++ [w]) := by unfold wstep; simp [paW_back hl.1]
      rw [this, ih _ hl.2]; simp
  have := gen l [] h
  simpa [wnE] using this
theorem prW_no44 {w : Wn} : ∀ b ∈ prW w, b ≠ 44 := by
  intro b hb
  unfold prW at hb
  rcases List.mem_append.1 hb with hb | hb
  · exact sgn_no w.1 44 (by decide) b hb
  · rcases List.mem_cons.1 hb with rfl | hb
    · decide
    · exact sgn_no w.2 44 (by decide) b hb
theorem prW_no_blank {w : Wn} : ∀ b ∈ prW w, blank b = false := by
  intro b hb
  have hd : ∀ c : UInt8, isDig c = true → blank c = false := by
    intro c h
    have := byAll (fun c => !isDig c || !blank c) (by decide +kernel) c
    rw [h] at this
    simpa using this
  unfold prW at hb
  rcases List.mem_append.1 hb with hb | hb
  · exact hd b (List.all_eq_true.1 (sgn_dig w.1) b hb)
  · rcases List.mem_cons.1 hb with rfl | hb
    · decide
    · exact hd b (List.all_eq_true.1 (sgn_dig w.2) b hb)
theorem trim_prW (w : Wn) : trimL (prW w) = prW w := by
  apply trimL_stays
  · intro b hb; exact prW_no_blank b (List.mem_of_mem_head? hb)
  · intro b hb; exact prW_no_blank b (List.mem_of_mem_getLast? hb)
theorem pre_bytes (r : List UInt8) : Lib.hasPrefix (bytesB ++ r) bytesB = true := by
  unfold bytesB
  simp [Lib.hasPrefix]
theorem drop_bytes (r : List UInt8) : (bytesB ++ r).drop 6 = r := rfl
/-- What is printed is read as it was, with blanks about commas, too. -/
theorem paSp_gap (l : List Wn) (h : chkW l = 0) (P : List (List UInt8)) (hP : P.map trimL = l.map prW) (h44 : ∀ x ∈ P, ∀ b ∈ x, b ≠ 44) : paSp (bytesB ++ Lib.join P [44]) = (l, 0) := by
  obtain ⟨h1, h2, h3⟩ := chkW_zero h
  have hl : P.length = l.length := by have := congrArg List.length hP; simpa using this
  obtain ⟨w, ws, rfl⟩ : ∃ w ws, P = w :: ws := by
    cases P with
    | nil => rw [List.length_nil] at hl; omega
    | cons w ws => exact ⟨w, ws, rfl⟩
  have hs : spl 44 (Lib.join (w :: ws) [44]) = w :: ws := by
    rw [join_spl]
    exact spl_words 44 w (h44 w (by simp)) ws (fun x hx => h44 x (List.mem_cons_of_mem _ hx))
  unfold paSp
  rw [if_neg (by rw [pre_bytes]; simp), drop_bytes, hs, wn_back l h1 _ hP]
  simp only
  rw [if_neg (by omega)]
theorem paSp_back (l : List Wn) (h : chkW l = 0) : paSp (prSp l).1 = (l, 0) := by
  rw [prSp_ok h]
  refine paSp_gap l h (l.map prW) ?_ ?_
  · rw [List.map_map]
    apply List.map_congr_left
    intro w _
    exact trim_prW w
  · intro x hx
    obtain ⟨w, _, rfl⟩ := List.mem_map.1 hx
    exact prW_no44
theorem paSp_nil : paSp [] = ([], 3) := by
  unfold paSp
  rw [if_pos (by decide)]
theorem paSp_ok {s : List UInt8} {ws : List Wn} (h : paSp s = (ws, 0)) : chkW ws = 0 := by
  unfold paSp at h
  split at h
  · cases (Prod.mk.inj h).2
  · cases hq : wnE ((spl 44 (s.drop 6)).map trimL) with
    | none => rw [hq] at h; cases (Prod.mk.inj h).2
    | some us =>
      rw [hq] at h
      simp only at h
      split at h
      · cases (Prod.mk.inj h).2
      · rename_i hl
        cases (Prod.mk.inj h).1
        have hn := wn_len _ _ hq
        obtain ⟨w, rest, hs, _⟩ := spl_form 44 (s.drop 6)
        rw [hs] at hn
        refine chkW_of ?_ (by rw [hn]; simp) (by omega)
        have gen : ∀ (P : List (List UInt8)) (a ws : List Wn), a.all okW = true → P.foldl wstep (some a) = some ws → ws.all okW = true := by
          intro P
          induction P with
          | nil => intro a ws ha h; simp at h; subst h; exact ha
          | cons p P ih =>
            intro a ws ha h
            rw [List.foldl_cons] at h
            cases hu : paW p with
            | none =>
              have : wstep (some a) p = none := by unfold wstep; simp [hu]
              rw [this, wstep_dead] at h; cases h
            | some w =>
              have e : wstep (some a) p = some (a ++ [w]) := by unfold wstep; simp [hu]
              rw [e] at h
              refine ih _ _ ?_ h
              rw [List.all_append, ha, List.all_cons, (paW_some hu).1]; rfl
        exact gen _ [] _ rfl hq
end Go.Proofs.YtkmbhgbmdeoppacDoor

/-
  A text without its end or its beginning, and whether it has it; no program is named here.
-/
namespace Go.Proofs.YtkmbhgbmdeoppacDoor
open Go.RowKit

/-- A text without its end, and whether it ends so. -/
def cutSuf (s p : List UInt8) : List UInt8 × Bool := (Lib.trimSuffix s p, Lib.hasSuffix s p)
/-- A text without its beginning, and whether it begins so. -/
def cutPre (s p : List UInt8) : List UInt8 × Bool := (Lib.trimPrefix s p, Lib.hasPrefix s p)
end Go.Proofs.YtkmbhgbmdeoppacDoor

/-
  A number that a text tells (-1 if it tells none, or one above 99999), and what is read by such numbers and held against what would be printed: a want, a slice of a body; no program is named here.
-/
namespace Go.Proofs.YtkmbhgbmdeoppacDoor
open Go.RowKit

def nmb (s : List UInt8) : Int := match Lib.atoiAll s with
  | .ok n => if 99999 < n then -1 else n
  | .«syntax» => -1
  | .range => -1
theorem atoi_low {s : List UInt8} {n : Int} (h : Lib.atoiAll s = .ok n) : -9223372036854775808 ≤ n := by
  unfold Lib.atoiAll at h
  split at h
  · cases h
  · dsimp only at h
    split at h
    · cases h
    · cases h
    · split at h
      · cases h
      · split at h
        · cases h
        · cases h
          split <;> omega
theorem nmb_bd (s : List UInt8) : -9223372036854775808 ≤ nmb s ∧ nmb s ≤ 99999 := by
  unfold nmb
  split
  · rename_i n h
    have := atoi_low h
    split <;> omega
  · omega
  · omega
theorem nmb_sgn {n : Int} (h1 : -1 ≤ n) (h2 : n ≤ 99999) : nmb (sgn n) = n := by
  by_cases h : n < 0
  · rw [sgn_neg h]
    have : nmb [] = -1 := by decide
    rw [this]; omega
  · rw [sgn_pos (by omega)]
    have hl := dec_len5 n.toNat (by omega)
    unfold nmb
    rw [atoi_dig _ (dec_ne _) (dec_all _) (by omega), numb_dec]
    dsimp only
    rw [if_neg (by omega)]; omega
theorem nmb_dec {u : Nat} (h : u ≤ 99999) : nmb (Lib.decDigits u) = u := by
  have := nmb_sgn (n := (u : Int)) (by omega) (by omega)
  rwa [sgn_pos (by omega), Int.toNat_natCast] at this

theorem cutn_yes (d : UInt8) (a r : List UInt8) (h : ∀ b ∈ a, b ≠ d) : Lib.cut (a ++ d :: r) [d] = (a, r, true) := by
  unfold Lib.cut
  rw [index_byte_at d a r h, if_pos (by omega)]
  simp
/-- The two numbers of a want, read. -/
def rdW (s : List UInt8) : Wn := (nmb (Lib.cut s [45]).1, nmb (Lib.cut s [45]).2.1)
theorem rdW_pr {w : Wn} (h : okW w = true) : rdW (prW w) = w := by
  obtain ⟨h1, h2, h3, h4, _⟩ := okW_is h
  unfold rdW prW
  rw [cutn_yes 45 _ _ (sgn_no w.1 45 (by decide)), nmb_sgn h1 h2, nmb_sgn h3 h4]
theorem rdW_yes {s : List UInt8} (h : okW (rdW s) = true) (e : prW (rdW s) = s) : paW s = some (rdW s) := (paW_iff _ _).2 ⟨h, e⟩
theorem rdW_no {s : List UInt8} (h : ¬ (okW (rdW s) = true ∧ prW (rdW s) = s)) : paW s = none := by
  cases hp : paW s with
  | none => rfl
  | some w =>
    obtain ⟨h1, h2⟩ := paW_some hp
    exfalso
    apply h
    rw [← h2, rdW_pr h1]
    exact ⟨h1, rfl⟩

/-- A slice of a body, read. -/
def rdA (s : List UInt8) : List UInt8 := (cutPre s [98, 121, 116, 101, 115, 32]).1
def rdB (s : List UInt8) : List UInt8 := (Lib.cut (rdA s) [45]).2.1
def rdX (s : List UInt8) : Wn := (nmb (Lib.cut (rdA s) [45]).1, nmb (Lib.cut (rdB s) [47]).1 + 1)
def rdN (s : List UInt8) : Int := nmb (Lib.cut (rdB s) [47]).2.1
theorem rdA_ct (x : Wn) (size : Int) : rdA (ctB x size) = Lib.decDigits x.1.toNat ++ 45 :: (Lib.decDigits (x.2 - 1).toNat ++ 47 :: Lib.decDigits size.toNat) := by
  unfold rdA cutPre ctB Lib.trimPrefix
  simp [Lib.hasPrefix]
theorem rdB_ct (x : Wn) (size : Int) : rdB (ctB x size) = Lib.decDigits (x.2 - 1).toNat ++ 47 :: Lib.decDigits size.toNat := by
  unfold rdB
  rw [rdA_ct, cutn_yes 45 _ _ (dec_no _ 45 (by decide))]
theorem rdX_ct {x : Wn} {size : Int} (h : okC x size = true) : rdX (ctB x size) = x ∧ rdN (ctB x size) = size := by
  obtain ⟨h1, h2, h3, h4⟩ := okC_is h
  unfold rdX rdN
  rw [rdB_ct, rdA_ct, cutn_yes 45 _ _ (dec_no _ 45 (by decide)), cutn_yes 47 _ _ (dec_no _ 47 (by decide)), nmb_dec (by omega), nmb_dec (by omega), nmb_dec (by omega)]
  refine ⟨Prod.ext ?_ ?_, ?_⟩ <;> (try simp only) <;> omega
theorem rdC_yes {s : List UInt8} (h : okC (rdX s) (rdN s) = true) (e : ctB (rdX s) (rdN s) = s) : paC s = ((rdX s, rdN s), 0) := (paC_iff _ _ _).2 ⟨h, e⟩
theorem rdC_bad {s : List UInt8} (h : ¬ (okC (rdX s) (rdN s) = true ∧ ctB (rdX s) (rdN s) = s)) : paC s = (((0, 0), 0), 3) := by
  apply paC_no
  intro x size hx e
  apply h
  obtain ⟨h1, h2⟩ := rdX_ct hx
  rw [e] at h1 h2
  rw [h1, h2]
  exact ⟨hx, e⟩
end Go.Proofs.YtkmbhgbmdeoppacDoor

/-
  What number of package span answers; the listed variables of package strconv hold what their text lays.
-/
namespace Go.Proofs.YtkmbhgbmdeoppacDoor
open Go.RowKit

set_option maxRecDepth 100000 in
theorem snum_at (s : ByteArray) (n : Int) (h : nmb s.data.toList = n) (w : World) (hs : s.size ≤ 140737488351232) (hT : STabs w) :
    Calls Tryd.prog 14 #[.string s] w fun e w' => e = .returned (.int .i64 n) ∧ Below w.heap.size w w' := by
  have HT : Hid (STabs w) := hT
  clear hT
  unfold nmb at h
  split at h
  · rename_i u hu
    have HU : Hid (Lib.atoiAll s.data.toList = .ok u) := hu
    by_cases hc : 99999 < u
    · rw [if_pos hc] at h
      subst h
      clear hu
      go_enter Tryd.func14, Tryd.ntmps14
      go_wp2_with fail
      refine (Tryd.strconv_Atoi_ok s (by omega) u HU.out _).mono ?_
      rintro e w1 ⟨rfl, hw1⟩
      have hb1 : Below w.heap.size w w1 := by
        rcases hw1 with rfl | ⟨t, rfl⟩
        · exact Below.refl _ _
        · exact Lib.bytesWorld_below _ _ _
      clear hw1
      go_wp2_with fail
      go_ret
      exact ⟨rfl, hb1⟩
    · rw [if_neg hc] at h
      subst h
      clear hu
      go_enter Tryd.func14, Tryd.ntmps14
      go_wp2_with fail
      refine (Tryd.strconv_Atoi_ok s (by omega) u HU.out _).mono ?_
      rintro e w1 ⟨rfl, hw1⟩
      have hb1 : Below w.heap.size w w1 := by
        rcases hw1 with rfl | ⟨t, rfl⟩
        · exact Below.refl _ _
        · exact Lib.bytesWorld_below _ _ _
      clear hw1
      go_wp2_with fail
      go_ret
      exact ⟨rfl, hb1⟩
  · rename_i hu
    subst h
    have HU : Hid (Lib.atoiAll s.data.toList = .«syntax») := hu
    obtain ⟨te, pe, hev⟩ := HT.out.syn
    have HV : Hid (w.cell? ⟨2, 0, none⟩ = some (.iface te pe)) := hev
    clear hu hev
    go_enter Tryd.func14, Tryd.ntmps14
    go_wp2_with fail
    refine (Tryd.strconv_Atoi_syntax s (by omega) HU.out _ _ HV.out (.inr ⟨_, _, rfl⟩)).mono ?_
    rintro e w1 ⟨N, rfl, _, _, hb⟩
    go_wp2_with fail
    go_ret
    exact ⟨rfl, hb⟩
  · rename_i hu
    subst h
    have HU : Hid (Lib.atoiAll s.data.toList = .range) := hu
    obtain ⟨te, pe, hev⟩ := HT.out.rng
    have HV : Hid (w.cell? ⟨3, 0, none⟩ = some (.iface te pe)) := hev
    clear hu hev
    go_enter Tryd.func14, Tryd.ntmps14
    go_wp2_with fail
    refine (Tryd.strconv_Atoi_range s (by omega) HU.out _ _ HV.out (.inr ⟨_, _, rfl⟩)).mono ?_
    rintro e w1 ⟨N, rfl, _, _, hb⟩
    go_wp2_with fail
    go_ret
    exact ⟨rfl, hb⟩
end Go.Proofs.YtkmbhgbmdeoppacDoor

/-
  What strings.Cut answers where a single byte is looked for, whatever the size of the text.
-/
namespace Go.Proofs.YtkmbhgbmdeoppacDoor
open Go.RowKit

set_option maxHeartbeats 2000000 in
set_option maxRecDepth 100000 in
theorem slcut1 (s : ByteArray) (c : UInt8) (w : World) (hs : s.size ≤ maxLen) :
    Calls Tryd.prog 22 #[.string s, .string ⟨#[c]⟩] w fun e w' => e = .returned (.tuple #[.string ⟨(Lib.cut s.data.toList [c]).1.toArray⟩, .string ⟨(Lib.cut s.data.toList [c]).2.1.toArray⟩, .bool (Lib.cut s.data.toList [c]).2.2]) ∧ ∃ n, w' = w.drewN n := by
  have hio := Lib.index_one s.data.toList c
  unfold maxLen at hs
  rcases Lib.indexB_cases s ⟨#[c]⟩ with hix | ⟨i, hix, hroom⟩
  · obtain ⟨e1, e2, e3⟩ := Lib.cutB_miss s ⟨#[c]⟩ hix
    have hI : Lib.indexByte s.data.toList c = -1 := by rw [← hio]; exact hix
    rw [show ([c] : List UInt8) = (⟨#[c]⟩ : ByteArray).data.toList from rfl, e1, e2, e3]
    have HI : Hid (Lib.indexByte s.data.toList c = -1) := hI
    clear hio hix e1 e2 e3 hI
    go_enter Tryd.func22, Tryd.ntmps22
    go_wp2_with fail
    refine (Tryd.stringslite_Index_one s c _).mono ?_
    rintro e w1 ⟨rfl, rfl⟩
    rw [HI.out]
    go_wp2_with fail
    go_ret3
    exact ⟨rfl, 0, rfl⟩
  · obtain ⟨e1, e2, e3⟩ := Lib.cutB_hit s ⟨#[c]⟩ i hix
    have hI : Lib.indexByte s.data.toList c = i := by rw [← hio]; exact hix
    have hone : (⟨#[c]⟩ : ByteArray).size = 1 := rfl
    rw [show ([c] : List UInt8) = (⟨#[c]⟩ : ByteArray).data.toList from rfl, e1, e2, e3]
    rw [hone] at hroom ⊢
    have HI : Hid (Lib.indexByte s.data.toList c = i) := hI
    have c1 : (0 : Int) ≤ (i : Int) := by omega
    have c2 : (i : Int) ≤ (s.size : Int) := by omega
    have c3 : (0 : Int) ≤ (i : Int) + 1 := by omega
    have c4 : (i : Int) + 1 ≤ (s.size : Int) := by omega
    clear hio hix e1 e2 e3 hI hone
    have mixed : Tryd.prog.follows Departure.mixedOrders = true := by kernel_rfl
    go_enter Tryd.func22, Tryd.ntmps22
    go_wp2_with fail
    refine (Tryd.stringslite_Index_one s c _).mono ?_
    rintro e w1 ⟨rfl, rfl⟩
    rw [HI.out]
    go_wp2_with fail
    go_region_o
    go_wp2_with fail
    go_ret3
    exact ⟨rfl, 1, rfl⟩
theorem scut1_at (s a b : ByteArray) (c : UInt8) (f : Bool) (h : Lib.cut s.data.toList [c] = (a.data.toList, b.data.toList, f)) (w : World) (hs : s.size ≤ maxLen) :
    Calls Tryd.prog 13 #[.string s, .string ⟨#[c]⟩] w fun e w' => e = .returned (.tuple #[.string a, .string b, .bool f]) ∧ ∃ n, w' = w.drewN n := by
  have hc := slcut1 s c
  rw [h] at hc
  have HC : Hid (∀ (w : World), s.size ≤ maxLen → Calls Tryd.prog 22 #[.string s, .string ⟨#[c]⟩] w fun e w' => e = .returned (.tuple #[.string a, .string b, .bool f]) ∧ ∃ n, w' = w.drewN n) := hc
  have HS : Hid (s.size ≤ maxLen) := hs
  clear hc hs h
  go_enter Tryd.func13, Tryd.ntmps13
  go_wp2_with fail
  refine (HC.out _ HS.out).mono ?_
  rintro e w1 ⟨rfl, n, rfl⟩
  go_wp2_with fail
  go_ret3
  exact ⟨rfl, n, rfl⟩
end Go.Proofs.YtkmbhgbmdeoppacDoor

/-
  What strings.CutPrefix computes; a string is no longer than Go allows.
-/
namespace Go.Proofs.YtkmbhgbmdeoppacDoor
open Go.RowKit

theorem scutPre_at (s p a : ByteArray) (f : Bool) (h : cutPre s.data.toList p.data.toList = (a.data.toList, f)) (w : World) :
    Calls Tryd.prog 12 #[.string s, .string p] w fun e w' => e = .returned (.tuple #[.string a, .bool f]) ∧ w' = w := by
  refine (Tryd.strings_CutPrefix s p w).mono ?_
  rintro e w' ⟨rfl, rfl⟩
  refine ⟨?_, rfl⟩
  unfold cutPre at h
  simp only [Prod.mk.injEq] at h
  rw [h.1, h.2]
end Go.Proofs.YtkmbhgbmdeoppacDoor

/-
  Two cells of a block that are written one behind the other, and pairs; no program is named here.
-/
namespace Go.Proofs.YtkmbhgbmdeoppacDoor
open Go.RowKit

theorem two_set {w : World} {B : Nat} {u0 u1 : Value} (a b : Value) (h0 : w.cell? ⟨B, 0, none⟩ = some u0) (h1 : w.cell? ⟨B, 1, none⟩ = some u1) :
    ((w.setCell ⟨B, 0, none⟩ a).setCell ⟨B, 1, none⟩ b).cell? ⟨B, 0, none⟩ = some a ∧ ((w.setCell ⟨B, 0, none⟩ a).setCell ⟨B, 1, none⟩ b).cell? ⟨B, 1, none⟩ = some b := by
  have e : (w.setCell ⟨B, 0, none⟩ a).cell? ⟨B, 1, none⟩ = some u1 := (World.cell?_setCell_other _ _ _ _ (by simp)).trans h1
  exact ⟨(World.cell?_setCell_other _ _ _ _ (by simp)).trans (World.cell?_setCell_same' _ _ _ (by rw [h0]; rfl)), World.cell?_setCell_same' _ _ _ (by rw [e]; rfl)⟩
theorem pair_bi (p : List UInt8 × Int) : ∃ (t : ByteArray) (c : Int), p = (t.data.toList, c) := ⟨⟨p.1.toArray⟩, p.2, rfl⟩
theorem et_two {a b : ByteArray} {c d : Int} (h : a.data.toList = b.data.toList) (h' : c = d) : Ending.returned (.tuple #[.string a, .int .i64 c]) = .returned (.tuple #[.string b, .int .i64 d]) := by
  rw [h', show a = b from by apply ByteArray.ext; apply Array.ext'; exact h]
end Go.Proofs.YtkmbhgbmdeoppacDoor

/-
  What ParseContent of package span answers; a text is no longer than the claim allows; the listed variables of package strconv hold what their text lays.
-/
namespace Go.Proofs.YtkmbhgbmdeoppacDoor
open Go.RowKit

theorem cut_lens {s x y : List UInt8} {d : UInt8} {f : Bool} (h : Lib.cut s [d] = (x, y, f)) : x.length ≤ s.length ∧ y.length ≤ s.length := by
  have hl : (Lib.cut s [d]).1.length ≤ s.length ∧ (Lib.cut s [d]).2.1.length ≤ s.length := by
    unfold Lib.cut
    split
    · simp only [List.length_take, List.length_drop]; omega
    · simp
  rw [h] at hl
  exact hl
theorem cut_bi (s : ByteArray) (d : UInt8) : ∃ (x y : ByteArray) (f : Bool), Lib.cut s.data.toList [d] = (x.data.toList, y.data.toList, f) ∧ x.size ≤ s.size ∧ y.size ≤ s.size := by
  refine ⟨⟨(Lib.cut s.data.toList [d]).1.toArray⟩, ⟨(Lib.cut s.data.toList [d]).2.1.toArray⟩, (Lib.cut s.data.toList [d]).2.2, rfl, ?_⟩
  have h := cut_lens (s := s.data.toList) (d := d) (x := (Lib.cut s.data.toList [d]).1) (y := (Lib.cut s.data.toList [d]).2.1) (f := (Lib.cut s.data.toList [d]).2.2) rfl
  rw [size_list] at h
  exact h
set_option maxHeartbeats 2000000 in
set_option maxRecDepth 100000 in
theorem scparse_at (s : ByteArray) (a b z c : Int) (h : paC s.data.toList = (((a, b), z), c)) (w : World) (hs : s.size ≤ 140737488351232) (hT : STabs w) :
    Calls Tryd.prog 6 #[.string s] w fun e w' => e = .returned (.tuple #[.agg #[.int .i64 a, .int .i64 b], .int .i64 z, .int .i64 c]) ∧ Below w.heap.size w w' := by
  obtain ⟨r, f0, hpre⟩ : ∃ (r : ByteArray) (f : Bool), cutPre s.data.toList [98, 121, 116, 101, 115, 32] = (r.data.toList, f) := ⟨⟨(Lib.trimPrefix s.data.toList [98, 121, 116, 101, 115, 32]).toArray⟩, Lib.hasPrefix s.data.toList [98, 121, 116, 101, 115, 32], rfl⟩
  have hrs : r.size ≤ s.size := by
    have h1 := (Prod.mk.inj hpre).1
    rw [← size_list, ← size_list, ← h1]
    unfold Lib.trimPrefix
    split
    · rw [List.length_drop]; omega
    · omega
  obtain ⟨x, B, f1, hc1, hx1, hx2⟩ := cut_bi r 45
  obtain ⟨y, v, f2, hc2, hy1, hy2⟩ := cut_bi B 47
  have hrA : rdA s.data.toList = r.data.toList := by unfold rdA; rw [hpre]
  have hrB : rdB s.data.toList = B.data.toList := by unfold rdB; rw [hrA, hc1]
  obtain ⟨p, hp⟩ : ∃ p, nmb x.data.toList = p := ⟨_, rfl⟩
  obtain ⟨q, hq⟩ : ∃ q, nmb y.data.toList = q := ⟨_, rfl⟩
  obtain ⟨q1, hq1⟩ : ∃ q1, q + 1 = q1 := ⟨_, rfl⟩
  obtain ⟨n, hn⟩ : ∃ n, nmb v.data.toList = n := ⟨_, rfl⟩
  have hrX : rdX s.data.toList = (p, q1) := by unfold rdX; rw [hrA, hrB, hc1, hc2, hp, hq, hq1]
  have hrN : rdN s.data.toList = n := by unfold rdN; rw [hrB, hc2, hn]
  have e1 : IntKind.i64.wrap (q + 1) = q1 := by
    have := nmb_bd y.data.toList
    rw [IntKind.wrap_i64]; omega
  obtain ⟨t, d, ht⟩ := pair_bi (prC (p, q1) n)
  have HPR : Hid (prC (p, q1) n = (t.data.toList, d)) := ht
  have HC0 : Hid (cutPre s.data.toList (⟨#[98, 121, 116, 101, 115, 32]⟩ : ByteArray).data.toList = (r.data.toList, f0)) := hpre
  have HC1 : Hid (Lib.cut r.data.toList [45] = (x.data.toList, B.data.toList, f1)) := hc1
  have HC2 : Hid (Lib.cut B.data.toList [47] = (y.data.toList, v.data.toList, f2)) := hc2
  have HNX : Hid (nmb x.data.toList = p ∧ x.size ≤ 140737488351232) := ⟨hp, by omega⟩
  have HNY : Hid (nmb y.data.toList = q ∧ y.size ≤ 140737488351232) := ⟨hq, by omega⟩
  have HNV : Hid (nmb v.data.toList = n ∧ v.size ≤ 140737488351232) := ⟨hn, by omega⟩
  have HSZ : Hid (r.size ≤ maxLen ∧ B.size ≤ maxLen) := by constructor <;> (unfold maxLen; omega)
  have HT : Hid (STabs w) := hT
  have HANS : Hid ((d = 0 ∧ t = s ∧ ((p, q1), n) = ((a, b), z) ∧ c = 0) ∨ ((d ≠ 0 ∨ t ≠ s) ∧ a = 0 ∧ b = 0 ∧ z = 0 ∧ c = 3)) := by
    show _ ∨ _
    by_cases hok : okC (p, q1) n = true
    · rw [prC_ok hok] at ht
      obtain ⟨h1, h2⟩ := Prod.mk.inj ht
      by_cases he : t = s
      · refine .inl ⟨h2.symm, he, ?_⟩
        have h3 := rdC_yes (s := s.data.toList) (by rw [hrX, hrN]; exact hok) (by rw [hrX, hrN, h1, he])
        rw [hrX, hrN, h] at h3
        obtain ⟨h4, h5⟩ := Prod.mk.inj h3
        exact ⟨h4.symm, h5⟩
      · refine .inr ⟨.inr he, ?_⟩
        have h3 := rdC_bad (s := s.data.toList) (by rw [hrX, hrN]; exact fun hh => he (by apply ByteArray.ext; apply Array.ext'; rw [← h1]; exact hh.2))
        rw [h] at h3
        simpa [and_assoc] using h3
    · have hokf : okC (p, q1) n = false := by simpa using hok
      rw [prC_bad hokf] at ht
      refine .inr ⟨.inl (by have := (Prod.mk.inj ht).2; omega), ?_⟩
      have h3 := rdC_bad (s := s.data.toList) (by rw [hrX, hrN]; exact fun hh => hok hh.1)
      rw [h] at h3
      simpa [and_assoc] using h3
  clear h hs hT hpre hrs hc1 hc2 hx1 hx2 hy1 hy2 hrA hrB hp hq hq1 hn hrX hrN ht
  go_enter Tryd.func6, Tryd.ntmps6
  go_wp2_with fail
  refine (scutPre_at s ⟨#[98, 121, 116, 101, 115, 32]⟩ r f0 HC0.out _).mono ?_
  rintro e w1 ⟨rfl, hw1⟩
  rw [hw1]
  clear hw1 w1
  go_wp2_with fail
  refine (scut1_at r x B 45 f1 HC1.out _ HSZ.out.1).mono ?_
  rintro e w1 ⟨rfl, nq, hw1⟩
  have hb1 : Below (w.alloc (.cells #[.int .i64 0, .int .i64 0] 23)).heap.size (w.alloc (.cells #[.int .i64 0, .int .i64 0] 23)) w1 := by rw [hw1]; exact drewN_below _ _ _
  clear hw1
  go_wp2_with fail
  refine (scut1_at B y v 47 f2 HC2.out _ HSZ.out.2).mono ?_
  rintro e w2 ⟨rfl, nq, hw2⟩
  have hb2 : Below (w.alloc (.cells #[.int .i64 0, .int .i64 0] 23)).heap.size (w.alloc (.cells #[.int .i64 0, .int .i64 0] 23)) w2 := by
    have h2 : Below w1.heap.size w1 w2 := by rw [hw2]; exact drewN_below _ _ _
    exact hb1.trans (h2.mono hb1.size)
  have HB2 : Hid (Below (w.alloc (.cells #[.int .i64 0, .int .i64 0] 23)).heap.size (w.alloc (.cells #[.int .i64 0, .int .i64 0] 23)) w2) := hb2
  have HT2 : Hid (STabs w2) := HT.out.below (below_new hb2)
  clear hw2 hb1 hb2
  go_wp2_with fail
  refine (snum_at x p HNX.out.1 _ HNX.out.2 HT2.out).mono ?_
  rintro e w3 ⟨rfl, hb3⟩
  have HB3 : Hid (Below (w.alloc (.cells #[.int .i64 0, .int .i64 0] 23)).heap.size (w.alloc (.cells #[.int .i64 0, .int .i64 0] 23)) w3) := HB2.out.trans (hb3.mono HB2.out.size)
  have HT3 : Hid (STabs w3) := HT2.out.below hb3
  clear hb3
  go_wp2_with fail
  refine (snum_at y q HNY.out.1 _ HNY.out.2 HT3.out).mono ?_
  rintro e w4 ⟨rfl, hb4⟩
  have HB4 : Hid (Below (w.alloc (.cells #[.int .i64 0, .int .i64 0] 23)).heap.size (w.alloc (.cells #[.int .i64 0, .int .i64 0] 23)) w4) := HB3.out.trans (hb4.mono HB3.out.size)
  have HT4 : Hid (STabs w4) := HT3.out.below hb4
  clear hb4
  go_wp2_with fail
  refine (snum_at v n HNV.out.1 _ HNV.out.2 HT4.out).mono ?_
  rintro e w5 ⟨rfl, hb5⟩
  have HB5 : Hid (Below (w.alloc (.cells #[.int .i64 0, .int .i64 0] 23)).heap.size (w.alloc (.cells #[.int .i64 0, .int .i64 0] 23)) w5) := HB4.out.trans (hb5.mono HB4.out.size)
  have HT5 : Hid (STabs w5) := HT4.out.below hb5
  clear hb5
  go_wp2_with fail
  refine (scprint_at p q1 n t d HPR.out _ (HT5.out.below (below_alloc _ _)).pow).mono ?_
  rintro e w6 ⟨rfl, hb6⟩
  have HB6 : Hid (Below (w.alloc (.cells #[.int .i64 0, .int .i64 0] 23)).heap.size (w.alloc (.cells #[.int .i64 0, .int .i64 0] 23)) w6) := HB5.out.trans ((below_new hb6).mono HB5.out.size)
  have k0 := new_cell hb6 0
  have k1 := new_cell hb6 1
  obtain ⟨r0, r1, rf, rlt, rb⟩ := two_cells HB6.out
  have f0' := rf 0
  have f1' := rf 1
  have hne : w.heap.size ≠ w5.heap.size := by have := HB5.out.size; simp at this; omega
  have HRB : Hid (Below w.heap.size w w6) := rb
  clear hb6 rf rb
  rcases HANS.out with ⟨rfl, rfl, hv, rfl⟩ | ⟨hno, rfl, rfl, rfl, rfl⟩
  · obtain ⟨hv1, hv2⟩ := Prod.mk.inj hv
    obtain ⟨rfl, rfl⟩ := Prod.mk.inj hv1
    subst hv2
    have hg : (t.toList == t.toList) = true := beq_self_eq_true _
    clear hv hv1
    go_wp2_with fail
    obtain ⟨c0, c1⟩ := two_set (.int .i64 p) (.int .i64 q1) r0 r1
    have HB7 : Hid (Below w.heap.size w ((w6.setCell ⟨w.heap.size, 0, none⟩ (.int .i64 p)).setCell ⟨w.heap.size, 1, none⟩ (.int .i64 q1))) := (HRB.out.setCell (p := ⟨w.heap.size, 0, none⟩) (Nat.le_refl _) _).setCell (p := ⟨w.heap.size, 1, none⟩) (Nat.le_refl _) _
    generalize (w6.setCell ⟨w.heap.size, 0, none⟩ (.int .i64 p)).setCell ⟨w.heap.size, 1, none⟩ (.int .i64 q1) = w7 at c0 c1 HB7 ⊢
    refine bodyPost_ret (by simp [results, Tryd.results6, go_sem, c0, c1]; try rfl) rfl ?_
    exact ⟨rfl, HB7.out⟩
  · by_cases hd : d = 0
    · have hts : t ≠ s := by
        rcases hno with h | h
        · exact absurd hd h
        · exact h
      have hg : (t.toList == s.toList) = false := by
        rw [beq_eq_false_iff_ne, ByteArray.toList_eq, ByteArray.toList_eq]
        intro e; apply hts; apply ByteArray.ext; apply Array.ext'; exact e
      subst hd
      clear hts hno
      go_wp2_with fail
      obtain ⟨c0, c1⟩ := two_set (.int .i64 0) (.int .i64 0) r0 r1
      have HB7 : Hid (Below w.heap.size w ((w6.setCell ⟨w.heap.size, 0, none⟩ (.int .i64 0)).setCell ⟨w.heap.size, 1, none⟩ (.int .i64 0))) := (HRB.out.setCell (p := ⟨w.heap.size, 0, none⟩) (Nat.le_refl _) _).setCell (p := ⟨w.heap.size, 1, none⟩) (Nat.le_refl _) _
      generalize (w6.setCell ⟨w.heap.size, 0, none⟩ (.int .i64 0)).setCell ⟨w.heap.size, 1, none⟩ (.int .i64 0) = w7 at c0 c1 HB7 ⊢
      refine bodyPost_ret (by simp [results, Tryd.results6, go_sem, c0, c1]; try rfl) rfl ?_
      exact ⟨rfl, HB7.out⟩
    · have hdb : (d != 0) = true := by simpa using hd
      clear hno hd
      go_wp2_with fail
      obtain ⟨c0, c1⟩ := two_set (.int .i64 0) (.int .i64 0) r0 r1
      have HB7 : Hid (Below w.heap.size w ((w6.setCell ⟨w.heap.size, 0, none⟩ (.int .i64 0)).setCell ⟨w.heap.size, 1, none⟩ (.int .i64 0))) := (HRB.out.setCell (p := ⟨w.heap.size, 0, none⟩) (Nat.le_refl _) _).setCell (p := ⟨w.heap.size, 1, none⟩) (Nat.le_refl _) _
      generalize (w6.setCell ⟨w.heap.size, 0, none⟩ (.int .i64 0)).setCell ⟨w.heap.size, 1, none⟩ (.int .i64 0) = w7 at c0 c1 HB7 ⊢
      refine bodyPost_ret (by simp [results, Tryd.results6, go_sem, c0, c1]; try rfl) rfl ?_
      exact ⟨rfl, HB7.out⟩
end Go.Proofs.YtkmbhgbmdeoppacDoor

/-
  The walk through SpanContentBack: it answers true and turns nothing that was there; a text is no longer than Go allows.
-/
namespace Go.Proofs.YtkmbhgbmdeoppacDoor
open Go.RowKit

theorem paC_quad (s : List UInt8) : ∃ a b z c, paC s = (((a, b), z), c) := ⟨(paC s).1.1.1, (paC s).1.1.2, (paC s).1.2, (paC s).2, rfl⟩
theorem prC_quad (x : Wn) (n : Int) : ∃ (t : ByteArray) (c : Int), prC x n = (t.data.toList, c) := ⟨⟨(prC x n).1.toArray⟩, (prC x n).2, rfl⟩
theorem paC_fit {s : List UInt8} {a b z c : Int} (h : paC s = (((a, b), z), c)) : (Lit.int .i64 a).wf = true ∧ (Lit.int .i64 b).wf = true ∧ (Lit.int .i64 z).wf = true := by
  have fit : ∀ n : Int, -9223372036854775808 ≤ n → n ≤ 9223372036854775807 → (Lit.int .i64 n).wf = true := by
    intro n h1 h2
    simpa [Lit.wf, IntKind.min, IntKind.max, IntKind.signed, IntKind.bits] using And.intro h1 h2
  rcases paC_two s with ⟨x, size, h2⟩ | h2
  · rw [h2] at h
    obtain ⟨h3, _⟩ := Prod.mk.inj h
    obtain ⟨h4, h5⟩ := Prod.mk.inj h3
    subst h4 h5
    have := okC_is (paC_ok h2).1
    simp only at this
    exact ⟨fit _ (by omega) (by omega), fit _ (by omega) (by omega), fit _ (by omega) (by omega)⟩
  · rw [h2] at h
    obtain ⟨h3, _⟩ := Prod.mk.inj h
    obtain ⟨h4, h5⟩ := Prod.mk.inj h3
    obtain ⟨h6, h7⟩ := Prod.mk.inj h4
    subst h5 h6 h7
    exact ⟨fit _ (by omega) (by omega), fit _ (by omega) (by omega), fit _ (by omega) (by omega)⟩
set_option maxHeartbeats 4000000 in
set_option maxRecDepth 100000 in
theorem walkSpanContentBack (a0 b0 a1 : Int) (a2 : ByteArray) (w : World) (z0 : (Lit.int .i64 a0).wf = true) (y0 : (Lit.int .i64 b0).wf = true) (z1 : (Lit.int .i64 a1).wf = true) (z2 : a2.size ≤ 140737488351232) (ht : STabs w) :
    Calls Tryd.prog 3 #[.agg #[.int .i64 a0, .int .i64 b0], .int .i64 a1, .string a2] w fun e w' => e = .returned (.bool true) ∧ Below w.heap.size w w' := by
  obtain ⟨t, c, hp⟩ := prC_quad (a0, b0) a1
  obtain ⟨p, q, n, f, hr⟩ := paC_quad a2.data.toList
  have HP : Hid (prC (a0, b0) a1 = (t.data.toList, c)) := hp
  have HR : Hid (paC a2.data.toList = (((p, q), n), f)) := hr
  have HFIT : Hid ((Lit.int .i64 a0).wf = true ∧ (Lit.int .i64 b0).wf = true ∧ (Lit.int .i64 a1).wf = true) := ⟨z0, y0, z1⟩
  have HFI2 : Hid ((Lit.int .i64 p).wf = true ∧ (Lit.int .i64 q).wf = true ∧ (Lit.int .i64 n).wf = true) := paC_fit hr
  have HSM : Hid (a2.size ≤ 140737488351232) := z2
  have HST : Hid (STabs w) := ht
  have HAGAIN : Hid (f = 0 → prC (p, q) n = (a2.data.toList, 0)) := by
    intro h
    subst h
    obtain ⟨h1, h2⟩ := paC_ok hr
    rw [prC_ok h1, h2]
  have HTHERE : Hid (c = 0 → paC t.data.toList = (((a0, b0), a1), 0) ∧ t.size ≤ 140737488351232) := by
    intro h
    subst h
    cases ho : okC (a0, b0) a1 with
    | false => rw [prC_bad ho] at hp; cases (Prod.mk.inj hp).2
    | true =>
      rw [prC_ok ho] at hp
      have h1 := (Prod.mk.inj hp).1
      refine ⟨by rw [← h1]; exact paC_back ho, ?_⟩
      rw [← size_list, ← h1]
      have := ctB_len ho
      omega
  have HNOT : Hid (¬ c = 0 → t = ⟨#[]⟩) := by
    intro h
    cases ho : okC (a0, b0) a1 with
    | true => rw [prC_ok ho] at hp; exact absurd (Prod.mk.inj hp).2.symm h
    | false =>
      rw [prC_bad ho] at hp
      apply ByteArray.ext; apply Array.ext'; exact (Prod.mk.inj hp).1.symm
  clear hp hr z0 y0 z1 z2 ht
  go_enter Tryd.func3, Tryd.ntmps3
  go_wp2_with fail
  refine (scprint_at a0 b0 a1 t c HP.out _ (HST.out.below (below_alloc _ _)).pow).mono ?_
  rintro e w1 ⟨rfl, hb1⟩
  have HB1 : Hid (Below (w.alloc (.cells #[.int .i64 a0, .int .i64 b0] 23)).heap.size (w.alloc (.cells #[.int .i64 a0, .int .i64 b0] 23)) w1) := hb1
  clear hb1
  go_wp2_with fail
  refine (scparse_at a2 p q n f HR.out _ HSM.out (HST.out.below (below_new HB1.out))).mono ?_
  rintro e w2 ⟨rfl, hb2⟩
  have HB2 : Hid (Below (w.alloc (.cells #[.int .i64 a0, .int .i64 b0] 23)).heap.size (w.alloc (.cells #[.int .i64 a0, .int .i64 b0] 23)) w2) := HB1.out.trans (hb2.mono HB1.out.size)
  clear hb2 HB1
  go_wp2_with fail
  refine (scparse_at ⟨#[]⟩ 0 0 0 3 paC_nil _ (by decide) ((HST.out.below (below_new HB2.out)).below (below_alloc _ _))).mono ?_
  rintro e w3 ⟨rfl, hb3⟩
  obtain ⟨q0, q1, _, qs, qb⟩ := two_cells hb3
  have HB3 : Hid (Below (w.alloc (.cells #[.int .i64 a0, .int .i64 b0] 23)).heap.size (w.alloc (.cells #[.int .i64 a0, .int .i64 b0] 23)) w3) := HB2.out.trans (qb.mono HB2.out.size)
  clear hb3 HB2 qb
  by_cases hf : f = 0
  · subst hf
    have HA := HAGAIN.out rfl
    have HAH : Hid (prC (p, q) n = (a2.data.toList, 0)) := HA
    clear HA
    go_wp2_with fail
    refine (scprint_at p q n a2 0 HAH.out _ ((HST.out.below (below_new HB3.out)).below (below_alloc _ _)).pow).mono ?_
    rintro e w4 ⟨rfl, hb4⟩
    have HB4 : Hid (Below (w.alloc (.cells #[.int .i64 a0, .int .i64 b0] 23)).heap.size (w.alloc (.cells #[.int .i64 a0, .int .i64 b0] 23)) w4) := HB3.out.trans ((below_new hb4).mono HB3.out.size)
    clear hb4 HB3 q0 q1 qs
    by_cases hc : c = 0
    · subst hc
      obtain ⟨HT, HTS⟩ := HTHERE.out rfl
      have HTH : Hid (paC t.data.toList = (((a0, b0), a1), 0)) := HT
      clear HT
      go_wp2_with fail
      refine (scparse_at t a0 b0 a1 0 HTH.out _ HTS (HST.out.below (below_new HB4.out))).mono ?_
      rintro e w5 ⟨rfl, hb5⟩
      obtain ⟨k0, k1, _, ks, kb⟩ := two_cells (HB4.out.trans (hb5.mono HB4.out.size))
      clear hb5
      go_wp2_with fail
      go_ret
      exact ⟨by first | rfl | simp, kb.alloc kb.size _⟩
    · have hcb : (c != 0) = true := by simpa using hc
      have hte := HNOT.out hc
      subst hte
      go_wp2_with fail
      go_ret
      exact ⟨rfl, below_new HB4.out⟩
  · have hfb : (f == 0) = false := beq_eq_false_iff_ne.2 hf
    by_cases hc : c = 0
    · subst hc
      obtain ⟨HT, HTS⟩ := HTHERE.out rfl
      have HTH : Hid (paC t.data.toList = (((a0, b0), a1), 0)) := HT
      clear HT
      have HB4 : Hid (Below (w.alloc (.cells #[.int .i64 a0, .int .i64 b0] 23)).heap.size (w.alloc (.cells #[.int .i64 a0, .int .i64 b0] 23)) (w3.alloc (.cells #[.int .i64 0, .int .i64 0] 23))) := HB3.out.alloc HB3.out.size _
      go_wp2_with fail
      refine (scparse_at t a0 b0 a1 0 HTH.out _ HTS (HST.out.below (below_new HB4.out))).mono ?_
      rintro e w5 ⟨rfl, hb5⟩
      obtain ⟨k0, k1, _, ks, kb⟩ := two_cells (HB4.out.trans (hb5.mono HB4.out.size))
      clear hb5
      go_wp2_with fail
      go_ret
      exact ⟨by first | rfl | simp, kb.alloc kb.size _⟩
    · have hcb : (c != 0) = true := by simpa using hc
      have hte := HNOT.out hc
      subst hte
      have HBE := (below_new HB3.out)
      go_wp2_with fail
      go_ret
      exact ⟨rfl, HBE.alloc HBE.size _⟩
end Go.Proofs.YtkmbhgbmdeoppacDoor

/-
  A slice of pairs of numbers (wants, or slices of a body), as a plain list; no program is named here.
-/
namespace Go.Proofs.YtkmbhgbmdeoppacDoor
open Go.RowKit

def Wl (w : World) (v : Value) (ts : List Wn) : Prop :=
  ∃ ad cap, v = .slice ad ts.length cap ∧ ts.length ≤ cap ∧ cap ≤ maxLen ∧ (0 < ts.length → ∃ g off, ad = some ⟨g, off, none⟩ ∧ g < w.heap.size ∧
    ∀ (k : Nat) (h : k < ts.length), w.cell? ⟨g, off + k * 2, none⟩ = some (.int .i64 (ts[k]).1) ∧ w.cell? ⟨g, off + k * 2 + 1, none⟩ = some (.int .i64 (ts[k]).2))
theorem Wl.below {w w' : World} {v : Value} {ts : List Wn} (h : Wl w v ts) (hb : Below w.heap.size w w') : Wl w' v ts := by
  obtain ⟨ad, cap, hv, h1, h2, h3⟩ := h
  refine ⟨ad, cap, hv, h1, h2, fun h0 => ?_⟩
  obtain ⟨g, off, ha, hg, hc⟩ := h3 h0
  refine ⟨g, off, ha, Nat.lt_of_lt_of_le hg hb.size, fun k hk => ?_⟩
  obtain ⟨c1, c2⟩ := hc k hk
  exact ⟨(hb.cell (p := ⟨g, off + k * 2, none⟩) hg).trans c1, (hb.cell (p := ⟨g, off + k * 2 + 1, none⟩) hg).trans c2⟩
theorem Wl.nil (w : World) : Wl w (.slice none 0 0) [] := ⟨none, 0, rfl, Nat.le_refl _, by unfold maxLen; omega, fun h => absurd h (by simp)⟩
theorem Wl.own {w : World} {B : Nat} {e : TypeId} {v : Value} {ts : List Wn} (h : w.ownsRow B e 2 v ts.length (wns ts)) : Wl w v ts := by
  obtain ⟨ad, cap, hv, hcm, hnc, hc⟩ := own_form2 h
  refine ⟨ad, cap, hv, hnc, hcm, fun h0 => ?_⟩
  obtain ⟨g, ha, _, hg, hce⟩ := hc h0
  refine ⟨g, 0, ha, hg, fun k hk => ?_⟩
  obtain ⟨p1, p2⟩ := wns_get ts k hk
  rw [Nat.zero_add, hce _ (by omega), hce _ (by omega)]
  exact ⟨p1, p2⟩
theorem Wl.one (a b : Int) (w : World) (t : TypeId) : Wl (w.alloc (.cells #[.int .i64 a, .int .i64 b] t)) (.slice (some ⟨w.heap.size, 0, none⟩) 1 1) [(a, b)] := by
  refine ⟨_, 1, rfl, by simp, by unfold maxLen; omega, fun _ => ⟨w.heap.size, 0, rfl, by simp, fun k hk => ?_⟩⟩
  have hk0 : k = 0 := by simp at hk; omega
  subst hk0
  exact ⟨by simp, by simp⟩
/-- All numbers fit. -/
def WfW (ts : List Wn) : Prop := ∀ x ∈ ts, (Lit.int .i64 x.1).wf = true ∧ (Lit.int .i64 x.2).wf = true
theorem wf_int {n : Int} (h : (Lit.int .i64 n).wf = true) : -9223372036854775808 ≤ n ∧ n ≤ 9223372036854775807 := by
  simpa [Lit.wf, IntKind.min, IntKind.max, IntKind.signed, IntKind.bits] using h
end Go.Proofs.YtkmbhgbmdeoppacDoor

/-
  A list of fields that came in, opened as a plain list of names and values; no program is named here.
-/
namespace Go.Proofs.YtkmbhgbmdeoppacDoor
open Go.RowKit Go.ChangeShapes Go.WideShapes Go.Deep

def bytesOfV : Value → List UInt8
  | .string s => s.data.toList
  | _ => []
theorem add_form (b off n : Nat) : (⟨b, off, none⟩ : Addr).add n = ⟨b, off + n, none⟩ := by
  by_cases h0 : n = 0
  · subst h0; simp [Addr.add]
  · simp [Addr.add, h0]
def fl1 {H : Type} (y : Fld) : DataW H := .agg [.lit (.string y.1), .lit (.string y.2)]

theorem open_fl {H : Type} {enc : TypeId × Value → H} {P : Program} {w : World} {base : Nat} {spare : Nat → Bool} {held : Bool} {t e : TypeId} {f0 f1 : Field} {fuel : Nat} {v : Value} {x : DataW H × List MemPlace}
    (ht : P.underlying t = some (.slice e)) (he : P.underlying e = some (.struct #[f0, f1])) (ce : P.cellsOf e = 2) (o0 : f0.offset = 0) (o1 : f1.offset = 1) (c0 : P.cellsOf f0.type = 1) (c1 : P.cellsOf f1.type = 1)
    (s0 : P.underlying f0.type = some .string) (s1 : P.underlying f1.type = some .string) (h : DataW.trod enc P w base spare held fuel t [v] = some x) :
    ∃ (ls : List Fld) (sp : List (DataW H)), Fl w v ls ∧ Most maxLen ls ∧ (x.1 = .nil ∧ ls = [] ∨ x.1 = .slice (ls.map fl1) sp) := by
  rcases open_slice_pairs ht he ce o0 o1 c0 c1 h with ⟨hcs, hx⟩ | ⟨a, len, cap, m, n, V0, V1, D0, D1, P0, P1, hcs, _, hl, hm, hmm, hx, hi⟩
  · simp only [List.cons.injEq, and_true] at hcs
    subst hcs
    have hM : Most maxLen [] := fun y hy => by cases hy
    exact ⟨[], [], Fl.nil w, hM, Or.inl ⟨by rw [hx], rfl⟩⟩
  · simp only [List.cons.injEq, and_true] at hcs
    subst hcs
    have hlm : len ≤ m := by rw [hmm]; split <;> omega
    have each : ∀ i, i < len → V0 i = .string ⟨(bytesOfV (V0 i)).toArray⟩ ∧ V1 i = .string ⟨(bytesOfV (V1 i)).toArray⟩ ∧ D0 i = .lit (.string (bytesOfV (V0 i))) ∧ D1 i = .lit (.string (bytesOfV (V1 i))) ∧ (bytesOfV (V0 i)).length ≤ maxLen ∧ (bytesOfV (V1 i)).length ≤ maxLen := by
      intro i hil
      obtain ⟨_, _, t0, t1⟩ := hi i (by omega)
      obtain ⟨a0, ha0, hd0, hz0⟩ := DataW.trod_string s0 t0
      obtain ⟨a1, ha1, hd1, hz1⟩ := DataW.trod_string s1 t1
      simp only [List.cons.injEq, and_true] at ha0 ha1
      simp only [Prod.mk.injEq] at hd0 hd1
      rw [ha0, ha1, hd0.1, hd1.1]
      refine ⟨rfl, rfl, rfl, rfl, ?_, ?_⟩
      · show a0.data.toList.length ≤ maxLen; rw [size_list]; exact hz0
      · show a1.data.toList.length ≤ maxLen; rw [size_list]; exact hz1
    refine ⟨(List.range len).map fun i => (bytesOfV (V0 i), bytesOfV (V1 i)), (List.range (m - len)).map fun j => .agg [D0 (len + j), D1 (len + j)], ⟨some a, cap, by simp, by simpa using hl, hm, fun h0 => ?_⟩, ?_, .inr ?_⟩
    rotate_left
    · intro y hy
      obtain ⟨i, hir, rfl⟩ := List.mem_map.1 hy
      obtain ⟨_, _, _, _, h5, h6⟩ := each i (List.mem_range.1 hir)
      exact ⟨h5, h6⟩
    · rw [hx]
      show DataW.slice _ _ = DataW.slice _ _
      congr 1
      rw [List.map_map]
      refine List.map_congr_left fun i hir => ?_
      obtain ⟨_, _, h3, h4, _⟩ := each i (List.mem_range.1 hir)
      show DataW.agg [D0 i, D1 i] = DataW.agg _
      rw [h3, h4]
    · simp only [List.length_map, List.length_range] at h0 ⊢
      obtain ⟨b, off, spot⟩ := a
      have hc0 := (hi 0 (by omega)).1
      have hspot : spot = none := by simpa [Addr.add] using World.cell?_spot hc0
      subst hspot
      refine ⟨b, off, rfl, ?_, fun k hk => ?_⟩
      · rw [add_form] at hc0
        exact cell_in hc0
      · obtain ⟨q0, q1, _⟩ := hi k (by omega)
        obtain ⟨h1, h2, _⟩ := each k hk
        rw [add_form] at q0 q1
        rw [List.getElem_map, List.getElem_range]
        refine ⟨?_, ?_⟩
        · rw [q0, h1]; rfl
        · rw [Nat.add_assoc, q1, h2]; rfl
end Go.Proofs.YtkmbhgbmdeoppacDoor

/-
  Pairs of numbers that came in, opened as plain data; no program is named here.
-/
namespace Go.Proofs.YtkmbhgbmdeoppacDoor
open Go.RowKit Go.ChangeShapes Go.WideShapes Go.Deep

def intOfW : Value → Int
  | .int _ n => n
  | _ => 0
def wn1 {H : Type} (y : Wn) : DataW H := .agg [.lit (.int .i64 y.1), .lit (.int .i64 y.2)]

theorem open_wl {H : Type} {enc : TypeId × Value → H} {P : Program} {w : World} {base : Nat} {spare : Nat → Bool} {held : Bool} {t e : TypeId} {f0 f1 : Field} {fuel : Nat} {v : Value} {x : DataW H × List MemPlace}
    (ht : P.underlying t = some (.slice e)) (he : P.underlying e = some (.struct #[f0, f1])) (ce : P.cellsOf e = 2) (o0 : f0.offset = 0) (o1 : f1.offset = 1) (c0 : P.cellsOf f0.type = 1) (c1 : P.cellsOf f1.type = 1)
    (s0 : P.underlying f0.type = some (.int .i64)) (s1 : P.underlying f1.type = some (.int .i64)) (h : DataW.trod enc P w base spare held fuel t [v] = some x) :
    ∃ (ts : List Wn) (sp : List (DataW H)), Wl w v ts ∧ WfW ts ∧ (x.1 = .nil ∧ ts = [] ∨ x.1 = .slice (ts.map wn1) sp) := by
  rcases open_slice_pairs ht he ce o0 o1 c0 c1 h with ⟨hcs, hx⟩ | ⟨a, len, cap, m, n, V0, V1, D0, D1, P0, P1, hcs, _, hl, hm, hmm, hx, hi⟩
  · simp only [List.cons.injEq, and_true] at hcs
    subst hcs
    have hM : WfW [] := fun y hy => by cases hy
    exact ⟨[], [], Wl.nil w, hM, Or.inl ⟨by rw [hx], rfl⟩⟩
  · simp only [List.cons.injEq, and_true] at hcs
    subst hcs
    have hlm : len ≤ m := by rw [hmm]; split <;> omega
    have each : ∀ i, i < len → V0 i = .int .i64 (intOfW (V0 i)) ∧ V1 i = .int .i64 (intOfW (V1 i)) ∧ D0 i = .lit (.int .i64 (intOfW (V0 i))) ∧ D1 i = .lit (.int .i64 (intOfW (V1 i))) ∧ (Lit.int .i64 (intOfW (V0 i))).wf = true ∧ (Lit.int .i64 (intOfW (V1 i))).wf = true := by
      intro i hil
      obtain ⟨_, _, t0, t1⟩ := hi i (by omega)
      obtain ⟨a0, ha0, hd0, hz0⟩ := DataW.trod_int s0 t0
      obtain ⟨a1, ha1, hd1, hz1⟩ := DataW.trod_int s1 t1
      simp only [List.cons.injEq, and_true] at ha0 ha1
      simp only [Prod.mk.injEq] at hd0 hd1
      rw [ha0, ha1, hd0.1, hd1.1]
      exact ⟨rfl, rfl, rfl, rfl, hz0, hz1⟩
    refine ⟨(List.range len).map fun i => (intOfW (V0 i), intOfW (V1 i)), (List.range (m - len)).map fun j => .agg [D0 (len + j), D1 (len + j)], ⟨some a, cap, by simp, by simpa using hl, hm, fun h0 => ?_⟩, ?_, .inr ?_⟩
    rotate_left
    · intro y hy
      obtain ⟨i, hir, rfl⟩ := List.mem_map.1 hy
      obtain ⟨_, _, _, _, h5, h6⟩ := each i (List.mem_range.1 hir)
      exact ⟨h5, h6⟩
    · rw [hx]
      show DataW.slice _ _ = DataW.slice _ _
      congr 1
      rw [List.map_map]
      refine List.map_congr_left fun i hir => ?_
      obtain ⟨_, _, h3, h4, _⟩ := each i (List.mem_range.1 hir)
      show DataW.agg [D0 i, D1 i] = DataW.agg _
      rw [h3, h4]
    · simp only [List.length_map, List.length_range] at h0 ⊢
      obtain ⟨b, off, spot⟩ := a
      have hc0 := (hi 0 (by omega)).1
      have hspot : spot = none := by simpa [Addr.add] using World.cell?_spot hc0
      subst hspot
      refine ⟨b, off, rfl, ?_, fun k hk => ?_⟩
      · rw [add_form] at hc0
        exact cell_in hc0
      · obtain ⟨q0, q1, _⟩ := hi k (by omega)
        obtain ⟨h1, h2, _⟩ := each k hk
        rw [add_form] at q0 q1
        rw [List.getElem_map, List.getElem_range]
        refine ⟨?_, ?_⟩
        · rw [q0, h1]; rfl
        · rw [Nat.add_assoc, q1, h2]; rfl
end Go.Proofs.YtkmbhgbmdeoppacDoor

/-
  What IsToken and inToken compute, each a contract over the program's text; no condition but that a string is no longer than Go allows.
-/
namespace Go.Proofs.YtkmbhgbmdeoppacDoor
open Go.RowKit

def signs : List UInt8 := [33, 35, 36, 37, 38, 39, 42, 43, 45, 46, 94, 95, 96, 124, 126]

theorem isTok_a (c : UInt8) (h : 97 ≤ (c.toNat : Int) ∧ (c.toNat : Int) ≤ 122) : isTok c = true := by
  unfold isTok; simp [UInt8.le_iff_toNat_le]; omega
theorem isTok_b (c : UInt8) (h : 65 ≤ (c.toNat : Int) ∧ (c.toNat : Int) ≤ 90) : isTok c = true := by
  unfold isTok; simp [UInt8.le_iff_toNat_le]; omega
theorem isTok_c (c : UInt8) (h : 48 ≤ (c.toNat : Int) ∧ (c.toNat : Int) ≤ 57) : isTok c = true := by
  unfold isTok; simp [UInt8.le_iff_toNat_le]; omega
theorem isTok_d (c : UInt8) (ha : ¬ (97 ≤ (c.toNat : Int) ∧ (c.toNat : Int) ≤ 122)) (hb : ¬ (65 ≤ (c.toNat : Int) ∧ (c.toNat : Int) ≤ 90)) (hc : ¬ (48 ≤ (c.toNat : Int) ∧ (c.toNat : Int) ≤ 57)) :
    isTok c = decide (0 ≤ Lib.indexByte [33, 35, 36, 37, 38, 39, 42, 43, 45, 46, 94, 95, 96, 124, 126] c) := by
  rw [← Lib.contains_iff_indexByte]
  have a : (97 ≤ c && c ≤ 122) = false := by rw [Bool.eq_false_iff]; simp [UInt8.le_iff_toNat_le]; omega
  have b : (65 ≤ c && c ≤ 90) = false := by rw [Bool.eq_false_iff]; simp [UInt8.le_iff_toNat_le]; omega
  have d : (48 ≤ c && c ≤ 57) = false := by rw [Bool.eq_false_iff]; simp [UInt8.le_iff_toNat_le]; omega
  unfold isTok
  rw [a, b, d]; rfl

set_option maxHeartbeats 400000 in
set_option maxRecDepth 100000 in
theorem inToken_any (c : UInt8) (w : World) :
    Calls Tryd.prog 24 #[.int .u8 (c.toNat : Int)] w fun e w' => e = .returned (.bool (isTok c)) ∧ w' = w := by
  have hlt : (c.toNat : Int) < 256 := by have := c.toNat_lt; omega
  have hge : 0 ≤ (c.toNat : Int) := by omega
  rcases (show (c.toNat : Int) < 48 ∨ (48 ≤ (c.toNat : Int) ∧ (c.toNat : Int) ≤ 57) ∨ (58 ≤ (c.toNat : Int) ∧ (c.toNat : Int) ≤ 64) ∨ (65 ≤ (c.toNat : Int) ∧ (c.toNat : Int) ≤ 90) ∨ (91 ≤ (c.toNat : Int) ∧ (c.toNat : Int) ≤ 96) ∨ (97 ≤ (c.toNat : Int) ∧ (c.toNat : Int) ≤ 122) ∨ 123 ≤ (c.toNat : Int) from by omega) with h | ⟨h, h'⟩ | ⟨h, h'⟩ | ⟨h, h'⟩ | ⟨h, h'⟩ | ⟨h, h'⟩ | h
  all_goals first
    | rw [isTok_a c (by omega)]
    | rw [isTok_b c (by omega)]
    | rw [isTok_c c (by omega)]
    | rw [isTok_d c (by omega) (by omega) (by omega)]
  all_goals
    go_enter Tryd.func24, Tryd.ntmps24
    go_wp2_with (go_at_call 33; refine (Tryd.strings_IndexByte _ _ _).mono ?_; rintro e w' ⟨rfl, rfl⟩)
    go_ret
    exact ⟨rfl, rfl⟩

set_option maxHeartbeats 400000 in
set_option maxRecDepth 100000 in
theorem isToken_any (s : ByteArray) (w : World) (hs : s.size ≤ maxLen) :
    Calls Tryd.prog 15 #[.string s] w fun e w' => e = .returned (.bool (token s.data.toList)) ∧ w' = w := by
  unfold maxLen at hs
  go_enter Tryd.func15, Tryd.ntmps15
  go_wp2_with fail
  go_loop [6] (fun i => ∃ k : Nat, k ≤ s.size ∧ i = .int .i64 k ∧ (s.data.toList.take k).all isTok = true) (fun i => s.size - (intOf i).toNat)
  case atStart => exact ⟨0, Nat.zero_le _, rfl, rfl⟩
  case round =>
    obtain ⟨k, hk, rfl, hall⟩ := hrel
    have HA : Hid ((s.data.toList.take k).all isTok = true) := hall
    clear hall
    by_cases hlt : k < s.size
    · cases ht : isTok s[k]
      · have HT : Hid (isTok s[k] = false) := ht
        clear ht
        go_wp2_with fail
        refine (inToken_any _ _).mono ?_
        rintro e w' ⟨rfl, rfl⟩
        rw [HT.out]
        go_wp2_with fail
        go_ret
        refine ⟨ret_bool ?_, rfl⟩
        rw [token, all_false s isTok k hlt HT.out, Bool.and_false]
      · have HT : Hid (isTok s[k] = true) := ht
        clear ht
        go_wp2_with fail
        refine (inToken_any _ _).mono ?_
        rintro e w' ⟨rfl, rfl⟩
        rw [HT.out]
        go_wp2_with fail
        go_round
        case rel => exact ⟨k + 1, by omega, by go_num, by rw [take_snoc s k hlt, List.all_append, HA.out]; simp [HT.out]⟩
        case measure => simp [intOf]; omega
    · obtain rfl : k = s.size := by omega
      go_wp2_with fail
      go_ret
      refine ⟨ret_bool ?_, rfl⟩
      have h := HA.out
      rw [take_all] at h
      rw [token, h, ByteArray.toList_eq, Bool.and_true]
end Go.Proofs.YtkmbhgbmdeoppacDoor

/-
  Several slices of a body in one text, in plain lists; no program is named here.
-/
namespace Go.Proofs.YtkmbhgbmdeoppacDoor
open Go.RowKit

def okBn (b : List UInt8) : Bool := token b && decide (b.length ≤ 30)
/-- Ahead of each slice. -/
def hdB (b : List UInt8) : List UInt8 := [45, 45] ++ (b ++ [13, 10, 67, 111, 110, 116, 101, 110, 116, 45, 82, 97, 110, 103, 101, 58, 32])
def tlB (b : List UInt8) : List UInt8 := [45, 45] ++ (b ++ [45, 45, 13, 10])
def ctOf (body : List UInt8) (x : Wn) : List UInt8 := (body.drop x.1.toNat).take (x.2.toNat - x.1.toNat)
/-- A slice's text: what its range says, and so many bytes. -/
def ptB (b : List UInt8) (size : Int) (x : Wn) (t : List UInt8) : List UInt8 := hdB b ++ (ctB x size ++ ([13, 10, 13, 10] ++ (t ++ [13, 10])))
def bdl (b body : List UInt8) (l : List Wn) : List UInt8 × Int :=
  if okBn b = false then ([], 3) else if l.length = 0 ∨ 20 < l.length then ([], 1)
  else if l.all (fun x => okC x body.length) = true then (l.flatMap (fun x => ptB b body.length x (ctOf body x)) ++ tlB b, 0) else ([], 1)
theorem bdl_syn {b body : List UInt8} {l : List Wn} (h : okBn b = false) : bdl b body l = ([], 3) := by unfold bdl; rw [if_pos h]
theorem bdl_arg {b body : List UInt8} {l : List Wn} (h : okBn b = true) (h2 : l.length = 0 ∨ 20 < l.length) : bdl b body l = ([], 1) := by
  unfold bdl; rw [if_neg (by rw [h]; simp), if_pos h2]
theorem bdl_bad {b body : List UInt8} {l : List Wn} (h : okBn b = true) (h2 : ¬ (l.length = 0 ∨ 20 < l.length)) (h3 : l.all (fun x => okC x body.length) = false) : bdl b body l = ([], 1) := by
  unfold bdl; rw [if_neg (by rw [h]; simp), if_neg h2, if_neg (by rw [h3]; simp)]
theorem bdl_ok {b body : List UInt8} {l : List Wn} (h : okBn b = true) (h2 : ¬ (l.length = 0 ∨ 20 < l.length)) (h3 : l.all (fun x => okC x body.length) = true) :
    bdl b body l = (l.flatMap (fun x => ptB b body.length x (ctOf body x)) ++ tlB b, 0) := by
  unfold bdl; rw [if_neg (by rw [h]; simp), if_neg h2, if_pos h3]
theorem bdl_is {b body s : List UInt8} {l : List Wn} (h : bdl b body l = (s, 0)) : okBn b = true ∧ 1 ≤ l.length ∧ l.length ≤ 20 ∧ (∀ x ∈ l, okC x body.length = true) ∧ s = l.flatMap (fun x => ptB b body.length x (ctOf body x)) ++ tlB b := by
  cases h1 : okBn b
  · rw [bdl_syn h1] at h; cases (Prod.mk.inj h).2
  · by_cases h2 : l.length = 0 ∨ 20 < l.length
    · rw [bdl_arg h1 h2] at h; cases (Prod.mk.inj h).2
    · cases h3 : l.all (fun x => okC x body.length)
      · rw [bdl_bad h1 h2 h3] at h; cases (Prod.mk.inj h).2
      · rw [bdl_ok h1 h2 h3] at h
        exact ⟨rfl, by omega, by omega, fun x hx => List.all_eq_true.1 h3 x hx, (Prod.mk.inj h).1.symm⟩
theorem bdl_code (b body : List UInt8) (l : List Wn) : (bdl b body l).2 = 0 ∨ (bdl b body l).1 = [] := by
  unfold bdl
  split
  · exact .inr rfl
  · split
    · exact .inr rfl
    · split
      · exact .inl rfl
      · exact .inr rfl
theorem ctOf_len {body : List UInt8} {x : Wn} (h : okC x body.length = true) : (ctOf body x).length = x.2.toNat - x.1.toNat := by
  obtain ⟨h1, h2, h3, h4⟩ := okC_is h
  unfold ctOf
  rw [List.length_take, List.length_drop]; omega
theorem hd_len (b : List UInt8) : (hdB b).length = b.length + 19 := by unfold hdB; simp
theorem tl_len (b : List UInt8) : (tlB b).length = b.length + 6 := by unfold tlB; simp
theorem hd_pre (b r : List UInt8) : Lib.hasPrefix (hdB b ++ r) (hdB b) = true := by
  unfold Lib.hasPrefix
  exact List.isPrefixOf_iff_prefix.2 ⟨r, rfl⟩
theorem hd_drop (b r : List UInt8) : (hdB b ++ r).drop (hdB b).length = r := by simp
theorem tl_pre (b : List UInt8) : Lib.hasPrefix (tlB b) (hdB b) = false := by
  cases h : Lib.hasPrefix (tlB b) (hdB b)
  · rfl
  · exfalso
    unfold Lib.hasPrefix at h
    obtain ⟨r, hr⟩ := List.isPrefixOf_iff_prefix.1 h
    unfold hdB tlB at hr
    rw [List.append_assoc] at hr
    have h1 := List.append_cancel_left hr
    rw [List.append_assoc] at h1
    have h2 := List.append_cancel_left h1
    simp at h2
theorem ct_no13 (x : Wn) (size : Int) : ∀ c ∈ ctB x size, c ≠ 13 := ctB_no x size 13 (by decide) (by decide)
/-- Up to the first 13 both texts are alike. -/
theorem ct_split {x y : Wn} {n m : Int} {r q : List UInt8} (h : ctB x n ++ 13 :: r = ctB y m ++ 13 :: q) : ctB x n = ctB y m ∧ r = q := by
  have e : ∀ (a : List UInt8) (t : List UInt8), (∀ c ∈ a, c ≠ 13) → (a ++ 13 :: t).takeWhile (· != 13) = a := by
    intro a t ha
    rw [List.takeWhile_append_of_pos (by intro c hc; simpa using ha c hc)]
    simp
  have h1 := congrArg (List.takeWhile (· != 13)) h
  rw [e _ _ (ct_no13 x n), e _ _ (ct_no13 y m)] at h1
  rw [h1] at h
  have h2 := List.append_cancel_left h
  exact ⟨h1, (List.cons.inj h2).2⟩
theorem ct_inj {x y : Wn} {n m : Int} (hx : okC x n = true) (hy : okC y m = true) (h : ctB x n = ctB y m) : x = y ∧ n = m := by
  have h1 := paC_back hx
  rw [h, paC_back hy] at h1
  have h2 := (Prod.mk.inj (Prod.mk.inj h1).1)
  exact ⟨h2.1.symm, h2.2.symm⟩
/-- How one slice's text begins. -/
theorem pt_split {b : List UInt8} {n m : Int} {x y : Wn} {t u r q : List UInt8} (hx : okC x n = true) (hy : okC y m = true) (hl : t.length = x.2.toNat - x.1.toNat) (hu : u.length = y.2.toNat - y.1.toNat)
    (h : ptB b n x t ++ r = ptB b m y u ++ q) : x = y ∧ n = m ∧ t = u ∧ r = q := by
  unfold ptB at h
  simp only [List.append_assoc] at h
  have h1 := List.append_cancel_left h
  obtain ⟨h2, h3⟩ := ct_split (r := [10, 13, 10] ++ (t ++ ([13, 10] ++ r))) (q := [10, 13, 10] ++ (u ++ ([13, 10] ++ q))) h1
  obtain ⟨h4, h5⟩ := ct_inj hx hy h2
  subst h4
  have h6 := List.append_cancel_left h3
  have h7 := List.append_inj h6 (by rw [hl, hu])
  exact ⟨rfl, h5, h7.1, List.append_cancel_left h7.2⟩
/-- Slices and their bytes are known by the text. -/
theorem bdl_one {b : List UInt8} {body body' s : List UInt8} {l l' : List Wn} (h : bdl b body l = (s, 0)) (h' : bdl b body' l' = (s, 0)) : l = l' ∧ l.map (ctOf body) = l'.map (ctOf body') ∧ body.length = body'.length := by
  obtain ⟨_, k1, _, ho, e⟩ := bdl_is h
  obtain ⟨_, k2, _, ho', e'⟩ := bdl_is h'
  have gen : ∀ (l l' : List Wn) (n m : Int), (∀ x ∈ l, okC x n = true) → (∀ x ∈ l', okC x m = true) → (∀ x ∈ l, (ctOf body x).length = x.2.toNat - x.1.toNat) → (∀ x ∈ l', (ctOf body' x).length = x.2.toNat - x.1.toNat) →
      l.flatMap (fun x => ptB b n x (ctOf body x)) ++ tlB b = l'.flatMap (fun x => ptB b m x (ctOf body' x)) ++ tlB b → l = l' ∧ l.map (ctOf body) = l'.map (ctOf body') ∧ (l ≠ [] → n = m) := by
    intro l
    induction l with
    | nil =>
      intro l' n m _ _ _ _ h
      cases l' with
      | nil => exact ⟨rfl, rfl, fun h => absurd rfl h⟩
      | cons y l' =>
        exfalso
        rw [List.flatMap_nil, List.nil_append, List.flatMap_cons] at h
        have h1 := tl_pre b
        rw [h] at h1
        unfold ptB at h1
        simp only [List.append_assoc] at h1
        rw [hd_pre] at h1; cases h1
    | cons x l ih =>
      intro l' n m h1 h2 h3 h4 h
      cases l' with
      | nil =>
        exfalso
        rw [List.flatMap_nil, List.nil_append, List.flatMap_cons] at h
        have h1 := tl_pre b
        rw [← h] at h1
        unfold ptB at h1
        simp only [List.append_assoc] at h1
        rw [hd_pre] at h1; cases h1
      | cons y l' =>
        rw [List.flatMap_cons, List.flatMap_cons, List.append_assoc, List.append_assoc] at h
        obtain ⟨e1, e2, e3, e4⟩ := pt_split (h1 x (by simp)) (h2 y (by simp)) (h3 x (by simp)) (h4 y (by simp)) h
        subst e1 e2
        obtain ⟨e5, e6, _⟩ := ih l' n n (fun z hz => h1 z (by simp [hz])) (fun z hz => h2 z (by simp [hz])) (fun z hz => h3 z (by simp [hz])) (fun z hz => h4 z (by simp [hz])) e4
        subst e5
        exact ⟨rfl, by rw [List.map_cons, List.map_cons, e3, e6], fun _ => rfl⟩
  obtain ⟨r1, r2, r3⟩ := gen l l' body.length body'.length ho ho' (fun x hx => ctOf_len (ho x hx)) (fun x hx => ctOf_len (ho' x hx)) (by rw [← e, ← e'])
  refine ⟨r1, r2, ?_⟩
  have : l ≠ [] := by intro h0; rw [h0] at k1; simp at k1
  have := r3 this
  omega
/-- What Unbundle answers. -/
def UnbR (b s : List UInt8) (size : Int) (l : List Wn) (ts : List (List UInt8)) (c : Int) : Prop :=
  (c = 0 ∧ ∃ body : List UInt8, (body.length : Int) = size ∧ bdl b body l = (s, 0) ∧ ts = l.map (ctOf body)) ∨
  (c = 3 ∧ l = [] ∧ ts = [] ∧ ∀ (body : List UInt8) (l : List Wn), (body.length : Int) = size → bdl b body l ≠ (s, 0))
theorem UnbR.one {b s : List UInt8} {size : Int} {l l' : List Wn} {ts ts' : List (List UInt8)} {c c' : Int} (h : UnbR b s size l ts c) (h' : UnbR b s size l' ts' c') : l = l' ∧ ts = ts' ∧ c = c' := by
  rcases h with ⟨rfl, body, h1, h2, rfl⟩ | ⟨rfl, rfl, rfl, h1⟩ <;> rcases h' with ⟨rfl, body', h1', h2', rfl⟩ | ⟨rfl, rfl, rfl, h1'⟩
  · obtain ⟨e1, e2, _⟩ := bdl_one h2 h2'
    exact ⟨e1, e2, rfl⟩
  · exact absurd h2 (h1' body l h1)
  · exact absurd h2' (h1 body' l' h1')
  · exact ⟨rfl, rfl, rfl⟩
theorem UnbR.back {b body s : List UInt8} {l : List Wn} (h : bdl b body l = (s, 0)) : UnbR b s body.length l (l.map (ctOf body)) 0 := .inl ⟨rfl, body, rfl, h, rfl⟩
theorem UnbR.bad {b s : List UInt8} {size : Int} (h : okBn b = false ∨ size < 1 ∨ 99999 < size) : UnbR b s size [] [] 3 := by
  refine .inr ⟨rfl, rfl, rfl, fun body l h1 h2 => ?_⟩
  obtain ⟨k1, k2, k3, k4, _⟩ := bdl_is h2
  rcases h with h | h | h
  · rw [h] at k1; cases k1
  · obtain ⟨x, r, rfl⟩ : ∃ x r, l = x :: r := by
      cases l with
      | nil => simp at k2
      | cons x r => exact ⟨x, r, rfl⟩
    have := okC_is (k4 x (by simp))
    omega
  · obtain ⟨x, r, rfl⟩ : ∃ x r, l = x :: r := by
      cases l with
      | nil => simp at k2
      | cons x r => exact ⟨x, r, rfl⟩
    have := okC_is (k4 x (by simp))
    omega
end Go.Proofs.YtkmbhgbmdeoppacDoor
