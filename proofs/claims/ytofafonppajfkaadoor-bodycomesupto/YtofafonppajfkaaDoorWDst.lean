/-
  How a Decoder of package body lies in memory: its cells, its two rows of bytes, and the function value that says what may come next.
-/
import Derived.Test.YtofafonppajfkaaDoorWDec
import Derived.Test.YtofafonppajfkaaDoorSpecDr
import Derived.Test.YtofafonppajfkaaDoorOwn
import Derived.Test.YtofafonppajfkaaDoorWInfo9
namespace Go.Proofs.YtofafonppajfkaaDoor
open Go.RowKit

def u8s (l : List UInt8) : List Value := l.map fun c => .int .u8 (c.toNat : Int)
theorem u8s_len (l : List UInt8) : (u8s l).length = l.length := by simp [u8s]
theorem u8s_snoc (l : List UInt8) (c : UInt8) : u8s (l ++ [c]) = u8s l ++ [.int .u8 (c.toNat : Int)] := by simp [u8s]

/-- The cells that function values hold stay. -/
def KeepC (w w' : World) : Prop := ∀ (a : Nat) (v : Value) (t : TypeId), (t = 3 ∨ t = 9 ∨ t = 63) → w.heap[a]? = some (.cells #[v] t) → w'.heap[a]? = some (.cells #[v] t)
theorem KeepC.refl (w : World) : KeepC w w := fun _ _ _ _ h => h
theorem KeepC.trans {a b c : World} (h : KeepC a b) (k : KeepC b c) : KeepC a c := fun i v t ht hi => k i v t ht (h i v t ht hi)
theorem KeepC.below {w w' : World} (h : Below w.heap.size w w') : KeepC w w' := fun a _ _ _ hi => (h.block a (Array.getElem?_eq_some_iff.1 hi).1).trans hi
theorem KeepC.set {w : World} {bd : Nat} {cs : Array Value} (hb : w.heap[bd]? = some (.cells cs 66)) (i : Nat) (v : Value) : KeepC w (w.setCell ⟨bd, i, none⟩ v) := by
  intro a u t ht hi
  have hne : a ≠ bd := by
    rintro rfl
    rw [hb] at hi
    have h := Option.some.inj hi
    injection h with h1 h2
    rcases ht with h | h | h <;> rw [h] at h2 <;> exact absurd h2 (by decide)
  rw [Below.heap_setCell _ _ _ _ (fun e => hne e)]
  exact hi
theorem KeepC.grown {w w' : World} {row : Option Nat} (hg : w.grownBy w' row) (hrow : ∀ g, row = some g → ∃ c, w.heap[g]? = some (.cells c 5)) : KeepC w w' := by
  intro a u t ht hi
  rw [hg.block a (Array.getElem?_eq_some_iff.1 hi).1 ?_]
  · exact hi
  · intro h
    obtain ⟨c, hc⟩ := hrow a h.symm
    rw [hi] at hc
    have h := Option.some.inj hc
    injection h with h1 h2
    rcases ht with h | h | h <;> rw [h] at h2 <;> exact absurd h2 (by decide)
theorem own5 {w : World} {B n : Nat} {v : Value} {xs : List Value} (h : w.ownsRow B 5 1 v n xs) : ∀ g, v.ownBlock = some g → ∃ c, w.heap[g]? = some (.cells c 5) := by
  intro g hg
  rcases h.2 with ⟨rfl, _⟩ | ⟨g', cap, cur, rfl, _, hgg, _⟩
  · simp [Value.ownBlock] at hg
  · simp [Value.ownBlock] at hg
    subst hg
    exact ⟨cur, hgg⟩
theorem cellH {w : World} {a : Nat} {v : Value} {t : TypeId} (h : w.heap[a]? = some (.cells #[v] t)) : w.cell? ⟨a, 0, none⟩ = some v := by simp [World.cell?, h]

abbrev ptr (a : Nat) : Value := .pointer (some ⟨a, 0, none⟩)
/-- The function value takes what may come next. -/
def StepV (w : World) (f : Value) : St → Prop
  | .num d n => ∃ a b, f = .func (.func 56) #[] #[ptr a, ptr b] ∧ w.heap[a]? = some (.cells #[.int .i64 (d : Int)] 3) ∧ w.heap[b]? = some (.cells #[.int .i64 (n : Int)] 3)
  | .ext k n => ∃ a b, f = .func (.func 77) #[] #[ptr a, ptr b] ∧ w.heap[a]? = some (.cells #[.int .i64 (n : Int)] 3) ∧ w.heap[b]? = some (.cells #[.int .i64 (k : Int)] 3)
  | .endn n => ∃ a, f = .func (.func 79) #[] #[ptr a] ∧ w.heap[a]? = some (.cells #[.int .i64 (n : Int)] 3)
  | .byt n => ∃ a, f = .func (.func 102) #[] #[ptr a] ∧ w.heap[a]? = some (.cells #[.int .i64 (n : Int)] 3)
  | .crlf => ∃ a b c d, f = .func (.func 126) #[] #[ptr a, ptr b] ∧ w.heap[a]? = some (.cells #[.string ⟨#[13, 10]⟩] 9) ∧
      w.heap[b]? = some (.cells #[.func (.func 56) #[] #[ptr c, ptr d]] 63) ∧ w.heap[c]? = some (.cells #[.int .i64 0] 3) ∧ w.heap[d]? = some (.cells #[.int .i64 0] 3)
  | .lf => ∃ a b c d, f = .func (.func 126) #[] #[ptr a, ptr b] ∧ w.heap[a]? = some (.cells #[.string ⟨#[10]⟩] 9) ∧
      w.heap[b]? = some (.cells #[.func (.func 56) #[] #[ptr c, ptr d]] 63) ∧ w.heap[c]? = some (.cells #[.int .i64 0] 3) ∧ w.heap[d]? = some (.cells #[.int .i64 0] 3)
  | .fld k => ∃ a, f = .func (.func 99) #[] #[ptr a] ∧ w.heap[a]? = some (.cells #[.int .i64 (k : Int)] 3)
theorem StepV.keep {w w' : World} {f : Value} {st : St} (h : StepV w f st) (k : KeepC w w') : StepV w' f st := by
  cases st with
  | num d n => obtain ⟨a, b, h1, h2, h3⟩ := h; exact ⟨a, b, h1, k _ _ _ (.inl rfl) h2, k _ _ _ (.inl rfl) h3⟩
  | ext d n => obtain ⟨a, b, h1, h2, h3⟩ := h; exact ⟨a, b, h1, k _ _ _ (.inl rfl) h2, k _ _ _ (.inl rfl) h3⟩
  | endn n => obtain ⟨a, h1, h2⟩ := h; exact ⟨a, h1, k _ _ _ (.inl rfl) h2⟩
  | byt n => obtain ⟨a, h1, h2⟩ := h; exact ⟨a, h1, k _ _ _ (.inl rfl) h2⟩
  | fld n => obtain ⟨a, h1, h2⟩ := h; exact ⟨a, h1, k _ _ _ (.inl rfl) h2⟩
  | crlf => obtain ⟨a, b, c, d, h1, h2, h3, h4, h5⟩ := h; exact ⟨a, b, c, d, h1, k _ _ _ (.inr (.inl rfl)) h2, k _ _ _ (.inr (.inr rfl)) h3, k _ _ _ (.inl rfl) h4, k _ _ _ (.inl rfl) h5⟩
  | lf => obtain ⟨a, b, c, d, h1, h2, h3, h4, h5⟩ := h; exact ⟨a, b, c, d, h1, k _ _ _ (.inr (.inl rfl)) h2, k _ _ _ (.inr (.inr rfl)) h3, k _ _ _ (.inl rfl) h4, k _ _ _ (.inl rfl) h5⟩

theorem hmf_of : ∀ (fn : Fn) (first cap : Array Value) (w : World), (Instr.makeFunc fn first cap).run Tryd.prog w = .ok (.func fn first cap) w := fun _ _ _ _ => rfl
theorem at_last (w : World) (o : Obj) : (w.alloc o).heap[w.heap.size]? = some o := by show (w.heap.push o)[w.heap.size]? = some o; simp
theorem at_last2 (w : World) (o o' : Obj) : ((w.alloc o).alloc o').heap[w.heap.size]? = some o := by
  rw [Lib.alloc_old _ _ _ (by simp)]; exact at_last w o
theorem at_last3 (w : World) (o o' : Obj) : ((w.alloc o).alloc o').heap[w.heap.size + 1]? = some o' := by
  have := at_last (w.alloc o) o'
  simpa using this

set_option maxHeartbeats 1000000 in
set_option maxRecDepth 100000 in
theorem mkNumber (a b : Int) (d n : Nat) (ha : a = d) (hb : b = n) (w : World) :
    Calls Tryd.prog 35 #[.int .i64 a, .int .i64 b] w fun e w' => ∃ f, e = .returned f ∧ StepV w' f (.num d n) ∧ Below w.heap.size w w' := by
  have hmf := hmf_of
  subst ha hb
  go_enter Tryd.func35, Tryd.ntmps35
  go_wp2_with fail
  go_ret
  exact ⟨_, rfl, ⟨_, _, rfl, at_last2 _ _ _, at_last3 _ _ _⟩, ((Below.refl _ w).alloc (Nat.le_refl _) _).alloc (by simp) _⟩
set_option maxHeartbeats 1000000 in
set_option maxRecDepth 100000 in
theorem mkExtra (a b : Int) (d n : Nat) (ha : a = d) (hb : b = n) (w : World) :
    Calls Tryd.prog 58 #[.int .i64 a, .int .i64 b] w fun e w' => ∃ f, e = .returned f ∧ StepV w' f (.ext d n) ∧ Below w.heap.size w w' := by
  have hmf := hmf_of
  subst ha hb
  go_enter Tryd.func58, Tryd.ntmps58
  go_wp2_with fail
  go_ret
  exact ⟨_, rfl, ⟨_, _, rfl, at_last3 _ _ _, at_last2 _ _ _⟩, ((Below.refl _ w).alloc (Nat.le_refl _) _).alloc (by simp) _⟩
set_option maxHeartbeats 1000000 in
set_option maxRecDepth 100000 in
theorem mkEnd (b : Int) (n : Nat) (hb : b = n) (w : World) :
    Calls Tryd.prog 59 #[.int .i64 b] w fun e w' => ∃ f, e = .returned f ∧ StepV w' f (.endn n) ∧ Below w.heap.size w w' := by
  have hmf := hmf_of
  subst hb
  go_enter Tryd.func59, Tryd.ntmps59
  go_wp2_with fail
  go_ret
  exact ⟨_, rfl, ⟨_, rfl, at_last _ _⟩, (Below.refl _ w).alloc (Nat.le_refl _) _⟩
set_option maxHeartbeats 1000000 in
set_option maxRecDepth 100000 in
theorem mkBytes (b : Int) (n : Nat) (hb : b = n) (w : World) :
    Calls Tryd.prog 81 #[.int .i64 b] w fun e w' => ∃ f, e = .returned f ∧ StepV w' f (.byt n) ∧ Below w.heap.size w w' := by
  have hmf := hmf_of
  subst hb
  go_enter Tryd.func81, Tryd.ntmps81
  go_wp2_with fail
  go_ret
  exact ⟨_, rfl, ⟨_, rfl, at_last _ _⟩, (Below.refl _ w).alloc (Nat.le_refl _) _⟩
set_option maxHeartbeats 1000000 in
set_option maxRecDepth 100000 in
theorem mkFields (b : Int) (n : Nat) (hb : b = n) (w : World) :
    Calls Tryd.prog 80 #[.int .i64 b] w fun e w' => ∃ f, e = .returned f ∧ StepV w' f (.fld n) ∧ Below w.heap.size w w' := by
  have hmf := hmf_of
  subst hb
  go_enter Tryd.func80, Tryd.ntmps80
  go_wp2_with fail
  go_ret
  exact ⟨_, rfl, ⟨_, rfl, at_last _ _⟩, (Below.refl _ w).alloc (Nat.le_refl _) _⟩
set_option maxHeartbeats 1000000 in
set_option maxRecDepth 100000 in
theorem mkText (s : ByteArray) (fn : Fn) (fi ca : Array Value) (w : World) :
    Calls Tryd.prog 103 #[.string s, .func fn fi ca] w fun e w' => ∃ a b, e = .returned (.func (.func 126) #[] #[ptr a, ptr b]) ∧ w'.heap[a]? = some (.cells #[.string s] 9) ∧ w'.heap[b]? = some (.cells #[.func fn fi ca] 63) ∧ Below w.heap.size w w' := by
  have hmf := hmf_of
  go_enter Tryd.func103, Tryd.ntmps103
  go_wp2_with fail
  go_ret
  exact ⟨_, _, rfl, at_last2 _ _ _, at_last3 _ _ _, ((Below.refl _ w).alloc (Nat.le_refl _) _).alloc (by simp) _⟩
end Go.Proofs.YtofafonppajfkaaDoor
