/-
  Several slices of a body in one text, in plain lists; no program is named here.
-/
import Derived.Test.YtkmbhgbmdeoppaaDoorMd
import Derived.Shelf.Strings.Builder1
import Derived.Shelf.Strings.BuilderK
import Derived.Test.YtkmbhgbmdeoppaaDoorShelf
import Derived.Test.YtkmbhgbmdeoppaaDoorRows
namespace Go.Proofs.YtkmbhgbmdeoppaaDoor
open Go.RowKit

def okBn (b : List UInt8) : Bool := token b && decide (b.length ≤ 30)
/-- Ahead of each slice. -/
def hdB (b : List UInt8) : List UInt8 := [45, 45] ++ (b ++ [13, 10, 67, 111, 110, 116, 101, 110, 116, 45, 82, 97, 110, 103, 101, 58, 32])
def tlB (b : List UInt8) : List UInt8 := [45, 45] ++ (b ++ [45, 45, 13, 10])
def ctOf (body : List UInt8) (x : Wn) : List UInt8 := (body.drop x.1.toNat).take (x.2.toNat - x.1.toNat)
/-- A slice's text: what its range says, and so many bytes. -/
def ptB (b : List UInt8) (size : Int) (x : Wn) (t : List UInt8) : List UInt8 := hdB b ++ (ctB x size ++ ([13, 10, 13, 10] ++ (t ++ [13, 10])))
def bdl (b body : List UInt8) (l : List Wn) : List UInt8 × Int :=
  if okBn b = false then ([], 3) else if l.length = 0 ∨ 20 < l.length then ([], 1)
  else if l.all (fun x => okC x body.length) = true then (l.flatMap (fun x => ptB b body.length x (ctOf body x)) ++ tlB b, 0) else ([], 1)
theorem bdl_syn {b body : List UInt8} {l : List Wn} (h : okBn b = false) : bdl b body l = ([], 3) := by unfold bdl; rw [if_pos h]
theorem bdl_arg {b body : List UInt8} {l : List Wn} (h : okBn b = true) (h2 : l.length = 0 ∨ 20 < l.length) : bdl b body l = ([], 1) := by
  unfold bdl; rw [if_neg (by rw [h]; simp), if_pos h2]
theorem bdl_bad {b body : List UInt8} {l : List Wn} (h : okBn b = true) (h2 : ¬ (l.length = 0 ∨ 20 < l.length)) (h3 : l.all (fun x => okC x body.length) = false) : bdl b body l = ([], 1) := by
  unfold bdl; rw [if_neg (by rw [h]; simp), if_neg h2, if_neg (by rw [h3]; simp)]
theorem bdl_ok {b body : List UInt8} {l : List Wn} (h : okBn b = true) (h2 : ¬ (l.length = 0 ∨ 20 < l.length)) (h3 : l.all (fun x => okC x body.length) = true) :
    bdl b body l = (l.flatMap (fun x => ptB b body.length x (ctOf body x)) ++ tlB b, 0) := by
  unfold bdl; rw [if_neg (by rw [h]; simp), if_neg h2, if_pos h3]
theorem bdl_is {b body s : List UInt8} {l : List Wn} (h : bdl b body l = (s, 0)) : okBn b = true ∧ 1 ≤ l.length ∧ l.length ≤ 20 ∧ (∀ x ∈ l, okC x body.length = true) ∧ s = l.flatMap (fun x => ptB b body.length x (ctOf body x)) ++ tlB b := by
  cases h1 : okBn b
  · rw [bdl_syn h1] at h; cases (Prod.mk.inj h).2
  · by_cases h2 : l.length = 0 ∨ 20 < l.length
    · rw [bdl_arg h1 h2] at h; cases (Prod.mk.inj h).2
    · cases h3 : l.all (fun x => okC x body.length)
      · rw [bdl_bad h1 h2 h3] at h; cases (Prod.mk.inj h).2
      · rw [bdl_ok h1 h2 h3] at h
        exact ⟨rfl, by omega, by omega, fun x hx => List.all_eq_true.1 h3 x hx, (Prod.mk.inj h).1.symm⟩
theorem bdl_code (b body : List UInt8) (l : List Wn) : (bdl b body l).2 = 0 ∨ (bdl b body l).1 = [] := by
  unfold bdl
  split
  · exact .inr rfl
  · split
    · exact .inr rfl
    · split
      · exact .inl rfl
      · exact .inr rfl
theorem ctOf_len {body : List UInt8} {x : Wn} (h : okC x body.length = true) : (ctOf body x).length = x.2.toNat - x.1.toNat := by
  obtain ⟨h1, h2, h3, h4⟩ := okC_is h
  unfold ctOf
  rw [List.length_take, List.length_drop]; omega
theorem hd_len (b : List UInt8) : (hdB b).length = b.length + 19 := by unfold hdB; simp
theorem tl_len (b : List UInt8) : (tlB b).length = b.length + 6 := by unfold tlB; simp
theorem hd_pre (b r : List UInt8) : Lib.hasPrefix (hdB b ++ r) (hdB b) = true := by
  unfold Lib.hasPrefix
  exact List.isPrefixOf_iff_prefix.2 ⟨r, rfl⟩
theorem hd_drop (b r : List UInt8) : (hdB b ++ r).drop (hdB b).length = r := by simp
theorem tl_pre (b : List UInt8) : Lib.hasPrefix (tlB b) (hdB b) = false := by
  cases h : Lib.hasPrefix (tlB b) (hdB b)
  · rfl
  · exfalso
    unfold Lib.hasPrefix at h
    obtain ⟨r, hr⟩ := List.isPrefixOf_iff_prefix.1 h
    unfold hdB tlB at hr
    rw [List.append_assoc] at hr
    have h1 := List.append_cancel_left hr
    rw [List.append_assoc] at h1
    have h2 := List.append_cancel_left h1
    simp at h2
theorem ct_no13 (x : Wn) (size : Int) : ∀ c ∈ ctB x size, c ≠ 13 := ctB_no x size 13 (by decide) (by decide)
/-- Up to the first 13 both texts are alike. -/
theorem ct_split {x y : Wn} {n m : Int} {r q : List UInt8} (h : ctB x n ++ 13 :: r = ctB y m ++ 13 :: q) : ctB x n = ctB y m ∧ r = q := by
  have e : ∀ (a : List UInt8) (t : List UInt8), (∀ c ∈ a, c ≠ 13) → (a ++ 13 :: t).takeWhile (· != 13) = a := by
    intro a t ha
    rw [List.takeWhile_append_of_pos (by intro c hc; simpa using ha c hc)]
    simp
  have h1 := congrArg (List.takeWhile (· != 13)) h
  rw [e _ _ (ct_no13 x n), e _ _ (ct_no13 y m)] at h1
  rw [h1] at h
  have h2 := List.append_cancel_left h
  exact ⟨h1, (List.cons.inj h2).2⟩
theorem ct_inj {x y : Wn} {n m : Int} (hx : okC x n = true) (hy : okC y m = true) (h : ctB x n = ctB y m) : x = y ∧ n = m := by
  have h1 := paC_back hx
  rw [h, paC_back hy] at h1
  have h2 := (Prod.mk.inj (Prod.mk.inj h1).1)
  exact ⟨h2.1.symm, h2.2.symm⟩
/-- How one slice's text begins. -/
theorem pt_split {b : List UInt8} {n m : Int} {x y : Wn} {t u r q : List UInt8} (hx : okC x n = true) (hy : okC y m = true) (hl : t.length = x.2.toNat - x.1.toNat) (hu : u.length = y.2.toNat - y.1.toNat)
    (h : ptB b n x t ++ r = ptB b m y u ++ q) : x = y ∧ n = m ∧ t = u ∧ r = q := by
  unfold ptB at h
  simp only [List.append_assoc] at h
  have h1 := List.append_cancel_left h
  obtain ⟨h2, h3⟩ := ct_split (r := [10, 13, 10] ++ (t ++ ([13, 10] ++ r))) (q := [10, 13, 10] ++ (u ++ ([13, 10] ++ q))) h1
  obtain ⟨h4, h5⟩ := ct_inj hx hy h2
  subst h4
  have h6 := List.append_cancel_left h3
  have h7 := List.append_inj h6 (by rw [hl, hu])
  exact ⟨rfl, h5, h7.1, List.append_cancel_left h7.2⟩
/-- Slices and their bytes are known by the text. -/
theorem bdl_one {b : List UInt8} {body body' s : List UInt8} {l l' : List Wn} (h : bdl b body l = (s, 0)) (h' : bdl b body' l' = (s, 0)) : l = l' ∧ l.map (ctOf body) = l'.map (ctOf body') ∧ body.length = body'.length := by
  obtain ⟨_, k1, _, ho, e⟩ := bdl_is h
  obtain ⟨_, k2, _, ho', e'⟩ := bdl_is h'
  have gen : ∀ (l l' : List Wn) (n m : Int), (∀ x ∈ l, okC x n = true) → (∀ x ∈ l', okC x m = true) → (∀ x ∈ l, (ctOf body x).length = x.2.toNat - x.1.toNat) → (∀ x ∈ l', (ctOf body' x).length = x.2.toNat - x.1.toNat) →
      l.flatMap (fun x => ptB b n x (ctOf body x)) ++ tlB b = l'.flatMap (fun x => ptB b m x (ctOf body' x)) ++ tlB b → l = l' ∧ l.map (ctOf body) = l'.map (ctOf body') ∧ (l ≠ [] → n = m) := by
    intro l
    induction l with
    | nil =>
      intro l' n m _ _ _ _ h
      cases l' with
      | nil => exact ⟨rfl, rfl, fun h => absurd rfl h⟩
      | cons y l' =>
        exfalso
        rw [List.flatMap_nil, List.nil_append, List.flatMap_cons] at h
        have h1 := tl_pre b
        rw [h] at h1
        unfold ptB at h1
        simp only [List.append_assoc] at h1
        rw [hd_pre] at h1; cases h1
    | cons x l ih =>
      intro l' n m h1 h2 h3 h4 h
      cases l' with
      | nil =>
        exfalso
        rw [List.flatMap_nil, List.nil_append, List.flatMap_cons] at h
        have h1 := tl_pre b
        rw [← h] at h1
        unfold ptB at h1
        simp only [List.append_assoc] at h1
        rw [hd_pre] at h1; cases h1
      | cons y l' =>
        rw [List.flatMap_cons, List.flatMap_cons, List.append_assoc, List.append_assoc] at h
        obtain ⟨e1, e2, e3, e4⟩ := pt_split (h1 x (by simp)) (h2 y (by simp)) (h3 x (by simp)) (h4 y (by simp)) h
        subst e1 e2
        obtain ⟨e5, e6, _⟩ := ih l' n n (fun z hz => h1 z (by simp [hz])) (fun z hz => h2 z (by simp [hz])) (fun z hz => h3 z (by simp [hz])) (fun z hz => h4 z (by simp [hz])) e4
        subst e5
        exact ⟨rfl, by rw [List.map_cons, List.map_cons, e3, e6], fun _ => rfl⟩
  obtain ⟨r1, r2, r3⟩ := gen l l' body.length body'.length ho ho' (fun x hx => ctOf_len (ho x hx)) (fun x hx => ctOf_len (ho' x hx)) (by rw [← e, ← e'])
  refine ⟨r1, r2, ?_⟩
  have : l ≠ [] := by intro h0; rw [h0] at k1; simp at k1
  have := r3 this
  omega
/-- What Unbundle answers. -/
def UnbR (b s : List UInt8) (size : Int) (l : List Wn) (ts : List (List UInt8)) (c : Int) : Prop :=
  (c = 0 ∧ ∃ body : List UInt8, (body.length : Int) = size ∧ bdl b body l = (s, 0) ∧ ts = l.map (ctOf body)) ∨
  (c = 3 ∧ l = [] ∧ ts = [] ∧ ∀ (body : List UInt8) (l : List Wn), (body.length : Int) = size → bdl b body l ≠ (s, 0))
theorem UnbR.one {b s : List UInt8} {size : Int} {l l' : List Wn} {ts ts' : List (List UInt8)} {c c' : Int} (h : UnbR b s size l ts c) (h' : UnbR b s size l' ts' c') : l = l' ∧ ts = ts' ∧ c = c' := by
  rcases h with ⟨rfl, body, h1, h2, rfl⟩ | ⟨rfl, rfl, rfl, h1⟩ <;> rcases h' with ⟨rfl, body', h1', h2', rfl⟩ | ⟨rfl, rfl, rfl, h1'⟩
  · obtain ⟨e1, e2, _⟩ := bdl_one h2 h2'
    exact ⟨e1, e2, rfl⟩
  · exact absurd h2 (h1' body l h1)
  · exact absurd h2' (h1 body' l' h1')
  · exact ⟨rfl, rfl, rfl⟩
theorem UnbR.back {b body s : List UInt8} {l : List Wn} (h : bdl b body l = (s, 0)) : UnbR b s body.length l (l.map (ctOf body)) 0 := .inl ⟨rfl, body, rfl, h, rfl⟩
theorem UnbR.bad {b s : List UInt8} {size : Int} (h : okBn b = false ∨ size < 1 ∨ 99999 < size) : UnbR b s size [] [] 3 := by
  refine .inr ⟨rfl, rfl, rfl, fun body l h1 h2 => ?_⟩
  obtain ⟨k1, k2, k3, k4, _⟩ := bdl_is h2
  rcases h with h | h | h
  · rw [h] at k1; cases k1
  · obtain ⟨x, r, rfl⟩ : ∃ x r, l = x :: r := by
      cases l with
      | nil => simp at k2
      | cons x r => exact ⟨x, r, rfl⟩
    have := okC_is (k4 x (by simp))
    omega
  · obtain ⟨x, r, rfl⟩ : ∃ x r, l = x :: r := by
      cases l with
      | nil => simp at k2
      | cons x r => exact ⟨x, r, rfl⟩
    have := okC_is (k4 x (by simp))
    omega
end Go.Proofs.YtkmbhgbmdeoppaaDoor

/-
  What lies beside a builder at work: a block of two cells stays; no program is named here.
-/
namespace Go.Proofs.YtkmbhgbmdeoppaaDoor
open Go.RowKit

theorem kept_pair {w w' : World} {b g : Nat} {t : TypeId} {n u : Value} (h : Lib.OthersKept 5 (some b) w w') (hg : w.heap[g]? = some (.cells #[n, u] t (0, 0))) (hne : b ≠ g) (ht : t ≠ 5) : w'.heap[g]? = some (.cells #[n, u] t (0, 0)) := by
  refine h g _ hg (fun e => hne (Option.some.inj e).symm) ?_
  intro c f e
  injection e with _ e2 _
  exact ht e2
theorem pair_cell {w : World} {g : Nat} {t : TypeId} {n u : Value} (hg : w.heap[g]? = some (.cells #[n, u] t (0, 0))) : w.cell? ⟨g, 0, none⟩ = some n ∧ w.cell? ⟨g, 1, none⟩ = some u := by
  refine ⟨?_, ?_⟩ <;> rw [Lib.cell_of_heap hg] <;> rfl
theorem cells_more (a : List UInt8) (s : ByteArray) : Lib.byteCells a ++ Lib.strCells s = Lib.byteCells (a ++ s.data.toList) := by rw [Lib.byteCells_append]; rfl
theorem bw_below {T e : TypeId} {B b : Nat} {bs : List Value} {W W' : World} (h : Lib.IsBuilderF T e B b bs W) (hb : Below W.heap.size W W') : Lib.IsBuilderF T e B b bs W' := by
  have one : ∀ {p : Value}, Lib.BuilderAtF T e B b p bs W → Lib.BuilderAtF T e B b p bs W' := by
    intro p h
    have hlt := h.lt
    obtain ⟨hB, v, hv, hown, hne⟩ := h
    refine ⟨hB, v, ?_, hown.kept (row := none) ⟨hb.os, hb.tape, hb.output, hb.size, fun k hk _ => hb.block k hk⟩ (Classical.em _), hne⟩
    rw [hb.block b hlt]; exact hv
  rcases h with h | h
  · exact .inl (one h)
  · exact .inr (one h)
end Go.Proofs.YtkmbhgbmdeoppaaDoor

/-
  The contract of Go's (*strings.Builder).WriteString, which the shelf proves over any program, laid over this seat's translation. No condition but those that the theorem names.
-/
namespace Go.Proofs
def Tryd.lays166_ren : Go.Shelf.Ren := ⟨fun | 166 => 38 | 240 => 59 | 276 => 82 | n => n, fun | 0 => 0 | 3 => 3 | 4 => 4 | 5 => 5 | 9 => 9 | 20 => 20 | 37 => 65 | 70 => 64 | 72 => 67 | 75 => 69 | 80 => 72 | 164 => 96 | n => n, fun | n => n⟩
theorem Tryd.lays166 : Go.Proofs.Lays.n166 Tryd.prog Tryd.lays166_ren := {
  mixed := by kernel_rfl
  f166 := Tryd.func38.trans (congrArg some (by kernel_rfl))
  f240 := Tryd.func59.trans (congrArg some (by kernel_rfl))
  f276 := Tryd.func82.trans (congrArg some (by kernel_rfl))
  t0 := Tryd.underlying0
  a0 := Tryd.isAgg0
  z0 := Tryd.sizeOf0
  v0 := Tryd.zeroValue0
  t3 := Tryd.underlying3
  a3 := Tryd.isAgg3
  z3 := Tryd.sizeOf3
  v3 := Tryd.zeroValue3
  t4 := Tryd.underlying4
  a4 := Tryd.isAgg4
  z4 := Tryd.sizeOf4
  v4 := Tryd.zeroValue4
  t9 := Tryd.underlying9
  a9 := Tryd.isAgg9
  z9 := Tryd.sizeOf9
  v9 := Tryd.zeroValue9
  t20 := Tryd.underlying20
  a20 := Tryd.isAgg20
  z20 := Tryd.sizeOf20
  v20 := Tryd.zeroValue20
  t37 := Tryd.underlying65
  a37 := Tryd.isAgg65
  z37 := Tryd.sizeOf65
  v37 := Tryd.zeroValue65
  t70 := Tryd.underlying64
  a70 := Tryd.isAgg64
  z70 := Tryd.sizeOf64
  v70 := Tryd.zeroValue64
  t72 := Tryd.underlying67
  a72 := Tryd.isAgg67
  z72 := Tryd.sizeOf67
  v72 := Tryd.zeroValue67
  t75 := Tryd.underlying69
  a75 := Tryd.isAgg69
  z75 := Tryd.sizeOf69
  v75 := Tryd.zeroValue69
  t164 := Tryd.underlying96
  a164 := Tryd.isAgg96
  z164 := Tryd.sizeOf96
  v164 := Tryd.zeroValue96 }
theorem Tryd.Builder_Extra_166 : Builder.Extra Tryd.prog Tryd.lays166_ren := {
  sizeBuilder := by kernel_rfl
  liesBuilder := by kernel_rfl
  t5 := Tryd.underlying5
  a5 := Tryd.isAgg5
  z5 := Tryd.sizeOf5
  v5 := Tryd.zeroValue5
  infoByte := by kernel_rfl
  cellsByte := by kernel_rfl
  sizeByte := by kernel_rfl
  neB5 := by decide }
open Go.RowKit in
theorem Tryd.Builder_WriteString (B b : Nat) (bs : List Value) (s : ByteArray) (w : World) (h : Lib.IsBuilder 67 5 B b bs w) (hlen : bs.length + s.size ≤ 140737488355328) (hBw : B ≤ w.heap.size) :
    Calls Tryd.prog 38 #[.pointer (some ⟨b, 0, none⟩), .string s] w fun e w' => e = .returned (.tuple #[.int .i64 s.size, .nilIface]) ∧ (Lib.BuilderAt 67 5 B b (.pointer (some ⟨b, 0, none⟩)) (bs ++ Lib.strCells s) w' ∧ Below B w w') := Any.Builder_WriteString Tryd.lays166 Tryd.Builder_Extra_166 B b bs s w h hlen hBw
open Go.RowKit in
theorem Tryd.Builder_WriteString_k (B b : Nat) (bs : List Value) (s : ByteArray) (w : World) (h : Lib.IsBuilderF 67 5 B b bs w) (hlen : bs.length + s.size ≤ 140737488355328) (hBw : B ≤ w.heap.size) :
    Calls Tryd.prog 38 #[.pointer (some ⟨b, 0, none⟩), .string s] w fun e w' => e = .returned (.tuple #[.int .i64 s.size, .nilIface]) ∧ (Lib.BuilderAtF 67 5 B b (.pointer (some ⟨b, 0, none⟩)) (bs ++ Lib.strCells s) w' ∧ Below B w w' ∧ Lib.OthersKept 5 (some b) w w') := Any.Builder_WriteString_k Tryd.lays166 Tryd.Builder_Extra_166 B b bs s w h hlen hBw
end Go.Proofs

/-
  What Bundle of package span answers; the powers of ten of package strconv hold what their text lays.
-/
namespace Go.Proofs.YtkmbhgbmdeoppaaDoor
open Go.RowKit

theorem bpt_len {b body : List UInt8} {x : Wn} (hb : b.length ≤ 30) (h : okC x body.length = true) : (ptB b body.length x (ctOf body x)).length ≤ 100100 := by
  have h1 := ctB_len h
  have h2 := ctOf_len h
  obtain ⟨h3, h4, h5, h6⟩ := okC_is h
  have h7 := hd_len b
  unfold ptB
  simp only [List.length_append, List.length_cons, List.length_nil]
  omega
theorem bpts_len {b body : List UInt8} {l : List Wn} (hb : b.length ≤ 30) (h : ∀ x ∈ l, okC x body.length = true) : (l.flatMap (fun x => ptB b body.length x (ctOf body x))).length ≤ 100100 * l.length := by
  induction l with
  | nil => simp
  | cons x l ih =>
    have h1 := ih (fun y hy => h y (List.mem_cons_of_mem _ hy))
    have h2 := bpt_len hb (h x (by simp))
    rw [List.flatMap_cons, List.length_append, List.length_cons]; omega
set_option maxRecDepth 100000 in
theorem sopen_at (b t : ByteArray) (ht : t.data.toList = hdB b.data.toList) (hb : b.size ≤ 30) (w : World) :
    Calls Tryd.prog 39 #[.string b] w fun e w' => e = .returned (.string t) ∧ w' = w := by
  have HTT : Hid ((⟨#[45, 45]⟩ : ByteArray) ++ b ++ ⟨#[13, 10]⟩ ++ ⟨#[67, 111, 110, 116, 101, 110, 116, 45, 82, 97, 110, 103, 101, 58, 32]⟩ = t) := by
    show _ = _
    apply ByteArray.ext; apply Array.ext'
    rw [ht]
    unfold hdB
    simp
  clear ht
  go_enter Tryd.func39, Tryd.ntmps39
  go_wp2_with fail
  go_ret
  exact ⟨ret_str HTT.out, rfl⟩
set_option maxHeartbeats 4000000 in
set_option maxRecDepth 100000 in
theorem sbundle_at (b body : ByteArray) (v : Value) (ls : List Wn) (t : ByteArray) (c : Int) (h : bdl b.data.toList body.data.toList ls = (t.data.toList, c)) (w : World) (hf : Wl w v ls) (hb : b.size ≤ maxLen) (hT : PowT w) :
    Calls Tryd.prog 16 #[.string b, .string body, v] w fun e w' => e = .returned (.tuple #[.string t, .int .i64 c]) ∧ Below w.heap.size w w' := by
  have HF : Hid (Wl w v ls) := hf
  have HP : Hid (PowT w) := hT
  obtain ⟨ad, cap, rfl, hcap, hcm, _⟩ := id hf
  obtain ⟨tk, htk⟩ : ∃ tk, token b.data.toList = tk := ⟨_, rfl⟩
  have HTK : Hid (token b.data.toList = tk) := htk
  have HH : Hid (bdl b.data.toList body.data.toList ls = (t.data.toList, c)) := h
  have HB : Hid (b.size ≤ maxLen) := hb
  have hokb : okBn b.data.toList = (tk && decide (b.size ≤ 30)) := by unfold okBn; rw [htk, size_list]
  unfold maxLen at hcm
  clear hf htk h hb hT
  have ans : ∀ {k : Int}, bdl b.data.toList body.data.toList ls = ([], k) → t = ⟨#[]⟩ ∧ c = k := by
    intro k e
    have := HH.out
    rw [e] at this
    obtain ⟨h1, h2⟩ := Prod.mk.inj this
    exact ⟨by apply ByteArray.ext; apply Array.ext'; exact h1.symm, h2.symm⟩
  cases tk
  · have HE : Hid (t = ⟨#[]⟩ ∧ c = 3) := ans (bdl_syn (by rw [hokb]; rfl))
    clear hokb ans
    go_enter Tryd.func16, Tryd.ntmps16
    go_wp2_with fail
    refine (isToken_any b _ HB.out).mono ?_
    rintro e w1 ⟨rfl, hww⟩
    rw [hww, HTK.out]
    clear hww w1
    go_wp2_with fail
    go_ret2
    exact ⟨by rw [HE.out.1, HE.out.2]; rfl, Below.refl _ _⟩
  · by_cases h30 : b.size ≤ 30
    · have g30 : decide ((b.size : Int) > 30) = false := decide_eq_false (by omega)
      have hok : okBn b.data.toList = true := by rw [hokb, decide_eq_true h30]; rfl
      have HOK : Hid (okBn b.data.toList = true) := hok
      have H30 : Hid (b.size ≤ 30) := h30
      clear hokb hok
      by_cases hl0 : ls.length = 0
      · have HE : Hid (t = ⟨#[]⟩ ∧ c = 1) := ans (bdl_arg HOK.out (.inl hl0))
        have g0 : ((ls.length : Int) == 0) = true := beq_iff_eq.2 (by omega)
        clear ans hl0
        go_enter Tryd.func16, Tryd.ntmps16
        go_wp2_with fail
        refine (isToken_any b _ HB.out).mono ?_
        rintro e w1 ⟨rfl, hww⟩
        rw [hww, HTK.out]
        clear hww w1
        go_wp2_with fail
        go_ret2
        exact ⟨by rw [HE.out.1, HE.out.2]; rfl, Below.refl _ _⟩
      · have g0 : ((ls.length : Int) == 0) = false := beq_eq_false_iff_ne.2 (by omega)
        by_cases hl20 : 20 < ls.length
        · have HE : Hid (t = ⟨#[]⟩ ∧ c = 1) := ans (bdl_arg HOK.out (.inr hl20))
          have g20 : decide ((ls.length : Int) > 20) = true := decide_eq_true (by omega)
          clear ans hl0 hl20
          go_enter Tryd.func16, Tryd.ntmps16
          go_wp2_with fail
          refine (isToken_any b _ HB.out).mono ?_
          rintro e w1 ⟨rfl, hww⟩
          rw [hww, HTK.out]
          clear hww w1
          go_wp2_with fail
          go_ret2
          exact ⟨by rw [HE.out.1, HE.out.2]; rfl, Below.refl _ _⟩
        · have g20 : decide ((ls.length : Int) > 20) = false := decide_eq_false (by omega)
          have HL : Hid (¬ (ls.length = 0 ∨ 20 < ls.length)) := by show ¬ _; omega
          have HBAD : Hid (ls.all (fun x => okC x body.size) = false → t = ⟨#[]⟩ ∧ c = 1) := fun h => ans (bdl_bad HOK.out HL.out (by rw [size_list]; exact h))
          have HGOOD : Hid (ls.all (fun x => okC x body.size) = true → t.data.toList = ls.flatMap (fun x => ptB b.data.toList body.size x (ctOf body.data.toList x)) ++ tlB b.data.toList ∧ c = 0) := by
            intro h
            have := HH.out
            rw [bdl_ok HOK.out HL.out (by rw [size_list]; exact h)] at this
            obtain ⟨h1, h2⟩ := Prod.mk.inj this
            rw [size_list] at h1
            exact ⟨h1.symm, h2.symm⟩
          obtain ⟨hd, hhd⟩ : ∃ hd : ByteArray, hd.data.toList = hdB b.data.toList := ⟨⟨(hdB b.data.toList).toArray⟩, rfl⟩
          have HHD : Hid (hd.data.toList = hdB b.data.toList) := hhd
          have hhs : hd.size ≤ 49 := by rw [← size_list, hhd, hd_len, size_list]; omega
          have HHS : Hid (hd.size ≤ 49) := hhs
          obtain ⟨acc, hacc⟩ : ∃ acc : Nat → List UInt8, acc = fun k => (ls.take k).flatMap (fun x => ptB b.data.toList body.size x (ctOf body.data.toList x)) := ⟨_, rfl⟩
          have HACC : Hid (acc = fun k => (ls.take k).flatMap (fun x => ptB b.data.toList body.size x (ctOf body.data.toList x))) := hacc
          have HLEN : Hid (∀ k, k ≤ ls.length → (∀ x ∈ ls.take k, okC x body.size = true) → (acc k).length ≤ 100100 * k) := by
            intro k hk hx
            have := bpts_len (b := b.data.toList) (body := body.data.toList) (l := ls.take k) (by rw [size_list]; exact H30.out) (by rw [size_list]; exact hx)
            rw [size_list, List.length_take] at this
            rw [HACC.out]
            rw [Nat.min_eq_left hk] at this
            exact this
          have hfr := Lib.fresh_isBuilder 67 5 w
          have HB0 : Hid (Lib.IsBuilderF 67 5 w.heap.size w.heap.size [] (w.alloc (.cells #[.pointer none, .slice none 0 0] 67))) := Lib.IsBuilderF.of hfr
          have HW0 : Hid (Below w.heap.size w (w.alloc (.cells #[.pointer none, .slice none 0 0] 67))) := below_alloc _ _
          clear hfr hhd hhs hacc ans h30
          go_enter Tryd.func16, Tryd.ntmps16
          go_wp2_with fail
          refine (isToken_any b _ HB.out).mono ?_
          rintro e w1 ⟨rfl, hww⟩
          rw [hww, HTK.out]
          clear hww w1
          go_wp2_with fail
          go_loopw [31] (fun i wr => ∃ k : Nat, k ≤ ls.length ∧ i = .int .i64 k ∧ (∀ x ∈ ls.take k, okC x body.size = true) ∧ Lib.IsBuilderF 67 5 w.heap.size w.heap.size (Lib.byteCells (acc k)) wr ∧ Below w.heap.size w wr) (fun i _ => ls.length - (intOf i).toNat)
          case atStart => exact ⟨0, Nat.zero_le _, rfl, by simp, by rw [HACC.out]; exact HB0.out, HW0.out⟩
          case round =>
            obtain ⟨k, hk, rfl, hall, hbu, hw⟩ := hrel
            have HBU : Hid (Lib.IsBuilderF 67 5 w.heap.size w.heap.size (Lib.byteCells (acc k)) wr) := hbu
            have HTAKEN : Hid (∀ x ∈ ls.take k, okC x body.size = true) := hall
            have hsz := hw.size
            have hwl : w.heap.size < wr.heap.size := by
              rcases HBU.out with h | h
              · exact h.lt
              · exact h.lt
            have HLK : Hid ((acc k).length ≤ 100100 * 20) := by
              have h1 := HLEN.out k hk hall
              have h2 : ls.length ≤ 20 := by have := HL.out; omega
              show _ ≤ _
              have : 100100 * k ≤ 100100 * 20 := Nat.mul_le_mul_left _ (by omega)
              omega
            clear hbu hall
            by_cases hlt : k < ls.length
            · obtain ⟨ad', cap', hv', _, _, hc'⟩ := HF.out
              simp only [Value.slice.injEq] at hv'
              obtain ⟨rfl, _, rfl⟩ := hv'
              obtain ⟨g, off, rfl, hgs, hce⟩ := hc' (by omega)
              obtain ⟨c1, c2⟩ := hce k hlt
              obtain ⟨p, hp⟩ : ∃ p, (ls[k]).1 = p := ⟨_, rfl⟩
              obtain ⟨q, hq⟩ : ∃ q, (ls[k]).2 = q := ⟨_, rfl⟩
              have HX : Hid (ls[k] = (p, q)) := Prod.ext hp hq
              have HKL : Hid (k < ls.length) := hlt
              have HMEM : Hid ((p, q) ∈ ls) := by show _ ∈ _; rw [← HX.out]; exact List.getElem_mem hlt
              have d1 : wr.cell? ⟨g, off + k * 2, none⟩ = some (.int .i64 p) := by rw [hw.cell (p := ⟨g, off + k * 2, none⟩) hgs, ← hp]; exact c1
              have d2 : wr.cell? ⟨g, off + k * 2 + 1, none⟩ = some (.int .i64 q) := by rw [hw.cell (p := ⟨g, off + k * 2 + 1, none⟩) hgs, ← hq]; exact c2
              have hgr : g < wr.heap.size := by omega
              have HTK1 : Hid (ls.take (k + 1) = ls.take k ++ [(p, q)]) := by rw [← HX.out]; exact (List.take_append_getElem hlt).symm
              clear hce c1 c2 hp hq hc'
              have hki : (k : Int) < (ls.length : Int) := by omega
              have hk0 : (0 : Int) ≤ (k : Int) := by omega
              have HW0' : Hid (Below w.heap.size w (wr.alloc (.cells #[.int .i64 p, .int .i64 q] 34))) := hw.alloc (by omega) _
              have HBU0 : Hid (Lib.IsBuilderF 67 5 w.heap.size w.heap.size (Lib.byteCells (acc k)) (wr.alloc (.cells #[.int .i64 p, .int .i64 q] 34))) := HBU.out.alloc _
              have HP0 : Hid ((wr.alloc (.cells #[.int .i64 p, .int .i64 q] 34)).heap[wr.heap.size]? = some (.cells #[.int .i64 p, .int .i64 q] 34 (0, 0))) := heap_alloc_new _ _
              have HLT : Hid (w.heap.size < wr.heap.size) := hwl
              obtain ⟨ct, d, hct⟩ := pair_bi (prC (p, q) body.size)
              have HCT : Hid (prC (p, q) body.size = (ct.data.toList, d)) := hct
              have HCP : Hid (∀ W, Below w.heap.size w W → Calls Tryd.prog 12 #[.agg #[.int .i64 p, .int .i64 q], .int .i64 (body.size : Int)] W fun e w' => e = .returned (.tuple #[.string ct, .int .i64 d]) ∧ Below W.heap.size W w') :=
                fun W hW => scprint_at p q body.size ct d HCT.out W (HP.out.below hW)
              clear hct
              go_wp2_with fail
              refine (HCP.out _ HW0'.out).mono ?_
              rintro e w2 ⟨rfl, hb2⟩
              have HW2 : Hid (Below w.heap.size w w2) := HW0'.out.trans (hb2.mono HW0'.out.size)
              have HBU2 : Hid (Lib.IsBuilderF 67 5 w.heap.size w.heap.size (Lib.byteCells (acc k)) w2) := bw_below HBU0.out hb2
              have HPP2 : Hid (w2.heap[wr.heap.size]? = some (.cells #[.int .i64 p, .int .i64 q] 34 (0, 0))) := (hb2.block _ (by simp)).trans HP0.out
              clear hb2
              cases hok : okC (p, q) body.size
              · have hd : d = 1 := by
                  have := HCT.out
                  rw [prC_bad hok] at this
                  exact (Prod.mk.inj this).2.symm
                subst hd
                have HE : Hid (t = ⟨#[]⟩ ∧ c = 1) := HBAD.out (by
                  rw [List.all_eq_false]
                  exact ⟨_, HMEM.out, by rw [hok]; simp⟩)
                go_wp2_with fail
                go_ret2
                exact ⟨by rw [HE.out.1, HE.out.2]; rfl, HW2.out⟩
              · obtain ⟨o1, o2, o3, o4⟩ := okC_is hok
                simp only at o1 o2 o3 o4
                have hd : ct.data.toList = ctB (p, q) body.size ∧ d = 0 := by
                  have := HCT.out
                  rw [prC_ok hok] at this
                  exact ⟨(Prod.mk.inj this).1.symm, (Prod.mk.inj this).2.symm⟩
                obtain ⟨hct, rfl⟩ := hd
                have HCTL : Hid (ct.data.toList = ctB (p, q) body.size) := hct
                have hcts : ct.size ≤ 23 := by rw [← size_list, hct]; exact ctB_len hok
                obtain ⟨i, rfl⟩ : ∃ i : Nat, p = (i : Int) := ⟨p.toNat, by omega⟩
                obtain ⟨j, rfl⟩ : ∃ j : Nat, q = (j : Int) := ⟨q.toNat, by omega⟩
                have HOKX : Hid (okC ((i : Int), (j : Int)) body.size = true) := hok
                have HSZ : Hid (hd.size ≤ 49 ∧ ct.size ≤ 23 ∧ (body.extract i j).size ≤ 99999) := by
                  refine ⟨HHS.out, hcts, ?_⟩
                  simp
                  omega
                have s1 : (0 : Int) ≤ (i : Int) := by omega
                have s2 : (i : Int) ≤ (j : Int) := by omega
                have s3 : (j : Int) ≤ (body.size : Int) := by omega
                have hcp0 := pair_cell HPP2.out
                clear o1 o2 o3 o4 hct hcts hok
                go_wp2_with fail
                refine (sopen_at b hd HHD.out H30.out _).mono ?_
                rintro e w2b ⟨rfl, hww⟩
                rw [hww]
                clear hww w2b
                go_wp2_with fail
                refine (Tryd.Builder_WriteString_k w.heap.size w.heap.size _ hd _ HBU2.out (by rw [Lib.byteCells_length]; have h1 := HLK.out; have h2 := HSZ.out; omega) HW2.out.size).mono ?_
                rintro e w3 ⟨rfl, hb3, hw3, hk3⟩
                have HPP3 : Hid (w3.heap[wr.heap.size]? = some (.cells #[.int .i64 i, .int .i64 j] 34 (0, 0))) := kept_pair hk3 HPP2.out (by have := HLT.out; omega) (by decide)
                have HW3 : Hid (Below w.heap.size w w3) := HW2.out.trans hw3
                rw [cells_more] at hb3
                have HBU3 : Hid (Lib.IsBuilderF 67 5 w.heap.size w.heap.size (Lib.byteCells (acc k ++ hd.data.toList)) w3) := .inr hb3
                clear hb3 hw3 hk3
                go_wp2_with fail
                refine (Tryd.Builder_WriteString_k w.heap.size w.heap.size _ ct _ HBU3.out (by rw [Lib.byteCells_length]; have h1 := HLK.out; have h2 := HSZ.out; simp only [List.length_append, size_list]; omega) HW3.out.size).mono ?_
                rintro e w4 ⟨rfl, hb4, hw4, hk4⟩
                have HPP4 : Hid (w4.heap[wr.heap.size]? = some (.cells #[.int .i64 i, .int .i64 j] 34 (0, 0))) := kept_pair hk4 HPP3.out (by have := HLT.out; omega) (by decide)
                have HW4 : Hid (Below w.heap.size w w4) := HW3.out.trans hw4
                rw [cells_more] at hb4
                have HBU4 : Hid (Lib.IsBuilderF 67 5 w.heap.size w.heap.size (Lib.byteCells (acc k ++ hd.data.toList ++ ct.data.toList)) w4) := .inr hb4
                clear hb4 hw4 hk4
                go_wp2_with fail
                refine (Tryd.Builder_WriteString_k w.heap.size w.heap.size _ (⟨#[13, 10, 13, 10]⟩ : ByteArray) _ HBU4.out (by rw [Lib.byteCells_length]; have h1 := HLK.out; have h2 := HSZ.out; simp only [List.length_append, size_list]; show _ + 4 ≤ _; omega) HW4.out.size).mono ?_
                rintro e w5 ⟨rfl, hb5, hw5, hk5⟩
                have HPP5 : Hid (w5.heap[wr.heap.size]? = some (.cells #[.int .i64 i, .int .i64 j] 34 (0, 0))) := kept_pair hk5 HPP4.out (by have := HLT.out; omega) (by decide)
                have HW5 : Hid (Below w.heap.size w w5) := HW4.out.trans hw5
                rw [cells_more] at hb5
                have HBU5 : Hid (Lib.IsBuilderF 67 5 w.heap.size w.heap.size (Lib.byteCells (acc k ++ hd.data.toList ++ ct.data.toList ++ [13, 10, 13, 10])) w5) := .inr hb5
                clear hb5 hw5 hk5
                have hcp := pair_cell HPP5.out
                obtain ⟨hcp1, hcp2⟩ := hcp
                go_wp2_with fail
                refine (Tryd.Builder_WriteString_k w.heap.size w.heap.size _ (body.extract i j) _ HBU5.out (by rw [Lib.byteCells_length]; have h1 := HLK.out; have h2 := HSZ.out; simp only [List.length_append, size_list, List.length_cons, List.length_nil]; omega) HW5.out.size).mono ?_
                rintro e w6 ⟨rfl, hb6, hw6, hk6⟩
                have HPP6 : Hid (w6.heap[wr.heap.size]? = some (.cells #[.int .i64 i, .int .i64 j] 34 (0, 0))) := kept_pair hk6 HPP5.out (by have := HLT.out; omega) (by decide)
                have HW6 : Hid (Below w.heap.size w w6) := HW5.out.trans hw6
                rw [cells_more] at hb6
                have HBU6 : Hid (Lib.IsBuilderF 67 5 w.heap.size w.heap.size (Lib.byteCells (acc k ++ hd.data.toList ++ ct.data.toList ++ [13, 10, 13, 10] ++ (body.extract i j).data.toList)) w6) := .inr hb6
                clear hb6 hw6 hk6
                go_wp2_with fail
                refine (Tryd.Builder_WriteString_k w.heap.size w.heap.size _ (⟨#[13, 10]⟩ : ByteArray) _ HBU6.out (by rw [Lib.byteCells_length]; have h1 := HLK.out; have h2 := HSZ.out; simp only [List.length_append, size_list, List.length_cons, List.length_nil]; show _ + 2 ≤ _; omega) HW6.out.size).mono ?_
                rintro e w7 ⟨rfl, hb7, hw7, hk7⟩
                have HW7 : Hid (Below w.heap.size w w7) := HW6.out.trans hw7
                rw [cells_more] at hb7
                have HBU7 : Hid (Lib.IsBuilderF 67 5 w.heap.size w.heap.size (Lib.byteCells (acc k ++ hd.data.toList ++ ct.data.toList ++ [13, 10, 13, 10] ++ (body.extract i j).data.toList ++ [13, 10])) w7) := .inr hb7
                clear hb7 hw7 hk7
                go_wp2_with fail
                go_roundw
                case rel =>
                  have e1 : acc (k + 1) = acc k ++ hd.data.toList ++ ct.data.toList ++ [13, 10, 13, 10] ++ (body.extract i j).data.toList ++ [13, 10] := by
                    rw [HACC.out]
                    simp only
                    rw [HTK1.out, List.flatMap_append, List.flatMap_cons, List.flatMap_nil, List.append_nil, HHD.out, HCTL.out, extract_seg]
                    unfold ptB ctOf
                    simp
                  refine ⟨k + 1, HKL.out, by go_num, ?_, by rw [e1]; exact HBU7.out, HW7.out⟩
                  rw [HTK1.out]
                  intro x hx
                  rcases List.mem_append.1 hx with hx | hx
                  · exact HTAKEN.out x hx
                  · simp at hx; rw [hx]; exact HOKX.out
                case measure => have := HKL.out; simp [intOf]; omega
            · have HEnd : Hid (ls.take k = ls) := List.take_of_length_le (by omega)
              obtain ⟨tl, htl⟩ : ∃ tl : ByteArray, (⟨#[45, 45]⟩ : ByteArray) ++ b ++ ⟨#[45, 45]⟩ ++ ⟨#[13, 10]⟩ = tl := ⟨_, rfl⟩
              have HTL : Hid (tl.data.toList = tlB b.data.toList) := by
                show _ = _
                rw [← htl]; unfold tlB; simp
              have HTS : Hid (tl.size ≤ 36) := by
                show _ ≤ _
                rw [← size_list, HTL.out, tl_len, size_list]; have := H30.out; omega
              have HW2 : Hid (Below w.heap.size w wr) := hw
              have hb30 := H30.out
              go_wp2_with fail
              refine (Tryd.Builder_WriteString_k w.heap.size w.heap.size _ tl _ HBU.out (by rw [Lib.byteCells_length]; have h1 := HLK.out; have h2 := HTS.out; omega) HW2.out.size).mono ?_
              rintro e w3 ⟨rfl, hb3, hw3, hk3⟩
              rw [cells_more] at hb3
              have HW3 : Hid (Below w.heap.size w w3) := HW2.out.trans hw3
              have HBU3 : Hid (Lib.IsBuilderF 67 5 w.heap.size w.heap.size (Lib.byteCells (acc k ++ tl.data.toList)) w3) := .inr hb3
              clear hb3 hw3 hk3 htl
              go_wp2_with fail
              refine (Tryd.Builder_String_any_f w.heap.size w.heap.size _ _ HBU3.out HW3.out.size).mono ?_
              rintro e w4 ⟨rfl, hw4⟩
              have HW4 : Hid (Below w.heap.size w w4) := HW3.out.trans hw4.2
              clear hw4
              go_wp2_with fail
              go_ret2
              obtain ⟨g1, g2⟩ := HGOOD.out (by
                rw [List.all_eq_true]
                have := HTAKEN.out
                rw [HEnd.out] at this
                exact this)
              refine ⟨?_, HW4.out⟩
              rw [g2]
              have e2 : (⟨(acc k ++ tl.data.toList).toArray⟩ : ByteArray) = t := by
                apply ByteArray.ext; apply Array.ext'
                rw [g1, HACC.out, HTL.out]
                simp only
                rw [HEnd.out]
              rw [← e2]
              rfl
    · have g30 : decide ((b.size : Int) > 30) = true := decide_eq_true (by omega)
      have HE : Hid (t = ⟨#[]⟩ ∧ c = 3) := ans (bdl_syn (by rw [hokb, decide_eq_false h30]; rfl))
      clear hokb ans h30
      go_enter Tryd.func16, Tryd.ntmps16
      go_wp2_with fail
      refine (isToken_any b _ HB.out).mono ?_
      rintro e w1 ⟨rfl, hww⟩
      rw [hww, HTK.out]
      clear hww w1
      go_wp2_with fail
      go_ret2
      exact ⟨by rw [HE.out.1, HE.out.2]; rfl, Below.refl _ _⟩
end Go.Proofs.YtkmbhgbmdeoppaaDoor

/-
  What allOf of the document's answers computes; no condition but that a string is no longer than Go allows.
-/
namespace Go.Proofs.YtkmbhgbmdeoppaaDoor
open Go.RowKit

set_option maxHeartbeats 400000 in
set_option maxRecDepth 100000 in
theorem allOf_any (s f : ByteArray) (w : World) (hs : s.size ≤ maxLen) :
    Calls Tryd.prog 60 #[.string s, .string f] w fun e w' => e = .returned (.bool (allIn f.data.toList s.data.toList)) ∧ w' = w := by
  unfold maxLen at hs
  go_enter Tryd.func60, Tryd.ntmps60
  go_wp2_with fail
  go_loop [8] (fun i => ∃ k : Nat, k ≤ s.size ∧ i = .int .i64 k ∧ allIn f.data.toList (s.data.toList.take k) = true) (fun i => s.size - (intOf i).toNat)
  case atStart => exact ⟨0, Nat.zero_le _, rfl, rfl⟩
  case round =>
    obtain ⟨k, hk, rfl, hall⟩ := hrel
    have HA : Hid (allIn f.data.toList (s.data.toList.take k) = true) := hall
    clear hall
    by_cases hlt : k < s.size
    · cases ht : f.data.toList.contains s[k]
      · have HT : Hid (f.data.toList.contains s[k] = false) := ht
        clear ht
        go_wp2_with fail
        rw [extract_one s k hlt]
        refine (Tryd.strings_Contains_one _ _ _).mono ?_
        rintro e w' ⟨rfl, rfl⟩
        rw [← Lib.contains_iff_indexByte, HT.out]
        go_wp2_with fail
        go_ret
        refine ⟨ret_bool ?_, rfl⟩
        rw [allIn, all_false s (fun c => f.data.toList.contains c) k hlt HT.out]
      · have HT : Hid (f.data.toList.contains s[k] = true) := ht
        clear ht
        go_wp2_with fail
        rw [extract_one s k hlt]
        refine (Tryd.strings_Contains_one _ _ _).mono ?_
        rintro e w' ⟨rfl, rfl⟩
        rw [← Lib.contains_iff_indexByte, HT.out]
        go_wp2_with fail
        go_round
        case rel => exact ⟨k + 1, by omega, by go_num, by rw [take_snoc s k hlt, allIn, List.all_append, List.all_cons, HT.out, Bool.true_and, List.all_nil, Bool.and_true]; exact HA.out⟩
        case measure => simp [intOf]; omega
    · obtain rfl : k = s.size := by omega
      go_wp2_with fail
      go_ret
      refine ⟨ret_bool ?_, rfl⟩
      have h := HA.out
      rw [take_all] at h
      rw [h]
end Go.Proofs.YtkmbhgbmdeoppaaDoor

/-
  What Token of the document's answers compute; no condition but that a string is no longer than Go allows.
-/
namespace Go.Proofs.YtkmbhgbmdeoppaaDoor
open Go.RowKit

theorem isTok_all (c : UInt8) : [97, 98, 99, 100, 101, 102, 103, 104, 105, 106, 107, 108, 109, 110, 111, 112, 113, 114, 115, 116, 117, 118, 119, 120, 121, 122, 65, 66, 67, 68, 69, 70, 71, 72, 73, 74, 75, 76, 77, 78, 79, 80, 81, 82, 83, 84, 85, 86, 87, 88, 89, 90, 48, 49, 50, 51, 52, 53, 54, 55, 56, 57, 33, 35, 36, 37, 38, 39, 42, 43, 45, 46, 94, 95, 96, 124, 126].contains c = isTok c := by
  have := byAll (fun c => [97, 98, 99, 100, 101, 102, 103, 104, 105, 106, 107, 108, 109, 110, 111, 112, 113, 114, 115, 116, 117, 118, 119, 120, 121, 122, 65, 66, 67, 68, 69, 70, 71, 72, 73, 74, 75, 76, 77, 78, 79, 80, 81, 82, 83, 84, 85, 86, 87, 88, 89, 90, 48, 49, 50, 51, 52, 53, 54, 55, 56, 57, 33, 35, 36, 37, 38, 39, 42, 43, 45, 46, 94, 95, 96, 124, 126].contains c == isTok c) (by decide +kernel) c
  simpa using this

theorem allIn_tok (f l : List UInt8) (h : f = [97, 98, 99, 100, 101, 102, 103, 104, 105, 106, 107, 108, 109, 110, 111, 112, 113, 114, 115, 116, 117, 118, 119, 120, 121, 122, 65, 66, 67, 68, 69, 70, 71, 72, 73, 74, 75, 76, 77, 78, 79, 80, 81, 82, 83, 84, 85, 86, 87, 88, 89, 90, 48, 49, 50, 51, 52, 53, 54, 55, 56, 57, 33, 35, 36, 37, 38, 39, 42, 43, 45, 46, 94, 95, 96, 124, 126]) : allIn f l = l.all isTok := by
  subst h
  exact congrArg l.all (funext fun c => isTok_all c)

set_option maxHeartbeats 400000 in
set_option maxRecDepth 100000 in
theorem rtoken_any (s : ByteArray) (w : World) (hs : s.size ≤ maxLen) :
    Calls Tryd.prog 41 #[.string s] w fun e w' => e = .returned (.bool (token s.data.toList)) ∧ w' = w := by
  cases he : s.toList.isEmpty
  · have H : Hid (token s.data.toList = s.data.toList.all isTok) := by
      show token s.data.toList = _
      rw [token, ← ByteArray.toList_eq, he]; rfl
    go_enter Tryd.func41, Tryd.ntmps41
    go_wp2_with fail
    refine (allOf_any _ _ _ hs).mono ?_
    rintro e w' ⟨rfl, rfl⟩
    go_wp2_with fail
    go_ret
    refine ⟨ret_bool ?_, rfl⟩
    rw [H.out]
    exact allIn_tok _ _ rfl
  · have H : Hid (token s.data.toList = false) := by
      show token s.data.toList = _
      rw [token, ← ByteArray.toList_eq, he]; rfl
    go_enter Tryd.func41, Tryd.ntmps41
    go_wp2_with fail
    go_ret
    exact ⟨ret_bool H.out.symm, rfl⟩
end Go.Proofs.YtkmbhgbmdeoppaaDoor

/-
  What the document's Bundle answers; texts are no longer than Go allows.
-/
namespace Go.Proofs.YtkmbhgbmdeoppaaDoor
open Go.RowKit

theorem pt_len {b body : List UInt8} {x : Wn} (hb : b.length ≤ 30) (h : okC x body.length = true) : (ptB b body.length x (ctOf body x)).length ≤ 100100 := by
  have h1 := ctB_len h
  have h2 := ctOf_len h
  obtain ⟨h3, h4, h5, h6⟩ := okC_is h
  have h7 := hd_len b
  unfold ptB
  simp only [List.length_append, List.length_cons, List.length_nil]
  omega
theorem pts_len {b body : List UInt8} {l : List Wn} (hb : b.length ≤ 30) (h : ∀ x ∈ l, okC x body.length = true) : (l.flatMap (fun x => ptB b body.length x (ctOf body x))).length ≤ 100100 * l.length := by
  induction l with
  | nil => simp
  | cons x l ih =>
    have h1 := ih (fun y hy => h y (List.mem_cons_of_mem _ hy))
    have h2 := pt_len hb (h x (by simp))
    rw [List.flatMap_cons, List.length_append, List.length_cons]; omega
set_option maxHeartbeats 4000000 in
set_option maxRecDepth 100000 in
theorem rbundle_at (b body : ByteArray) (v : Value) (ls : List Wn) (t : ByteArray) (c : Int) (h : bdl b.data.toList body.data.toList ls = (t.data.toList, c)) (w : World) (hf : Wl w v ls) (hb : b.size ≤ maxLen) :
    Calls Tryd.prog 17 #[.string b, .string body, v] w fun e w' => e = .returned (.tuple #[.string t, .int .i64 c]) ∧ Below w.heap.size w w' := by
  have HF : Hid (Wl w v ls) := hf
  obtain ⟨ad, cap, rfl, hcap, hcm, _⟩ := id hf
  obtain ⟨tk, htk⟩ : ∃ tk, token b.data.toList = tk := ⟨_, rfl⟩
  have HTK : Hid (token b.data.toList = tk) := htk
  have HH : Hid (bdl b.data.toList body.data.toList ls = (t.data.toList, c)) := h
  have HB : Hid (b.size ≤ maxLen) := hb
  have hokb : okBn b.data.toList = (tk && decide (b.size ≤ 30)) := by unfold okBn; rw [htk, size_list]
  unfold maxLen at hcm
  clear hf htk h hb
  cases tk
  · have HE : Hid (t = ⟨#[]⟩ ∧ c = 3) := by
      have := HH.out
      rw [bdl_syn (by rw [hokb]; rfl)] at this
      obtain ⟨h1, h2⟩ := Prod.mk.inj this
      exact ⟨by apply ByteArray.ext; apply Array.ext'; exact h1.symm, h2.symm⟩
    clear hokb
    go_enter Tryd.func17, Tryd.ntmps17
    go_wp2_with fail
    refine (rtoken_any b _ HB.out).mono ?_
    rintro e w1 ⟨rfl, hww⟩
    rw [hww, HTK.out]
    clear hww w1
    go_wp2_with fail
    go_ret2
    exact ⟨by rw [HE.out.1, HE.out.2]; rfl, Below.refl _ _⟩
  · by_cases h30 : b.size ≤ 30
    · have g30 : ¬ (30 : Int) < (b.size : Int) := by omega
      have hok : okBn b.data.toList = true := by rw [hokb, decide_eq_true h30]; rfl
      have HOK : Hid (okBn b.data.toList = true) := hok
      clear hokb hok
      by_cases hln : ls.length = 0 ∨ 20 < ls.length
      · have HE : Hid (t = ⟨#[]⟩ ∧ c = 1) := by
          have := HH.out
          rw [bdl_arg HOK.out hln] at this
          obtain ⟨h1, h2⟩ := Prod.mk.inj this
          exact ⟨by apply ByteArray.ext; apply Array.ext'; exact h1.symm, h2.symm⟩
        have HO : Hid ((!decide ((1 : Int) ≤ (ls.length : Int) ∧ (ls.length : Int) ≤ 20)) = true) := by
          show _ = _
          rw [decide_eq_false (by omega)]; rfl
        clear hln
        go_enter Tryd.func17, Tryd.ntmps17
        go_wp2_with fail
        refine (rtoken_any b _ HB.out).mono ?_
        rintro e w1 ⟨rfl, hww⟩
        rw [hww, HTK.out]
        clear hww w1
        go_wp2_with fail
        refine (rout_at _ 1 20 true HO.out _).mono ?_
        rintro e w2 ⟨rfl, hb2⟩
        go_wp2_with fail
        go_ret2
        exact ⟨by rw [HE.out.1, HE.out.2]; rfl, hb2⟩
      · have HO : Hid ((!decide ((1 : Int) ≤ (ls.length : Int) ∧ (ls.length : Int) ≤ 20)) = false) := by
          show _ = _
          rw [decide_eq_true (by omega)]; rfl
        have HLN : Hid (¬ (ls.length = 0 ∨ 20 < ls.length)) := hln
        have hl20 : ls.length ≤ 20 := by omega
        have HBAD : Hid (∀ k (hk : k < ls.length), okC ls[k] body.size = false → t = ⟨#[]⟩ ∧ c = 1) := by
          intro k hk hno
          have := HH.out
          rw [bdl_bad HOK.out HLN.out (by rw [List.all_eq_false]; exact ⟨ls[k], List.getElem_mem hk, by rw [size_list, hno]; simp⟩)] at this
          obtain ⟨h1, h2⟩ := Prod.mk.inj this
          exact ⟨by apply ByteArray.ext; apply Array.ext'; exact h1.symm, h2.symm⟩
        clear hln
        go_enter Tryd.func17, Tryd.ntmps17
        go_wp2_with fail
        refine (rtoken_any b _ HB.out).mono ?_
        rintro e w1 ⟨rfl, hww⟩
        rw [hww, HTK.out]
        clear hww w1
        go_wp2_with fail
        refine (rout_at _ 1 20 false HO.out _).mono ?_
        rintro e w2 ⟨rfl, hb2⟩
        have HF2 : Hid (Wl w2 (.slice ad ls.length cap) ls) := HF.out.below hb2
        have HB2 : Hid (Below w.heap.size w w2) := hb2
        have hsz2 := hb2.size
        clear hb2
        go_wp2_with fail
        go_loopw [8, 26] (fun o i wr => ∃ (k : Nat) (u : ByteArray), k ≤ ls.length ∧ i = .int .i64 k ∧ o = .string u ∧ u.data.toList = (ls.take k).flatMap (fun x => ptB b.data.toList body.data.toList.length x (ctOf body.data.toList x)) ∧ Hid (∀ x ∈ ls.take k, okC x body.data.toList.length = true) ∧ Below w2.heap.size w2 wr) (fun _ i _ => ls.length - (intOf i).toNat)
        case atStart => exact ⟨0, ⟨#[]⟩, Nat.zero_le _, rfl, rfl, rfl, fun x hx => by simp at hx, Below.refl _ _⟩
        case round =>
          obtain ⟨k, u, hk, rfl, rfl, hu, hall, hw⟩ := hrel
          have hsz := hw.size
          have HU : Hid (u.data.toList = (ls.take k).flatMap (fun x => ptB b.data.toList body.data.toList.length x (ctOf body.data.toList x))) := hu
          have hus : u.size ≤ 2002000 := by
            have h1 := pts_len (by rw [size_list]; exact h30) hall.out
            have h2 := List.length_take_le k ls
            rw [← hu, size_list] at h1
            omega
          clear hu
          by_cases hlt : k < ls.length
          · obtain ⟨ad', cap', hv', _, _, hc'⟩ := HF2.out
            simp only [Value.slice.injEq] at hv'
            obtain ⟨rfl, _, rfl⟩ := hv'
            obtain ⟨g, off, rfl, hgs, hce⟩ := hc' (by omega)
            obtain ⟨c1, c2⟩ := hce k hlt
            obtain ⟨p, hp⟩ : ∃ p, p = (ls[k]).1 := ⟨_, rfl⟩
            obtain ⟨q, hq⟩ : ∃ q, q = (ls[k]).2 := ⟨_, rfl⟩
            rw [← hp] at c1
            rw [← hq] at c2
            have hE : ls[k] = (p, q) := by rw [hp, hq]
            have d1 : wr.cell? ⟨g, off + k * 2, none⟩ = some (.int .i64 p) := (hw.cell (p := ⟨g, off + k * 2, none⟩) hgs).trans c1
            have d2 : wr.cell? ⟨g, off + k * 2 + 1, none⟩ = some (.int .i64 q) := (hw.cell (p := ⟨g, off + k * 2 + 1, none⟩) hgs).trans c2
            have hgr : g < wr.heap.size := by omega
            have hki : (k : Int) < (ls.length : Int) := by omega
            have hk0 : (0 : Int) ≤ (k : Int) := by omega
            have hw0 := hw.alloc hsz (.cells #[.int .i64 p, .int .i64 q] 34)
            clear hce c1 c2 hp hq hc'
            obtain ⟨y, d, hpr⟩ := pair_bi (prC (p, q) (body.size : Int))
            have HPR : Hid (prC (p, q) (body.size : Int) = (y.data.toList, d)) := hpr
            by_cases hoc : okC (p, q) body.size = true
            · rw [prC_ok hoc] at hpr
              obtain ⟨hy, rfl⟩ := Prod.mk.inj hpr
              have hys : y.size ≤ 23 := by rw [← size_list, ← hy]; exact ctB_len hoc
              obtain ⟨o1, o2, o3, o4⟩ := okC_is hoc
              simp only at o1 o2 o3 o4
              obtain ⟨pn, rfl⟩ : ∃ pn : Nat, p = pn := ⟨p.toNat, by omega⟩
              obtain ⟨qn, rfl⟩ : ∃ qn : Nat, q = qn := ⟨q.toNat, by omega⟩
              obtain ⟨z, hzl, hzs, hsl⟩ := slice_part body pn qn (by omega) (by omega)
              have hzs2 : z.size ≤ 99999 := by omega
              have hct : ctOf body.data.toList ((pn : Int), (qn : Int)) = z.data.toList := by
                unfold ctOf
                simp only [Int.toNat_natCast]
                exact hzl.symm
              have HN : Hid ((u ++ ((((((⟨#[45, 45]⟩ : ByteArray) ++ b) ++ ⟨#[13, 10, 67, 111, 110, 116, 101, 110, 116, 45, 82, 97, 110, 103, 101, 58, 32]⟩ ++ y) ++ ⟨#[13, 10, 13, 10]⟩) ++ z) ++ ⟨#[13, 10]⟩)).data.toList = (ls.take (k + 1)).flatMap (fun x => ptB b.data.toList body.data.toList.length x (ctOf body.data.toList x))) := by
                show _ = _
                rw [List.take_succ_eq_append_getElem hlt, List.flatMap_append, List.flatMap_cons, List.flatMap_nil, List.append_nil, ← HU.out, hE, hct]
                unfold ptB hdB
                rw [size_list, hy]
                simp [ByteArray.data_append]
              have HALL : Hid (∀ x ∈ ls.take (k + 1), okC x body.data.toList.length = true) := by
                intro x hx
                rw [List.take_succ_eq_append_getElem hlt] at hx
                rcases List.mem_append.1 hx with hx | hx
                · exact hall.out x hx
                · rw [List.mem_singleton.1 hx, hE, size_list]; exact hoc
              clear hpr hy hoc hall hct hzl hE
              go_wp2_with fail
              refine (rcprint_at _ _ _ y 0 HPR.out _).mono ?_
              rintro e w3 ⟨rfl, hb3⟩
              have q0 : w3.cell? ⟨wr.heap.size, 0, none⟩ = some (.int .i64 (pn : Int)) := (hb3.cell (p := ⟨wr.heap.size, 0, none⟩) (by simp)).trans (by simp)
              have q1 : w3.cell? ⟨wr.heap.size, 1, none⟩ = some (.int .i64 (qn : Int)) := (hb3.cell (p := ⟨wr.heap.size, 1, none⟩) (by simp)).trans (by simp)
              have hw3 := hw0.trans (hb3.mono hw0.size)
              clear hb3 hw0 hw
              go_wp2_with fail
              go_roundw
              case rel => exact ⟨k + 1, _, by omega, by go_num, rfl, HN.out, HALL, hw3⟩
              case measure => simp [intOf]; omega
            · have hoc2 : okC (p, q) body.size = false := by simpa using hoc
              rw [prC_bad hoc2] at hpr
              obtain ⟨hy, rfl⟩ := Prod.mk.inj hpr
              have HE : Hid (t = ⟨#[]⟩ ∧ c = 1) := HBAD.out k hlt (by rw [hE]; exact hoc2)
              clear hpr hy hoc hoc2 hall hE
              go_wp2_with fail
              refine (rcprint_at _ _ _ y 1 HPR.out _).mono ?_
              rintro e w3 ⟨rfl, hb3⟩
              have hw3 := hw0.trans (hb3.mono hw0.size)
              clear hb3 hw0 hw
              go_wp2_with fail
              go_ret2
              exact ⟨by rw [HE.out.1, HE.out.2]; rfl, HB2.out.trans (hw3.mono hsz2)⟩
          · have HE : Hid ((((u ++ ⟨#[45, 45]⟩) ++ b) ++ ⟨#[45, 45, 13, 10]⟩ : ByteArray) = t ∧ c = 0) := by
              have := HH.out
              have ht : ls.take k = ls := List.take_of_length_le (by omega)
              rw [bdl_ok HOK.out HLN.out (by rw [List.all_eq_true]; intro x hx; exact hall.out x (by rw [ht]; exact hx))] at this
              obtain ⟨h1, h2⟩ := Prod.mk.inj this
              refine ⟨?_, h2.symm⟩
              apply ByteArray.ext; apply Array.ext'
              rw [← h1, ← ht, ← HU.out]
              unfold tlB
              simp [ByteArray.data_append]
            go_wp2_with fail
            go_ret2
            exact ⟨by rw [← HE.out.1, HE.out.2]; rfl, HB2.out.trans (hw.mono hsz2)⟩
    · have g30 : (30 : Int) < (b.size : Int) := by omega
      have HE : Hid (t = ⟨#[]⟩ ∧ c = 3) := by
        have := HH.out
        rw [bdl_syn (by rw [hokb, decide_eq_false h30]; rfl)] at this
        obtain ⟨h1, h2⟩ := Prod.mk.inj this
        exact ⟨by apply ByteArray.ext; apply Array.ext'; exact h1.symm, h2.symm⟩
      clear hokb h30
      go_enter Tryd.func17, Tryd.ntmps17
      go_wp2_with fail
      refine (rtoken_any b _ HB.out).mono ?_
      rintro e w1 ⟨rfl, hww⟩
      rw [hww, HTK.out]
      clear hww w1
      go_wp2_with fail
      go_ret2
      exact ⟨by rw [HE.out.1, HE.out.2]; rfl, Below.refl _ _⟩
end Go.Proofs.YtkmbhgbmdeoppaaDoor

/-
  The walk through SpanBundles: it answers true and turns nothing that was there; texts are no longer than the claim allows; the powers of ten of package strconv hold what their text lays.
-/
namespace Go.Proofs.YtkmbhgbmdeoppaaDoor
open Go.RowKit

set_option maxHeartbeats 2000000 in
set_option maxRecDepth 100000 in
theorem walkSpanBundles (a0 a1 : ByteArray) (a2 : Value) (l2 : List Wn) (w : World) (z0 : a0.size ≤ 140737488351232) (_z1 : a1.size ≤ 140737488351232) (z2 : Wl w a2 l2) (_m2 : WfW l2) (_b2 : l2.length ≤ 8796093021952) (hp : PowT w) :
    Calls Tryd.prog 6 #[.string a0, .string a1, a2] w fun e w' => e = .returned (.bool true) ∧ Below w.heap.size w w' := by
  obtain ⟨t, c, hm⟩ := pair_bi (bdl a0.data.toList a1.data.toList l2)
  have HM : Hid (bdl a0.data.toList a1.data.toList l2 = (t.data.toList, c)) := hm
  have HF : Hid (Wl w a2 l2) := z2
  have HT : Hid (PowT w) := hp
  have HZ : Hid (a0.size ≤ maxLen) := by show _ ≤ _; unfold maxLen; omega
  clear z0 z2 hp hm
  go_enter Tryd.func6, Tryd.ntmps6
  go_wp2_with fail
  refine (sbundle_at a0 a1 a2 l2 t c HM.out _ HF.out HZ.out HT.out).mono ?_
  rintro e w1 ⟨rfl, hb1⟩
  have HF1 : Hid (Wl w1 a2 l2) := HF.out.below hb1
  go_wp2_with fail
  refine (rbundle_at a0 a1 a2 l2 t c HM.out _ HF1.out HZ.out).mono ?_
  rintro e w2 ⟨rfl, hb2⟩
  have hb := hb1.trans (hb2.mono hb1.size)
  clear hb1 hb2
  go_wp2_with fail
  go_ret
  exact ⟨by first | rfl | simp, hb⟩
end Go.Proofs.YtkmbhgbmdeoppaaDoor
