/-
  Conditions in plain lists: what the document's Eval answers; no program is named here.
-/
import Derived.Test.YteifheoomodplaaDoorMc
import Derived.Test.YteifheoomodplaaDoorShelf
import Derived.Test.YteifheoomodplaaDoorRows
import Derived.Deep.SlicePairs
import Derived.Laws.AppendOwnNone
namespace Go.Proofs.YteifheoomodplaaDoor
open Go.RowKit

/-- One tag of a list is what the thing's own text asks for (o: what was read of that text). -/
def hitT (weak there : Bool) (o : Tg × Int) (t : Tg) : Bool := (o.2 == 0) && (there && ((t.2 == o.1.2) && (weak || (!t.1 && !o.1.1))))
/-- Is a field there that can be read, and is it met? -/
def mtE (ls : List Fld) (name : List UInt8) (there : Bool) (tag : List UInt8) (weak : Bool) : Bool × Bool :=
  if (vals ls name).isEmpty = true ∨ (liE (jn (vals ls name))).2 ≠ 0 then (false, false)
  else if (liE (jn (vals ls name))).1.2 = true then (true, there)
  else (true, (liE (jn (vals ls name))).1.1.any (hitT weak there (paE tag)))
def rdsB (m : List UInt8) : Bool := (m == [71, 69, 84]) || (m == [72, 69, 65, 68])
/-- What is left where neither If-Match nor If-Unmodified-Since refuses. -/
def ev2 (reads known : Bool) (mo : Int) (inm : Bool × Bool) (n2 : Int) (h2 : Bool) : Int :=
  if (inm.1 && inm.2) = true then (if reads = true then 304 else 412) else if (!inm.1 && (h2 && (known && (reads && decide (mo ≤ n2))))) = true then 304 else 0
def evE (reads known : Bool) (mo : Int) (im inm : Bool × Bool) (n1 : Int) (h1 : Bool) (n2 : Int) (h2 : Bool) : Int :=
  if (im.1 && !im.2) = true then 412 else if (!im.1 && (h1 && (known && decide (n1 < mo)))) = true then 412 else ev2 reads known mo inm n2 h2
def sIM : List UInt8 := [73, 102, 45, 77, 97, 116, 99, 104]
def sIUS : List UInt8 := [73, 102, 45, 85, 110, 109, 111, 100, 105, 102, 105, 101, 100, 45, 83, 105, 110, 99, 101]
def sINM : List UInt8 := [73, 102, 45, 78, 111, 110, 101, 45, 77, 97, 116, 99, 104]
def sIMS : List UInt8 := [73, 102, 45, 77, 111, 100, 105, 102, 105, 101, 100, 45, 83, 105, 110, 99, 101]
theorem any_take {α : Type} (l : List α) (p : α → Bool) (k : Nat) (h : k < l.length) : (l.take (k + 1)).any p = ((l.take k).any p || p l[k]) := by
  rw [List.take_succ_eq_append_getElem h, List.any_append]; simp
theorem hit_cases (weak there : Bool) (o : Tg × Int) (t : Tg) (m : Bool) :
    m = true ∨ (m = false ∧ (o.2 == 0) = false ∧ hitT weak there o t = false) ∨ (m = false ∧ (o.2 == 0) = true ∧ there = false ∧ hitT weak there o t = false) ∨
    (m = false ∧ (o.2 == 0) = true ∧ there = true ∧ (t.2 == o.1.2) = false ∧ hitT weak there o t = false) ∨
    (m = false ∧ (o.2 == 0) = true ∧ there = true ∧ (t.2 == o.1.2) = true ∧ weak = true ∧ hitT weak there o t = true) ∨
    (m = false ∧ (o.2 == 0) = true ∧ there = true ∧ (t.2 == o.1.2) = true ∧ weak = false ∧ t.1 = true ∧ hitT weak there o t = false) ∨
    (m = false ∧ (o.2 == 0) = true ∧ there = true ∧ (t.2 == o.1.2) = true ∧ weak = false ∧ t.1 = false ∧ hitT weak there o t = !o.1.1) := by
  unfold hitT
  cases m
  · right
    cases h1 : (o.2 == 0)
    · simp
    · cases there
      · simp
      · cases h2 : (t.2 == o.1.2)
        · simp
        · cases weak
          · cases t.1 <;> simp
          · simp
  · exact .inl rfl
end Go.Proofs.YteifheoomodplaaDoor

/-
  What slices.IndexFunc and slices.ContainsFunc compute over texts and a function value that answers p of each; lists are no longer than Go allows, texts no longer than 1,100 bytes.
-/
namespace Go.Proofs.YteifheoomodplaaDoor
open Go.RowKit

/-- A function value that answers p of each text, in whatever later world, and turns nothing. -/
def PredS (w : World) (f : Value) (p : Txt → Bool) : Prop :=
  ∃ (g : Nat) (lb : Array Value), f = .func (.func g) #[] lb ∧ (∀ args w, (callFunc g args).run Tryd.prog w = .ok (.enter g args) w) ∧
    ∀ (W : World) (x : ByteArray), Below w.heap.size w W → x.size ≤ 1100 → Calls Tryd.prog g (#[.string x] ++ lb) W fun e w' => e = .returned (.bool (p x.data.toList)) ∧ Below W.heap.size W w'

set_option maxHeartbeats 2000000 in
set_option maxRecDepth 100000 in
theorem sidx_any (v f : Value) (ts : List Txt) (n : Nat) (hn : n = ts.length) (hs : ∀ t ∈ ts, t.length ≤ 1100) (p : Txt → Bool) (B : Nat) (w : World) (hf : w.ownsRow B 9 1 v n (strs ts)) (hp : PredS w f p) :
    Calls Tryd.prog 51 #[v, f] w fun e w' => ∃ r : Int, e = .returned (.int .i64 r) ∧ decide (0 ≤ r) = ts.any p ∧ Below w.heap.size w w' := by
  subst hn
  obtain ⟨ad, cap, hv, hcm, hcap, hc⟩ := own_form2 hf
  obtain ⟨g0, lb, hfv, eg, hpc⟩ := hp
  subst hv hfv
  have HC : Hid (0 < ts.length → ∃ g, ad = some ⟨g, 0, none⟩ ∧ B ≤ g ∧ g < w.heap.size ∧ ∀ j, j < ts.length * 1 → w.cell? ⟨g, j, none⟩ = (strs ts)[j]?) := hc
  have HPC : Hid (∀ (W : World) (x : ByteArray), Below w.heap.size w W → x.size ≤ 1100 → Calls Tryd.prog g0 (#[.string x] ++ lb) W fun e w' => e = .returned (.bool (p x.data.toList)) ∧ Below W.heap.size W w') := hpc
  have HS : Hid (∀ t ∈ ts, t.length ≤ 1100) := hs
  clear hc hpc hf hs
  unfold maxLen at hcm
  go_enter Tryd.func51, Tryd.ntmps51
  go_wp2_with fail
  go_loopw [8] (fun i wr => ∃ k : Nat, k ≤ ts.length ∧ i = .int .i64 k ∧ (ts.take k).any p = false ∧ Below w.heap.size w wr) (fun i _ => ts.length - (intOf i).toNat)
  case atStart => exact ⟨0, Nat.zero_le _, rfl, rfl, Below.refl _ _⟩
  case round =>
    obtain ⟨k, hk, rfl, hno, hw⟩ := hrel
    have hsz := hw.size
    have HNO : Hid ((ts.take k).any p = false) := hno
    clear hno
    by_cases hlt : k < ts.length
    · obtain ⟨g, rfl, _, hgs, hce⟩ := HC.out (by omega)
      have c1 := hce k (by omega)
      rw [strs_get ts k hlt] at c1
      obtain ⟨u, hu⟩ : ∃ u : ByteArray, u = ⟨(ts[k]).toArray⟩ := ⟨_, rfl⟩
      have HE : Hid (u.data.toList = ts[k]) := by show _ = _; rw [hu]
      have d1 : wr.cell? ⟨g, k, none⟩ = some (.string u) := by rw [hw.cell (p := ⟨g, k, none⟩) hgs, hu]; exact c1
      have hus : u.size ≤ 1100 := by rw [← size_list, HE.out]; exact HS.out _ (List.getElem_mem hlt)
      have hgr : g < wr.heap.size := by omega
      clear hce c1 hu
      have hki : (k : Int) < (ts.length : Int) := by omega
      have hk0 : (0 : Int) ≤ (k : Int) := by omega
      cases hq : p u.data.toList
      · have HQ : Hid (p u.data.toList = false) := hq
        have HNX : Hid ((ts.take (k + 1)).any p = false) := by
          show _ = _
          rw [any_take _ _ _ hlt, HNO.out, ← HE.out, hq]; rfl
        clear hq
        go_wp2_with (go_at_fn g0; refine (HPC.out _ u hw hus).mono ?_; rintro e w2 ⟨rfl, hb2⟩; rw [HQ.out])
        go_roundw
        case rel => exact ⟨k + 1, by omega, by go_num, HNX.out, hw.trans (hb2.mono hw.size)⟩
        case measure => simp [intOf]; omega
      · have HQ : Hid (p u.data.toList = true) := hq
        have HRK : Hid (ts.any p = true) := by
          show _ = _
          rw [List.any_eq_true]
          exact ⟨ts[k], List.getElem_mem hlt, by rw [← HE.out]; exact hq⟩
        clear hq
        go_wp2_with (go_at_fn g0; refine (HPC.out _ u hw hus).mono ?_; rintro e w2 ⟨rfl, hb2⟩; rw [HQ.out])
        go_ret
        exact ⟨_, rfl, by rw [HRK.out]; exact decide_eq_true (by omega), hw.trans (hb2.mono hw.size)⟩
    · have HRK : Hid (ts.any p = false) := by
        show _ = _
        have := HNO.out
        rwa [List.take_of_length_le (by omega)] at this
      go_wp2_with fail
      go_ret
      exact ⟨_, rfl, by rw [HRK.out]; rfl, hw⟩
set_option maxHeartbeats 2000000 in
set_option maxRecDepth 100000 in
theorem scont_any (v f : Value) (ts : List Txt) (n : Nat) (hn : n = ts.length) (hs : ∀ t ∈ ts, t.length ≤ 1100) (p : Txt → Bool) (B : Nat) (w : World) (hf : w.ownsRow B 9 1 v n (strs ts)) (hp : PredS w f p) :
    Calls Tryd.prog 28 #[v, f] w fun e w' => e = .returned (.bool (ts.any p)) ∧ Below w.heap.size w w' := by
  have HF : Hid (w.ownsRow B 9 1 v n (strs ts)) := hf
  have HP : Hid (PredS w f p) := hp
  have HS : Hid (∀ t ∈ ts, t.length ≤ 1100) := hs
  clear hf hp hs
  go_enter Tryd.func28, Tryd.ntmps28
  go_wp2_with fail
  refine (sidx_any v f ts n hn HS.out p B _ HF.out HP.out).mono ?_
  rintro e w2 ⟨r, rfl, hr, hb⟩
  have HR : Hid (decide (0 ≤ r) = ts.any p) := hr
  clear hr
  go_wp2_with fail
  go_ret
  exact ⟨ret_bool HR.out, hb⟩
end Go.Proofs.YteifheoomodplaaDoor

/-
  New blocks lie above all that was there; no program is named here.
-/
namespace Go.Proofs.YteifheoomodplaaDoor
open Go.RowKit

theorem below_alloc (w : World) (o : Obj) : Below w.heap.size w (w.alloc o) := (Below.refl _ w).alloc (Nat.le_refl _) o
theorem below_alloc2 (w : World) (o o' : Obj) : Below w.heap.size w ((w.alloc o).alloc o') := (below_alloc w o).alloc (by simp) o'
theorem below_new {w w1 : World} {o : Obj} (h : Below (w.alloc o).heap.size (w.alloc o) w1) : Below w.heap.size w w1 := (below_alloc w o).trans (h.mono (by simp))
theorem below_new2 {w w1 : World} {o o' : Obj} (h : Below ((w.alloc o).alloc o').heap.size ((w.alloc o).alloc o') w1) : Below w.heap.size w w1 := (below_alloc2 w o o').trans (h.mono (by simp; omega))
theorem new_cell {w w1 : World} {cs : Array Value} {t : TypeId} (h : Below (w.alloc (.cells cs t)).heap.size (w.alloc (.cells cs t)) w1) (j : Nat) : w1.cell? ⟨w.heap.size, j, none⟩ = cs[j]? :=
  (h.cell (p := ⟨w.heap.size, j, none⟩) (by simp)).trans (by simp)
theorem new_cell2 {w w1 : World} {cs ds : Array Value} {t u : TypeId} (h : Below ((w.alloc (.cells cs t)).alloc (.cells ds u)).heap.size ((w.alloc (.cells cs t)).alloc (.cells ds u)) w1) (j : Nat) : w1.cell? ⟨w.heap.size, j, none⟩ = cs[j]? ∧ w1.cell? ⟨w.heap.size + 1, j, none⟩ = ds[j]? :=
  ⟨(h.cell (p := ⟨w.heap.size, j, none⟩) (by simp; omega)).trans (by simp), (h.cell (p := ⟨w.heap.size + 1, j, none⟩) (by simp)).trans (by simp)⟩
theorem two_cells {w W : World} {t : TypeId} {a b : Value} (h : Below (w.alloc (.cells #[a, b] t)).heap.size (w.alloc (.cells #[a, b] t)) W) :
    W.cell? ⟨w.heap.size, 0, none⟩ = some a ∧ W.cell? ⟨w.heap.size, 1, none⟩ = some b ∧ (∀ o, W.frozen? ⟨w.heap.size, o, none⟩ = false) ∧ w.heap.size < W.heap.size ∧ Below w.heap.size w W := by
  refine ⟨new_cell h 0, new_cell h 1, fun o => ?_, ?_, below_new h⟩
  · exact (h.frozen (p := ⟨w.heap.size, o, none⟩) (by simp)).trans (new_free _ _ _ _)
  · have := h.size; simp at this; omega
/-- A block of four cells, all of them written anew. -/
def set4 (w : World) (g : Nat) (a b c d : Value) : World := (((w.setCell ⟨g, 0, none⟩ a).setCell ⟨g, 1, none⟩ b).setCell ⟨g, 2, none⟩ c).setCell ⟨g, 3, none⟩ d
theorem set4_own {w : World} {g : Nat} {t : TypeId} {p q r s a b c d : Value} (h : w.heap[g]? = some (.cells #[p, q, r, s] t (0, 0))) : (set4 w g a b c d).heap[g]? = some (.cells #[a, b, c, d] t (0, 0)) := by
  unfold set4
  have h1 := heap_setCell_same w g 0 _ t a h
  have h2 := heap_setCell_same _ g 1 _ t b h1
  have h3 := heap_setCell_same _ g 2 _ t c h2
  exact heap_setCell_same _ g 3 _ t d h3
theorem set4_other {w : World} {g k : Nat} {a b c d : Value} (h : k ≠ g) : (set4 w g a b c d).heap[k]? = w.heap[k]? := by
  unfold set4
  rw [heap_setCell_other _ _ _ _ h, heap_setCell_other _ _ _ _ h, heap_setCell_other _ _ _ _ h, heap_setCell_other _ _ _ _ h]
theorem set4_below {B : Nat} {w0 w : World} {g : Nat} (a b c d : Value) (hb : Below B w0 w) (hg : B ≤ g) : Below B w0 (set4 w g a b c d) := (((hb.setCell hg a).setCell hg b).setCell hg c).setCell hg d
theorem set4_cell {w : World} {g : Nat} {t : TypeId} {p q r s a b c d : Value} (h : w.heap[g]? = some (.cells #[p, q, r, s] t (0, 0))) (j : Nat) : (set4 w g a b c d).cell? ⟨g, j, none⟩ = #[a, b, c, d][j]? := by
  simp [World.cell?, set4_own h]
end Go.Proofs.YteifheoomodplaaDoor

/-
  What Match of package vary computes; lists and texts are no longer than Go allows.
-/
namespace Go.Proofs.YteifheoomodplaaDoor
open Go.RowKit

/-- A list of fields whose texts, joined under whatever name, Go can hold. -/
def JoinsV (ls : List Fld) : Prop := ∀ n, (jn (vals ls n)).length ≤ 140737488355328
set_option maxHeartbeats 1000000 in
set_option maxRecDepth 100000 in
theorem vsame_at (va vb : Value) (la lb : List Fld) (x : ByteArray) (hx : x.size ≤ 1100) (w : World) (ha : Fl w va la) (hb : Fl w vb lb) (hwa : Wide la) (hwb : Wide lb) (hja : JoinsV la) (hjb : JoinsV lb) :
    Calls Tryd.prog 27 #[va, vb, .string x] w fun e w' => e = .returned (.bool (sameF la lb x.data.toList)) ∧ Below w.heap.size w w' := by
  obtain ⟨s, hs⟩ : ∃ s : ByteArray, s.data.toList = jn (vals la x.data.toList) := ⟨⟨(jn (vals la x.data.toList)).toArray⟩, rfl⟩
  obtain ⟨t, ht⟩ : ∃ t : ByteArray, t.data.toList = jn (vals lb x.data.toList) := ⟨⟨(jn (vals lb x.data.toList)).toArray⟩, rfl⟩
  have HS : Hid (s.data.toList = jn (vals la x.data.toList)) := hs
  have HT : Hid (t.data.toList = jn (vals lb x.data.toList)) := ht
  have hss : s.size ≤ 140737488355328 := by rw [← size_list, hs]; exact hja _
  have hts : t.size ≤ 140737488355328 := by rw [← size_list, ht]; exact hjb _
  have HA : Hid (Fl w va la) := ha
  have HB : Hid (Fl w vb lb) := hb
  have HWA : Hid (Wide la) := hwa
  have HWB : Hid (Wide lb) := hwb
  obtain ⟨p, hp⟩ : ∃ p, (!(vals la x.data.toList).isEmpty) = p := ⟨_, rfl⟩
  obtain ⟨q, hq⟩ : ∃ q, (!(vals lb x.data.toList).isEmpty) = q := ⟨_, rfl⟩
  have HP : Hid ((!(vals la x.data.toList).isEmpty) = p) := hp
  have HQ : Hid ((!(vals lb x.data.toList).isEmpty) = q) := hq
  have HR : Hid (sameF la lb x.data.toList = ((p == q) && (s.toList == t.toList))) := by
    show _ = _
    unfold sameF
    rw [hp, hq, ByteArray.toList_eq, ByteArray.toList_eq, hs, ht]
  clear hs ht ha hb hwa hwb hja hjb hp hq
  go_enter Tryd.func27, Tryd.ntmps27
  go_wp2_with fail
  refine (get_at va la x s p HS.out HP.out.symm _ HA.out HWA.out (by omega) hss).mono ?_
  rintro e w1 ⟨rfl, hb1⟩
  have HB1 : Hid (Below w.heap.size w w1) := hb1
  clear hb1
  go_wp2_with fail
  refine (get_at vb lb x t q HT.out HQ.out.symm _ (HB.out.below HB1.out) HWB.out (by omega) hts).mono ?_
  rintro e w2 ⟨rfl, hb2⟩
  have HB2 : Hid (Below w.heap.size w w2) := HB1.out.trans (hb2.mono HB1.out.size)
  clear hb2 HA HB HWA HWB HS HT HP HQ
  cases p <;> cases q
  all_goals
    go_wp2_with fail
    go_ret
    exact ⟨ret_bool (by rw [HR.out]; simp), HB2.out⟩

set_option maxHeartbeats 1000000 in
set_option maxRecDepth 100000 in
theorem vdiff_at (va vb : Value) (la lb : List Fld) (x : ByteArray) (hx : x.size ≤ 1100) (A : Nat) (B : Nat) (w : World) (c1 : w.cell? ⟨A, 0, none⟩ = some va) (c2 : w.cell? ⟨B, 0, none⟩ = some vb) (ha : Fl w va la) (hb : Fl w vb lb) (hwa : Wide la) (hwb : Wide lb) (hja : JoinsV la) (hjb : JoinsV lb) :
    Calls Tryd.prog 26 #[.string x, .pointer (some ⟨A, 0, none⟩), .pointer (some ⟨B, 0, none⟩)] w fun e w' => e = .returned (.bool (!sameF la lb x.data.toList)) ∧ Below w.heap.size w w' := by
  have HA : Hid (Fl w va la) := ha
  have HB : Hid (Fl w vb lb) := hb
  have hA := cell_in c1
  have hB := cell_in c2
  clear ha hb
  go_enter Tryd.func26, Tryd.ntmps26
  go_wp2_with fail
  refine (vsame_at va vb la lb x hx _ HA.out HB.out hwa hwb hja hjb).mono ?_
  rintro e w1 ⟨rfl, hb1⟩
  go_wp2_with fail
  go_ret
  exact ⟨rfl, hb1⟩

theorem fl_slice {w : World} {v : Value} {ls : List Fld} (h : Fl w v ls) : ∃ a n c, v = .slice a n c := by
  obtain ⟨ad, cap, hv, _⟩ := h
  exact ⟨_, _, _, hv⟩
theorem vN_small (l : Txt) : ∀ p ∈ (vN l).1, p.length ≤ 1000 := by
  unfold vN
  split
  · intro p hp; simp at hp
  · split
    · intro p hp
      have hp := (nms_mem _ p).1 hp
      unfold lowsV at hp
      obtain ⟨q, hq, rfl⟩ := List.mem_map.1 hp
      have := (split_most l).2 q (List.mem_filter.1 hq).1
      simpa [lower] using this
    · intro p hp; simp at hp
theorem all_not (l : List Txt) (p : Txt → Bool) : (!(l.any fun x => !p x)) = l.all p := by
  induction l with
  | nil => rfl
  | cons a l ih => rw [List.any_cons, List.all_cons, ← ih]; cases p a <;> simp
set_option maxHeartbeats 2000000 in
set_option maxRecDepth 100000 in
theorem vmatch_at (v va vb : Value) (ls la lb : List Fld) (w : World) (hv : Fl w v ls) (ha : Fl w va la) (hb : Fl w vb lb) (hw : Wide ls) (hwa : Wide la) (hwb : Wide lb) (hj : JoinsV ls) (hja : JoinsV la) (hjb : JoinsV lb) :
    Calls Tryd.prog 9 #[v, va, vb] w fun e w' => e = .returned (.tuple #[.bool (vM ls la lb).1, .int .i64 (vM ls la lb).2]) ∧ Below w.heap.size w w' := by
  have hmf : ∀ (fn : Fn) (first cap : Array Value) (w : World), (Instr.makeFunc fn first cap).run Tryd.prog w = .ok (.func fn first cap) w := fun _ _ _ _ => rfl
  obtain ⟨aa, ma, ca, rfl⟩ : ∃ a n c, va = .slice a n c := fl_slice ha
  obtain ⟨ab, mb, cb, rfl⟩ : ∃ a n c, vb = .slice a n c := fl_slice hb
  obtain ⟨N, hN⟩ : ∃ N, vV ls = N := ⟨_, rfl⟩
  obtain ⟨ns, star, c⟩ := N
  have HN : Hid (vV ls = (ns, star, c)) := hN
  have HL : Hid (∀ t ∈ ns, t.length ≤ 1100) := by
    intro t ht
    have : t ∈ (vV ls).1 := by rw [hN]; exact ht
    have := vN_small _ t this
    omega
  have HV : Hid (Fl w v ls) := hv
  have HA : Hid (Fl w _ la) := ha
  have HB : Hid (Fl w _ lb) := hb
  have HW : Hid (Wide ls) := hw
  have HJ : Hid (JoinsV ls) := hj
  have hB0 := below_alloc2 w (.cells #[.slice aa ma ca] 22) (.cells #[.slice ab mb cb] 22)
  have HB0 : Hid (Below w.heap.size w ((w.alloc (.cells #[.slice aa ma ca] 22)).alloc (.cells #[.slice ab mb cb] 22))) := hB0
  have HX : Hid (∀ W, Below ((w.alloc (.cells #[.slice aa ma ca] 22)).alloc (.cells #[.slice ab mb cb] 22)).heap.size ((w.alloc (.cells #[.slice aa ma ca] 22)).alloc (.cells #[.slice ab mb cb] 22)) W →
      ∀ (x : ByteArray), x.size ≤ 1100 → Calls Tryd.prog 26 #[.string x, .pointer (some ⟨w.heap.size, 0, none⟩), .pointer (some ⟨w.heap.size + 1, 0, none⟩)] W fun e w' => e = .returned (.bool (!sameF la lb x.data.toList)) ∧ Below W.heap.size W w') := by
    intro W hW x hx
    have h1 : W.cell? ⟨w.heap.size, 0, none⟩ = some (.slice aa ma ca) := (hW.cell (p := ⟨w.heap.size, 0, none⟩) (by simp; omega)).trans (by simp)
    have h2 : W.cell? ⟨w.heap.size + 1, 0, none⟩ = some (.slice ab mb cb) := (hW.cell (p := ⟨w.heap.size + 1, 0, none⟩) (by simp)).trans (by simp)
    have hb := hB0.trans (hW.mono hB0.size)
    exact vdiff_at _ _ la lb x hx _ _ W h1 h2 (ha.below hb) (HB.out.below hb) hwa hwb hja hjb
  clear hN hv ha hb hw hwa hwb hj hja hjb hB0
  go_enter Tryd.func9, Tryd.ntmps9
  go_wp2_with fail
  refine (vnames_at v ls _ (HV.out.below HB0.out) HW.out (HJ.out _)).mono ?_
  rintro e w1 ⟨v1, rfl, hown, hb1⟩
  rw [HN.out] at hown ⊢
  have HB1 : Hid (Below ((w.alloc (.cells #[.slice aa ma ca] 22)).alloc (.cells #[.slice ab mb cb] 22)).heap.size ((w.alloc (.cells #[.slice aa ma ca] 22)).alloc (.cells #[.slice ab mb cb] 22)) w1) := hb1
  have HBW : Hid (Below w.heap.size w w1) := HB0.out.trans (hb1.mono HB0.out.size)
  have HO : Hid (w1.ownsRow ((w.alloc (.cells #[.slice aa ma ca] 22)).alloc (.cells #[.slice ab mb cb] 22)).heap.size 9 1 v1 ns.length (strs ns)) := hown
  clear hown hb1
  by_cases hc : c = 0
  · subst hc
    have HR : Hid (vM ls la lb = (!star && ns.all (sameF la lb), 0)) := by
      show _ = _
      unfold vM
      rw [HN.out]
      simp
    cases star
    · go_wp2_with fail
      refine (scont_any v1 _ ns ns.length rfl HL.out (fun x => !sameF la lb x) _ _ HO.out ⟨26, #[.pointer (some ⟨w.heap.size, 0, none⟩), .pointer (some ⟨w.heap.size + 1, 0, none⟩)], rfl, enters_of Tryd.func26 (by kernel_rfl) rfl, fun W x hW hx => HX.out W (HB1.out.trans (hW.mono HB1.out.size)) x hx⟩).mono ?_
      rintro e w2 ⟨rfl, hb2⟩
      have HB2 : Hid (Below w.heap.size w w2) := HBW.out.trans (hb2.mono HBW.out.size)
      clear hb2
      go_wp2_with fail
      go_ret2
      exact ⟨by rw [HR.out]; simp only [all_not, Bool.not_false, Bool.true_and]; rfl, HB2.out⟩
    · go_wp2_with fail
      go_ret2
      exact ⟨by rw [HR.out]; rfl, HBW.out⟩
  · have hcb : (c == 0) = false := beq_eq_false_iff_ne.2 hc
    have HR : Hid (vM ls la lb = (false, c)) := by
      show _ = _
      unfold vM
      rw [HN.out]
      simp [hc]
    go_wp2_with fail
    go_ret2
    exact ⟨by rw [HR.out]; rfl, HBW.out⟩
end Go.Proofs.YteifheoomodplaaDoor

/-
  What VaryMatch of the document's answers computes of lists of fields that hold at most 2^20 letters and values each.
-/
namespace Go.Proofs.YteifheoomodplaaDoor
open Go.RowKit

theorem all_take (l : List Txt) (p : Txt → Bool) (k : Nat) (h : k < l.length) : (l.take (k + 1)).all p = ((l.take k).all p && p l[k]) := by
  rw [take_one l k h, List.all_append]; simp
set_option maxHeartbeats 4000000 in
set_option maxRecDepth 100000 in
theorem rvmatch_at (v va vb : Value) (ls la lb : List Fld) (w : World) (hv : Fl w v ls) (ha : Fl w va la) (hb : Fl w vb lb) (hk : bulkF ls ≤ 1048576) (hka : bulkF la ≤ 1048576) (hkb : bulkF lb ≤ 1048576) :
    Calls Tryd.prog 10 #[v, va, vb] w fun e w' => e = .returned (.tuple #[.bool (vM ls la lb).1, .int .i64 (vM ls la lb).2]) ∧ Below w.heap.size w w' := by
  obtain ⟨N, hN⟩ : ∃ N, vV ls = N := ⟨_, rfl⟩
  obtain ⟨ns, star, c⟩ := N
  have HN : Hid (vV ls = (ns, star, c)) := hN
  have HL : Hid (∀ t ∈ ns, t.length ≤ 1100) := by
    intro t ht
    have : t ∈ (vV ls).1 := by rw [hN]; exact ht
    have := vN_small _ t this
    omega
  have hnl : ns.length ≤ 20 := by
    have := vN_len (jn (vals ls nVary))
    have h2 : (vV ls).1.length ≤ 20 := this
    rwa [hN] at h2
  have HV : Hid (Fl w v ls) := hv
  have HA : Hid (Fl w va la) := ha
  have HB : Hid (Fl w vb lb) := hb
  clear hN hv ha hb
  go_enter Tryd.func10, Tryd.ntmps10
  go_wp2_with fail
  refine (rvnames_at v ls _ HV.out hk).mono ?_
  rintro e w1 ⟨v1, rfl, hown, hb1⟩
  rw [HN.out] at hown ⊢
  replace hown : w1.ownsRow w.heap.size 9 1 v1 ns.length (strs ns) := hown
  have HB1 : Hid (Below w.heap.size w w1) := hb1
  have hsz1 := hb1.size
  obtain ⟨ad, cap, hv1, hcm, hnc, hcells⟩ := own_slice hown
  subst hv1
  unfold maxLen at hcm
  have HCL : Hid (0 < ns.length → ∃ g, ad = some ⟨g, 0, none⟩ ∧ w.heap.size ≤ g ∧ g < w1.heap.size ∧ ∀ j, j < ns.length → w1.cell? ⟨g, j, none⟩ = (strs ns)[j]?) := hcells
  clear hown hb1 hcells
  by_cases hc : c = 0
  · subst hc
    have HR : Hid (vM ls la lb = (!star && ns.all (sameF la lb), 0)) := by
      show _ = _
      unfold vM
      rw [HN.out]
      simp
    go_wp2_with fail
    go_loopw [11, 31] (fun sv i wr => ∃ k : Nat, k ≤ ns.length ∧ i = .int .i64 k ∧ sv = .bool (!star && (ns.take k).all (sameF la lb)) ∧ Below w1.heap.size w1 wr) (fun _ i _ => ns.length - (intOf i).toNat)
    case atStart => exact ⟨0, by omega, rfl, by simp, Below.refl _ _⟩
    case round =>
      obtain ⟨k, hkl, rfl, rfl, hw⟩ := hrel
      have hszr := hw.size
      by_cases hlt : k < ns.length
      · obtain ⟨g, rfl, hgB, hgs, hce⟩ := HCL.out (by omega)
        have hcell : wr.cell? ⟨g, k, none⟩ = some (.string ⟨(ns[k]).toArray⟩) := by
          rw [hw.cell (p := ⟨g, k, none⟩) hgs, hce k hlt]
          exact strs_get ns k hlt
        obtain ⟨u, hu⟩ : ∃ u : ByteArray, u = ⟨(ns[k]).toArray⟩ := ⟨_, rfl⟩
        rw [← hu] at hcell
        have HU : Hid (u.data.toList = ns[k]) := by show _ = _; rw [hu]
        have hus : u.size ≤ 1100 := by rw [← size_list, HU.out]; exact HL.out _ (List.getElem_mem hlt)
        obtain ⟨b, hb⟩ : ∃ b, (!star && (ns.take k).all (sameF la lb)) = b := ⟨_, rfl⟩
        rw [hb]
        have HNX : Hid ((!star && (ns.take (k + 1)).all (sameF la lb)) = (b && sameF la lb u.data.toList)) := by
          show _ = _
          rw [all_take _ _ _ hlt, ← Bool.and_assoc, hb, HU.out]
        obtain ⟨s, hs⟩ : ∃ s : ByteArray, s.data.toList = jn (vals la u.data.toList) := ⟨⟨(jn (vals la u.data.toList)).toArray⟩, rfl⟩
        obtain ⟨t, ht⟩ : ∃ t : ByteArray, t.data.toList = jn (vals lb u.data.toList) := ⟨⟨(jn (vals lb u.data.toList)).toArray⟩, rfl⟩
        obtain ⟨p, hp⟩ : ∃ p, (!(vals la u.data.toList).isEmpty) = p := ⟨_, rfl⟩
        obtain ⟨q, hq⟩ : ∃ q, (!(vals lb u.data.toList).isEmpty) = q := ⟨_, rfl⟩
        have HS : Hid (s.data.toList = jn (vals la u.data.toList)) := hs
        have HT : Hid (t.data.toList = jn (vals lb u.data.toList)) := ht
        have HP : Hid ((!(vals la u.data.toList).isEmpty) = p) := hp
        have HQ : Hid ((!(vals lb u.data.toList).isEmpty) = q) := hq
        have HSF : Hid (sameF la lb u.data.toList = ((p == q) && (s.toList == t.toList))) := by
          show _ = _
          unfold sameF
          rw [hp, hq, ByteArray.toList_eq, ByteArray.toList_eq, hs, ht]
        have HBW : Hid (Below w.heap.size w wr) := HB1.out.trans (hw.mono hsz1)
        have hki : (k : Int) < (ns.length : Int) := by omega
        have hk0 : (0 : Int) ≤ (k : Int) := by omega
        have hgr : g < wr.heap.size := by omega
        clear hce hu hb hs ht hp hq
        go_wp2_with fail
        refine (rget_at va la u s p HS.out HP.out.symm _ (HA.out.below HBW.out) hka (by omega)).mono ?_
        rintro e w2 ⟨rfl, hb2⟩
        have HB2 : Hid (Below wr.heap.size wr w2) := by first | exact hb2 | (rw [hb2]; exact Below.refl _ _)
        have HBW2 : Hid (Below w.heap.size w w2) := HBW.out.trans (HB2.out.mono HBW.out.size)
        clear hb2 hcell
        go_wp2_with fail
        refine (rget_at vb lb u t q HT.out HQ.out.symm _ (HB.out.below HBW2.out) hkb (by omega)).mono ?_
        rintro e w3 ⟨rfl, hb3⟩
        have HB3 : Hid (Below wr.heap.size wr w3) := by first | exact HB2.out.trans (hb3.mono HB2.out.size) | (rw [hb3]; exact HB2.out)
        clear hb3 HBW2 HS HT HP HQ
        cases b <;> cases p <;> cases q
        all_goals
          go_wp2_with fail
          go_roundw
          case rel => exact ⟨k + 1, by omega, by go_num, by rw [HNX.out, HSF.out]; simp, hw.trans (HB3.out.mono hszr)⟩
          case measure => simp [intOf]; omega
      · obtain rfl : k = ns.length := by omega
        have HE : Hid ((!star && (ns.take ns.length).all (sameF la lb)) = (vM ls la lb).1) := by show _ = _; rw [HR.out, List.take_length]
        rw [HE.out]
        have HBW : Hid (Below w.heap.size w wr) := HB1.out.trans (hw.mono hsz1)
        go_wp2_with fail
        go_ret2
        exact ⟨by rw [HR.out]; rfl, HBW.out⟩
  · have hcb : (c == 0) = false := beq_eq_false_iff_ne.2 hc
    have HR : Hid (vM ls la lb = (false, c)) := by
      show _ = _
      unfold vM
      rw [HN.out]
      simp [hc]
    go_wp2_with fail
    go_ret2
    exact ⟨by rw [HR.out]; rfl, HB1.out⟩
end Go.Proofs.YteifheoomodplaaDoor

/-
  Eq of the document's answers on two lists of the same strings answers true and turns nothing.
-/
namespace Go.Proofs.YteifheoomodplaaDoor
open Go.RowKit

set_option maxHeartbeats 1000000 in
set_option maxRecDepth 100000 in
theorem eqS_same (v v' : Value) (ps : List (List UInt8)) (n B B' : Nat) (w : World) (hn : n ≤ 100000) (h : w.ownsRow B 9 1 v n (strs ps)) (h' : w.ownsRow B' 9 1 v' n (strs ps)) :
    Calls Tryd.prog 11 #[v, v'] w fun e w' => e = .returned (.bool true) ∧ w' = w := by
  have hl := own_cell h
  obtain ⟨ad, cap, hv, hcm, hnc, hc⟩ := own_slice h
  obtain ⟨ad', cap', hv', hcm', hnc', hc'⟩ := own_slice h'
  subst hv hv'
  unfold maxLen at hcm hcm'
  have HC : Hid (0 < n → ∃ g, ad = some ⟨g, 0, none⟩ ∧ B ≤ g ∧ g < w.heap.size ∧ ∀ j, j < n → w.cell? ⟨g, j, none⟩ = (strs ps)[j]?) := hc
  have HC' : Hid (0 < n → ∃ g, ad' = some ⟨g, 0, none⟩ ∧ B' ≤ g ∧ g < w.heap.size ∧ ∀ j, j < n → w.cell? ⟨g, j, none⟩ = (strs ps)[j]?) := hc'
  have HL : Hid (n = ps.length) := hl
  clear h h' hc hc' hl
  go_enter Tryd.func11, Tryd.ntmps11
  go_wp2_with fail
  go_loop [14] (fun i => ∃ k : Nat, k ≤ n ∧ i = .int .i64 k) (fun i => n - (intOf i).toNat)
  case atStart => exact ⟨0, Nat.zero_le _, rfl⟩
  case round =>
    obtain ⟨k, hk, rfl⟩ := hrel
    by_cases hlt : k < n
    · obtain ⟨g, rfl, _, _, hce⟩ := HC.out (by omega)
      obtain ⟨g', rfl, _, _, hce'⟩ := HC'.out (by omega)
      have hkl : k < ps.length := by rw [← HL.out]; exact hlt
      have c1 : w.cell? ⟨g, k, none⟩ = some (.string ⟨(ps[k]).toArray⟩) := by rw [hce k hlt]; exact strs_get ps k hkl
      have c2 : w.cell? ⟨g', k, none⟩ = some (.string ⟨(ps[k]).toArray⟩) := by rw [hce' k hlt]; exact strs_get ps k hkl
      generalize (⟨(ps[k]).toArray⟩ : ByteArray) = u at c1 c2
      clear hce hce'
      go_wp2
      go_round
      case rel => exact ⟨k + 1, by omega, by go_num⟩
      case measure => simp [intOf]; omega
    · go_wp2
      go_ret
      exact ⟨rfl, rfl⟩
end Go.Proofs.YteifheoomodplaaDoor

/-
  A list of fields of bulk at most 1048576 fits in the memory that Go's limits allow; no program is named here.
-/
namespace Go.Proofs.YteifheoomodplaaDoor
open Go.RowKit

theorem wide_bulk (ls : List Fld) (h : bulkF ls ≤ 1048576) : Wide ls := by
  refine ⟨fun x hx => ?_, ?_⟩
  · have := bulk_most ls x hx; omega
  · have := bulk_len ls; omega
end Go.Proofs.YteifheoomodplaaDoor

/-
  The walk through VarySays: it answers true and turns nothing that was there.
-/
namespace Go.Proofs.YteifheoomodplaaDoor
open Go.RowKit

theorem joins_bulk (ls : List Fld) (h : bulkF ls ≤ 140737488355328) : JoinsV ls := fun n => Nat.le_trans (jn_bulk ls n) h
set_option maxHeartbeats 2000000 in
set_option maxRecDepth 100000 in
theorem walkVarySays (a0 : Value) (l0 : List Fld) (a1 : Value) (l1 : List Fld) (a2 : Value) (l2 : List Fld) (w : World) (z0 : Fl w a0 l0) (b0 : bulkF l0 ≤ 1048576) (z1 : Fl w a1 l1) (b1 : bulkF l1 ≤ 1048576) (z2 : Fl w a2 l2) (b2 : bulkF l2 ≤ 1048576) :
    Calls Tryd.prog 3 #[a0, a1, a2] w fun e w' => e = .returned (.bool true) ∧ Below w.heap.size w w' := by
  have H0 : Hid (Fl w a0 l0) := z0
  have H1 : Hid (Fl w a1 l1) := z1
  have H2 : Hid (Fl w a2 l2) := z2
  obtain ⟨N, hN⟩ : ∃ N, vV l0 = N := ⟨_, rfl⟩
  obtain ⟨ns, st, c⟩ := N
  have HN : Hid (vV l0 = (ns, st, c)) := hN
  have hnl : ns.length ≤ 20 := by
    have h2 : (vV l0).1.length ≤ 20 := vN_len (jn (vals l0 nVary))
    rwa [hN] at h2
  obtain ⟨M, hM⟩ : ∃ M, vM l0 l1 l2 = M := ⟨_, rfl⟩
  obtain ⟨ok, d⟩ := M
  have HM : Hid (vM l0 l1 l2 = (ok, d)) := hM
  clear z0 z1 z2 hN hM
  go_enter Tryd.func3, Tryd.ntmps3
  go_wp2_with fail
  refine (vnames_at a0 l0 _ H0.out (wide_bulk l0 b0) (joins_bulk l0 (by omega) _)).mono ?_
  rintro e w1 ⟨v1, rfl, hown1, hb1⟩
  rw [HN.out] at hown1 ⊢
  have HO1 : Hid (w1.ownsRow w.heap.size 9 1 v1 ns.length (strs ns)) := hown1
  have HB1 : Hid (Below w.heap.size w w1) := hb1
  clear hown1 hb1
  go_wp2_with fail
  refine (rvnames_at a0 l0 _ (H0.out.below HB1.out) b0).mono ?_
  rintro e w2 ⟨v2, rfl, hown2, hb2⟩
  rw [HN.out] at hown2 ⊢
  have HO2 : Hid (w2.ownsRow w1.heap.size 9 1 v2 ns.length (strs ns)) := hown2
  have HO12 : Hid (w2.ownsRow w.heap.size 9 1 v1 ns.length (strs ns)) := own_below2 HO1.out hb2
  have HB2 : Hid (Below w.heap.size w w2) := HB1.out.trans (hb2.mono HB1.out.size)
  clear hown2 hb2 HO1
  go_wp2_with fail
  refine (vmatch_at a0 a1 a2 l0 l1 l2 _ (H0.out.below HB2.out) (H1.out.below HB2.out) (H2.out.below HB2.out) (wide_bulk l0 b0) (wide_bulk l1 b1) (wide_bulk l2 b2) (joins_bulk l0 (by omega)) (joins_bulk l1 (by omega)) (joins_bulk l2 (by omega))).mono ?_
  rintro e w3 ⟨rfl, hb3⟩
  rw [HM.out]
  have HO23 : Hid (w3.ownsRow w1.heap.size 9 1 v2 ns.length (strs ns)) := own_below2 HO2.out hb3
  have HO13 : Hid (w3.ownsRow w.heap.size 9 1 v1 ns.length (strs ns)) := own_below2 HO12.out hb3
  have HB3 : Hid (Below w.heap.size w w3) := HB2.out.trans (hb3.mono HB2.out.size)
  clear hb3 HO2 HO12 HB1 HB2
  go_wp2_with fail
  refine (rvmatch_at a0 a1 a2 l0 l1 l2 _ (H0.out.below HB3.out) (H1.out.below HB3.out) (H2.out.below HB3.out) b0 b1 b2).mono ?_
  rintro e w4 ⟨rfl, hb4⟩
  rw [HM.out]
  have HO24 : Hid (w4.ownsRow w1.heap.size 9 1 v2 ns.length (strs ns)) := own_below2 HO23.out hb4
  have HO14 : Hid (w4.ownsRow w.heap.size 9 1 v1 ns.length (strs ns)) := own_below2 HO13.out hb4
  have HB4 : Hid (Below w.heap.size w w4) := HB3.out.trans (hb4.mono HB3.out.size)
  clear hb4 HO23 HO13 HB3
  go_wp2_with fail
  refine (eqS_same v1 v2 ns _ _ _ _ (by omega) HO14.out HO24.out).mono ?_
  rintro e w' ⟨rfl, rfl⟩
  go_wp2_with fail
  go_ret
  exact ⟨by simp, HB4.out⟩
end Go.Proofs.YteifheoomodplaaDoor

/-
  A list of fields that came in, opened as a plain list of names and values; no program is named here.
-/
namespace Go.Proofs.YteifheoomodplaaDoor
open Go.RowKit Go.ChangeShapes Go.WideShapes Go.Deep

def bytesOfV : Value → List UInt8
  | .string s => s.data.toList
  | _ => []
theorem add_form (b off n : Nat) : (⟨b, off, none⟩ : Addr).add n = ⟨b, off + n, none⟩ := by
  by_cases h0 : n = 0
  · subst h0; simp [Addr.add]
  · simp [Addr.add, h0]
def fl1 {H : Type} (y : Fld) : DataW H := .agg [.lit (.string y.1), .lit (.string y.2)]

theorem open_fl {H : Type} {enc : TypeId × Value → H} {P : Program} {w : World} {base : Nat} {spare : Nat → Bool} {held : Bool} {t e : TypeId} {f0 f1 : Field} {fuel : Nat} {v : Value} {x : DataW H × List MemPlace}
    (ht : P.underlying t = some (.slice e)) (he : P.underlying e = some (.struct #[f0, f1])) (ce : P.cellsOf e = 2) (o0 : f0.offset = 0) (o1 : f1.offset = 1) (c0 : P.cellsOf f0.type = 1) (c1 : P.cellsOf f1.type = 1)
    (s0 : P.underlying f0.type = some .string) (s1 : P.underlying f1.type = some .string) (h : DataW.trod enc P w base spare held fuel t [v] = some x) :
    ∃ (ls : List Fld) (sp : List (DataW H)), Fl w v ls ∧ Most maxLen ls ∧ (x.1 = .nil ∧ ls = [] ∨ x.1 = .slice (ls.map fl1) sp) := by
  rcases open_slice_pairs ht he ce o0 o1 c0 c1 h with ⟨hcs, hx⟩ | ⟨a, len, cap, m, n, V0, V1, D0, D1, P0, P1, hcs, _, hl, hm, hmm, hx, hi⟩
  · simp only [List.cons.injEq, and_true] at hcs
    subst hcs
    have hM : Most maxLen [] := fun y hy => by cases hy
    exact ⟨[], [], Fl.nil w, hM, Or.inl ⟨by rw [hx], rfl⟩⟩
  · simp only [List.cons.injEq, and_true] at hcs
    subst hcs
    have hlm : len ≤ m := by rw [hmm]; split <;> omega
    have each : ∀ i, i < len → V0 i = .string ⟨(bytesOfV (V0 i)).toArray⟩ ∧ V1 i = .string ⟨(bytesOfV (V1 i)).toArray⟩ ∧ D0 i = .lit (.string (bytesOfV (V0 i))) ∧ D1 i = .lit (.string (bytesOfV (V1 i))) ∧ (bytesOfV (V0 i)).length ≤ maxLen ∧ (bytesOfV (V1 i)).length ≤ maxLen := by
      intro i hil
      obtain ⟨_, _, t0, t1⟩ := hi i (by omega)
      obtain ⟨a0, ha0, hd0, hz0⟩ := DataW.trod_string s0 t0
      obtain ⟨a1, ha1, hd1, hz1⟩ := DataW.trod_string s1 t1
      simp only [List.cons.injEq, and_true] at ha0 ha1
      simp only [Prod.mk.injEq] at hd0 hd1
      rw [ha0, ha1, hd0.1, hd1.1]
      refine ⟨rfl, rfl, rfl, rfl, ?_, ?_⟩
      · show a0.data.toList.length ≤ maxLen; rw [size_list]; exact hz0
      · show a1.data.toList.length ≤ maxLen; rw [size_list]; exact hz1
    refine ⟨(List.range len).map fun i => (bytesOfV (V0 i), bytesOfV (V1 i)), (List.range (m - len)).map fun j => .agg [D0 (len + j), D1 (len + j)], ⟨some a, cap, by simp, by simpa using hl, hm, fun h0 => ?_⟩, ?_, .inr ?_⟩
    rotate_left
    · intro y hy
      obtain ⟨i, hir, rfl⟩ := List.mem_map.1 hy
      obtain ⟨_, _, _, _, h5, h6⟩ := each i (List.mem_range.1 hir)
      exact ⟨h5, h6⟩
    · rw [hx]
      show DataW.slice _ _ = DataW.slice _ _
      congr 1
      rw [List.map_map]
      refine List.map_congr_left fun i hir => ?_
      obtain ⟨_, _, h3, h4, _⟩ := each i (List.mem_range.1 hir)
      show DataW.agg [D0 i, D1 i] = DataW.agg _
      rw [h3, h4]
    · simp only [List.length_map, List.length_range] at h0 ⊢
      obtain ⟨b, off, spot⟩ := a
      have hc0 := (hi 0 (by omega)).1
      have hspot : spot = none := by simpa [Addr.add] using World.cell?_spot hc0
      subst hspot
      refine ⟨b, off, rfl, ?_, fun k hk => ?_⟩
      · rw [add_form] at hc0
        exact cell_in hc0
      · obtain ⟨q0, q1, _⟩ := hi k (by omega)
        obtain ⟨h1, h2, _⟩ := each k hk
        rw [add_form] at q0 q1
        rw [List.getElem_map, List.getElem_range]
        refine ⟨?_, ?_⟩
        · rw [q0, h1]; rfl
        · rw [Nat.add_assoc, q1, h2]; rfl
end Go.Proofs.YteifheoomodplaaDoor

/-
  The walk through VarySame: it answers true and turns nothing that was there.
-/
namespace Go.Proofs.YteifheoomodplaaDoor
open Go.RowKit

theorem same_self (a : List Fld) (n : Txt) : sameF a a n = true := by simp [sameF]
theorem same_turn (a b : List Fld) (n : Txt) : sameF a b n = sameF b a n := by
  unfold sameF
  rw [Bool.eq_iff_iff]
  simp only [Bool.and_eq_true, beq_iff_eq]
  exact ⟨fun h => ⟨h.1.symm, h.2.symm⟩, fun h => ⟨h.1.symm, h.2.symm⟩⟩
/-- What Match says of the same fields, and turned about. -/
theorem vM_facts (l a b : List Fld) (st : Bool) (c : Int) (ns : List Txt) (h : vV l = (ns, st, c)) :
    (c ≠ 0 → vM l a a = (false, c) ∧ vM l a b = (false, c) ∧ vM l b a = (false, c)) ∧ (c = 0 → ∃ y, vM l a a = (!st, 0) ∧ vM l a b = (y, 0) ∧ vM l b a = (y, 0) ∧ (y = true → st = false)) := by
  unfold vM
  rw [h]
  refine ⟨fun hc => ?_, fun hc => ⟨!st && ns.all (sameF a b), ?_⟩⟩
  · simp [hc]
  · subst hc
    have e1 : ns.all (sameF a a) = true := List.all_eq_true.2 fun n _ => same_self a n
    have e2 : ns.all (sameF b a) = ns.all (sameF a b) := by
      congr 1
      funext n
      exact same_turn b a n
    refine ⟨by simp [e1], rfl, by simp [e2], ?_⟩
    cases st <;> simp
theorem vM_nil : vM [] [] [] = (true, 0) := by
  have h : vV [] = ([], false, 0) := by
    have hs : splitS (jn (vals [] nVary)) = ([], 0) := by decide
    unfold vV vN
    rw [hs]
    have : nmsV [] = [] := List.length_eq_zero_iff.1 (Nat.le_zero.1 (nms_len []))
    simp [this, starV]
  unfold vM
  rw [h]; rfl
theorem joins_nil : JoinsV [] := fun n => by simp [vals, jn, Lib.join_nil]
theorem wide_nil : Wide [] := wide_bulk [] (by decide)
theorem joins_bulk' (ls : List Fld) (h : bulkF ls ≤ 140737488355328) : JoinsV ls := fun n => Nat.le_trans (jn_bulk ls n) h
theorem vmatch_nil (w : World) : Calls Tryd.prog 9 #[.slice none 0 0, .slice none 0 0, .slice none 0 0] w fun e w' => e = .returned (.tuple #[.bool true, .int .i64 0]) ∧ Below w.heap.size w w' := by
  refine (vmatch_at _ _ _ [] [] [] w (Fl.nil w) (Fl.nil w) (Fl.nil w) wide_nil wide_nil wide_nil joins_nil joins_nil joins_nil).mono ?_
  rintro e w' ⟨rfl, hb⟩
  rw [vM_nil]
  exact ⟨rfl, hb⟩
set_option maxHeartbeats 2000000 in
set_option maxRecDepth 100000 in
theorem walkVarySame (a0 : Value) (l0 : List Fld) (a1 : Value) (l1 : List Fld) (a2 : Value) (l2 : List Fld) (w : World) (z0 : Fl w a0 l0) (b0 : bulkF l0 ≤ 1048576) (z1 : Fl w a1 l1) (b1 : bulkF l1 ≤ 1048576) (z2 : Fl w a2 l2) (b2 : bulkF l2 ≤ 1048576) :
    Calls Tryd.prog 4 #[a0, a1, a2] w fun e w' => e = .returned (.bool true) ∧ Below w.heap.size w w' := by
  have H0 : Hid (Fl w a0 l0) := z0
  have H1 : Hid (Fl w a1 l1) := z1
  have H2 : Hid (Fl w a2 l2) := z2
  obtain ⟨N, hN⟩ : ∃ N, vV l0 = N := ⟨_, rfl⟩
  obtain ⟨ns, st, c⟩ := N
  have HN : Hid (vV l0 = (ns, st, c)) := hN
  have HFA : Hid ((c ≠ 0 → vM l0 l1 l1 = (false, c) ∧ vM l0 l1 l2 = (false, c) ∧ vM l0 l2 l1 = (false, c)) ∧ (c = 0 → ∃ y, vM l0 l1 l1 = (!st, 0) ∧ vM l0 l1 l2 = (y, 0) ∧ vM l0 l2 l1 = (y, 0) ∧ (y = true → st = false))) := vM_facts l0 l1 l2 st c ns hN
  obtain ⟨X, hX⟩ : ∃ X, vM l0 l1 l1 = X := ⟨_, rfl⟩
  obtain ⟨x, f⟩ := X
  obtain ⟨Y, hY⟩ : ∃ Y, vM l0 l1 l2 = Y := ⟨_, rfl⟩
  obtain ⟨y, g⟩ := Y
  obtain ⟨Z, hZ⟩ : ∃ Z, vM l0 l2 l1 = Z := ⟨_, rfl⟩
  obtain ⟨z, h⟩ := Z
  have HX : Hid (vM l0 l1 l1 = (x, f)) := hX
  have HY : Hid (vM l0 l1 l2 = (y, g)) := hY
  have HZ : Hid (vM l0 l2 l1 = (z, h)) := hZ
  clear z0 z1 z2 hN hX hY hZ
  go_enter Tryd.func4, Tryd.ntmps4
  go_wp2_with fail
  refine (vnames_at a0 l0 _ H0.out (wide_bulk l0 b0) (joins_bulk' l0 (by omega) _)).mono ?_
  rintro e w1 ⟨v1, rfl, hown1, hb1⟩
  rw [HN.out]
  have HB1 : Hid (Below w.heap.size w w1) := hb1
  clear hown1 hb1
  go_wp2_with fail
  refine (vmatch_at a0 a1 a1 l0 l1 l1 _ (H0.out.below HB1.out) (H1.out.below HB1.out) (H1.out.below HB1.out) (wide_bulk l0 b0) (wide_bulk l1 b1) (wide_bulk l1 b1) (joins_bulk' l0 (by omega)) (joins_bulk' l1 (by omega)) (joins_bulk' l1 (by omega))).mono ?_
  rintro e w2 ⟨rfl, hb2⟩
  rw [HX.out]
  have HB2 : Hid (Below w.heap.size w w2) := HB1.out.trans (hb2.mono HB1.out.size)
  clear hb2 HB1
  go_wp2_with fail
  refine (vmatch_at a0 a1 a2 l0 l1 l2 _ (H0.out.below HB2.out) (H1.out.below HB2.out) (H2.out.below HB2.out) (wide_bulk l0 b0) (wide_bulk l1 b1) (wide_bulk l2 b2) (joins_bulk' l0 (by omega)) (joins_bulk' l1 (by omega)) (joins_bulk' l2 (by omega))).mono ?_
  rintro e w3 ⟨rfl, hb3⟩
  rw [HY.out]
  have HB3 : Hid (Below w.heap.size w w3) := HB2.out.trans (hb3.mono HB2.out.size)
  clear hb3 HB2
  go_wp2_with fail
  refine (vmatch_at a0 a2 a1 l0 l2 l1 _ (H0.out.below HB3.out) (H2.out.below HB3.out) (H1.out.below HB3.out) (wide_bulk l0 b0) (wide_bulk l2 b2) (wide_bulk l1 b1) (joins_bulk' l0 (by omega)) (joins_bulk' l2 (by omega)) (joins_bulk' l1 (by omega))).mono ?_
  rintro e w4 ⟨rfl, hb4⟩
  rw [HZ.out]
  have HB4 : Hid (Below w.heap.size w w4) := HB3.out.trans (hb4.mono HB3.out.size)
  clear hb4 HB3
  go_wp2_with fail
  refine (vmatch_nil _).mono ?_
  rintro e w5 ⟨rfl, hb5⟩
  have HB5 : Hid (Below w.heap.size w w5) := HB4.out.trans (hb5.mono HB4.out.size)
  have hfa := HFA.out
  rw [HX.out, HY.out, HZ.out] at hfa
  simp only [Prod.mk.injEq] at hfa
  clear hb5 HB4 HFA HX HY HZ HN
  by_cases hc : c = 0
  · obtain ⟨_, h2⟩ := hfa
    obtain ⟨y', ⟨rfl, rfl⟩, ⟨rfl, rfl⟩, ⟨rfl, rfl⟩, hy⟩ := h2 hc
    subst hc
    cases st <;> cases z
    case true.true => exact absurd (hy rfl) (by simp)
    all_goals
      clear hy h2
      go_wp2_with fail
      go_ret
      exact ⟨by simp, HB5.out⟩
  · obtain ⟨h1, _⟩ := hfa
    obtain ⟨⟨rfl, rfl⟩, ⟨rfl, rfl⟩, ⟨rfl, rfl⟩⟩ := h1 hc
    have hcb : (h == 0) = false := beq_eq_false_iff_ne.2 hc
    have hcc : (h == h) = true := by simp
    clear h1
    go_wp2_with fail
    go_ret
    exact ⟨by simp, HB5.out⟩
end Go.Proofs.YteifheoomodplaaDoor

/-
  Plain lemmas on tokens: none has a sign that is cut at, a quote, a stroke or a blank; no program is named here.
-/
namespace Go.Proofs.YteifheoomodplaaDoor
open Go.RowKit

theorem tok_ne (c : UInt8) (h : isTok c = true) : c ≠ 34 ∧ c ≠ 92 ∧ c ≠ 44 ∧ c ≠ 59 ∧ c ≠ 61 ∧ blank c = false := by
  have := byAll (fun c => !isTok c || (decide (c ≠ 34) && decide (c ≠ 92) && decide (c ≠ 44) && decide (c ≠ 59) && decide (c ≠ 61) && !blank c)) (by decide +kernel) c
  rw [h] at this
  simp at this
  obtain ⟨⟨⟨⟨⟨h1, h2⟩, h3⟩, h4⟩, h5⟩, h6⟩ := this
  exact ⟨h1, h2, h3, h4, h5, h6⟩
theorem tok_run (sep : UInt8) (hsep : sep = 44 ∨ sep = 59) (l : List UInt8) (h : l.all isTok = true) : run sep (false, false) l = some (false, false) := by
  induction l with
  | nil => rfl
  | cons c l ih =>
    rw [List.all_cons, Bool.and_eq_true] at h
    obtain ⟨h1, h2, h3, h4, _, _⟩ := tok_ne c h.1
    have hs : c ≠ sep := by rcases hsep with rfl | rfl <;> assumption
    rw [run_cons, if_neg (fun x => hs x.1)]
    simp only [Bool.false_eq_true, if_false, h1, h2]
    exact ih h.2
theorem token_parts (l : List UInt8) (h : token l = true) : l.isEmpty = false ∧ l.all isTok = true := by
  unfold token at h
  rw [Bool.and_eq_true] at h
  exact ⟨by simpa using h.1, h.2⟩
theorem trimL_token (l : List UInt8) (h : token l = true) : trimL l = l := by
  obtain ⟨_, h2⟩ := token_parts l h
  rw [List.all_eq_true] at h2
  apply trimL_stays
  · intro b hb
    exact (tok_ne b (h2 b (List.mem_of_mem_head? hb))).2.2.2.2.2
  · intro b hb
    exact (tok_ne b (h2 b (List.mem_of_getLast? hb))).2.2.2.2.2
end Go.Proofs.YteifheoomodplaaDoor

/-
  A field that is set under another name, and a name more in Vary: what Match says then; over plain lists, no program is named here.
-/
namespace Go.Proofs.YteifheoomodplaaDoor
open Go.RowKit

theorem bare_tok (d : Txt) (h : token d = true) : Bare d :=
  ⟨tok_run 44 (.inl rfl) d (token_parts d h).2, trimL_token d h, (token_parts d h).1, fun c hc => (tok_ne c ((List.all_eq_true.1 (token_parts d h).2) c hc)).1⟩
theorem vV_low (l : List Fld) : ∀ x ∈ (vV l).1, lower x = x := by
  unfold vV vN
  split
  · intro x hx; simp at hx
  · split
    · intro x hx
      have hx := (nms_mem _ x).1 hx
      unfold lowsV at hx
      obtain ⟨q, _, rfl⟩ := List.mem_map.1 hx
      exact lower_lower q
    · intro x hx; simp at hx
/-- Set under a name that Vary doesn't list, a field changes nothing. -/
theorem vM_other (l a b : List Fld) (n v : Txt) (h : (vV l).1.contains (lower n) = false) : vM l (setS n v a) b = vM l a b := by
  have hs : ∀ x ∈ (vV l).1, sameF (setS n v a) b x = sameF a b x := by
    intro x hx
    have hlx := vV_low l x hx
    have hne : lower x ≠ lower n := by
      intro e
      rw [hlx] at e
      rw [← e, List.contains_iff_mem.2 hx] at h
      cases h
    unfold sameF
    rw [vals_set_other n v x a hne]
  unfold vM
  have : (vV l).1.all (sameF (setS n v a) b) = (vV l).1.all (sameF a b) := by
    rw [Bool.eq_iff_iff, List.all_eq_true, List.all_eq_true]
    exact ⟨fun g x hx => by rw [← hs x hx]; exact g x hx, fun g x hx => by rw [hs x hx]; exact g x hx⟩
  rw [this]
theorem vN_nil : vN [] = ([], false, 0) := by
  have hs : splitS [] = ([], 0) := by decide
  unfold vN
  rw [hs]
  have : nmsV [] = [] := List.length_eq_zero_iff.1 (Nat.le_zero.1 (nms_len []))
  simp [this, starV]
theorem lows_app (P Q : List Txt) : lowsV (P ++ Q) = lowsV P ++ lowsV Q := by simp [lowsV]
/-- What is named beside what was: more must be the same. -/
theorem vN_more (s d : Txt) (hd : token d = true) (h : (vN (s ++ 44 :: d)).2.2 = 0) : (vN s).2.2 = 0 ∧ ((vN s).2.1 = true → (vN (s ++ 44 :: d)).2.1 = true) ∧ ∀ x ∈ (vN s).1, x ∈ (vN (s ++ 44 :: d)).1 := by
  obtain ⟨P, c, hP⟩ : ∃ P c, splitS (s ++ 44 :: d) = (P, c) := ⟨_, _, rfl⟩
  have hc : c = 0 := by
    unfold vN at h
    rw [hP] at h
    by_cases hc : c = 0
    · exact hc
    · simp [hc] at h
  subst hc
  obtain ⟨Q, hQ, rfl⟩ := split_comma s d (bare_tok d hd) P hP
  have ht : (Q ++ [d]).all token = true := by
    unfold vN at h
    rw [hP] at h
    by_cases ht : (Q ++ [d]).all token = true
    · exact ht
    · simp [ht] at h
  have htQ : Q.all token = true := by
    rw [List.all_append, Bool.and_eq_true] at ht
    exact ht.1
  have e1 : vN s = (nmsV Q, starV Q, 0) := by
    unfold vN
    rw [hQ]
    simp [htQ]
  have e2 : vN (s ++ 44 :: d) = (nmsV (Q ++ [d]), starV (Q ++ [d]), 0) := by
    unfold vN
    rw [hP]
    simp only [ne_eq, not_true_eq_false, if_false, ht, if_true]
  rw [e1, e2]
  refine ⟨rfl, fun hs => ?_, fun x hx => ?_⟩
  · show starV (Q ++ [d]) = true
    rw [star_snoc]
    show (starV Q || _) = true
    have hs : starV Q = true := hs
    rw [hs]; rfl
  · show x ∈ nmsV (Q ++ [d])
    have hx : x ∈ nmsV Q := hx
    rw [nms_mem] at hx ⊢
    rw [lows_app]
    exact List.mem_append_left _ hx
theorem vM_more (l a b : List Fld) (d n' : Txt) (hd : token d = true) (hn : n' = if (!(vals l nVary).isEmpty) = true then jn (vals l nVary) ++ 44 :: d else d)
    (h0 : (vV l).2.2 = 0) (hm : vM (setS nVary n' l) a b = (true, 0)) : (vM l a b).1 = true := by
  have hv : vV (setS nVary n' l) = vN n' := by unfold vV; rw [vals_set, jn_one]
  cases hb : (vals l nVary).isEmpty
  · rw [hb] at hn
    replace hn : n' = jn (vals l nVary) ++ 44 :: d := by simpa using hn
    unfold vM at hm
    rw [hv] at hm
    by_cases hc : (vN n').2.2 = 0
    · rw [if_neg (by rw [hc]; simp)] at hm
      have hm : ((!(vN n').2.1) && (vN n').1.all (sameF a b)) = true := (Prod.mk.inj hm).1
      rw [Bool.and_eq_true, Bool.not_eq_true', List.all_eq_true] at hm
      rw [hn] at hm hc
      obtain ⟨g1, g2, g3⟩ := vN_more (jn (vals l nVary)) d hd hc
      unfold vM
      rw [if_neg (by rw [h0]; simp)]
      show (!(vV l).2.1 && (vV l).1.all (sameF a b)) = true
      rw [Bool.and_eq_true, Bool.not_eq_true', List.all_eq_true]
      refine ⟨?_, fun x hx => hm.2 x (g3 x hx)⟩
      cases hs : (vV l).2.1
      · rfl
      · rw [g2 hs] at hm; exact absurd hm.1 (by simp)
    · rw [if_pos hc] at hm
      cases hm
  · have e : vals l nVary = [] := List.isEmpty_iff.1 hb
    have e2 : vV l = ([], false, 0) := by unfold vV; rw [e]; exact vN_nil
    unfold vM
    rw [e2]; rfl
end Go.Proofs.YteifheoomodplaaDoor

/-
  How much a list holds that a field is set in; a list of fields of bulk at most 4194304 fits in the memory that Go's limits allow; no program is named here.
-/
namespace Go.Proofs.YteifheoomodplaaDoor
open Go.RowKit

theorem bulk_set (s v : List UInt8) (ls : List Fld) : bulkF (setS s v ls) ≤ bulkF ls + s.length + v.length + 3 := by
  have hr : ∀ ls : List Fld, bulkF (rest1 s ls) ≤ bulkF ls := by
    intro ls
    unfold rest1
    induction ls with
    | nil => exact Nat.le_refl _
    | cons a ls ih =>
      rw [List.filter_cons]
      simp only [bulkF, List.map_cons, List.sum_cons] at ih ⊢
      split
      · simp only [List.map_cons, List.sum_cons]; omega
      · omega
  induction ls with
  | nil => simp [setS, bulkF]
  | cons a ls ih =>
    unfold setS
    split
    · have := hr ls
      simp only [bulkF, List.map_cons, List.sum_cons] at this ih ⊢
      omega
    · simp only [bulkF, List.map_cons, List.sum_cons] at ih ⊢
      omega
theorem bulk_drop (s : List UInt8) (ls : List Fld) : bulkF (rest1 s ls) ≤ bulkF ls := by
  unfold rest1
  induction ls with
  | nil => exact Nat.le_refl _
  | cons a ls ih =>
    rw [List.filter_cons]
    simp only [bulkF, List.map_cons, List.sum_cons] at ih ⊢
    split
    · simp only [List.map_cons, List.sum_cons]; omega
    · omega
theorem wide_bulk4 (ls : List Fld) (h : bulkF ls ≤ 4194304) : Wide ls := by
  refine ⟨fun x hx => ?_, ?_⟩
  · have := bulk_most ls x hx; omega
  · have := bulk_len ls; omega
end Go.Proofs.YteifheoomodplaaDoor

/-
  What but of package field hands back: a function of a field that answers the other way; what it answers in whatever later world.
-/
namespace Go.Proofs.YteifheoomodplaaDoor
open Go.RowKit

set_option maxHeartbeats 1000000 in
set_option maxRecDepth 100000 in
theorem but1_any (n u : ByteArray) (B g : Nat) (lb : Array Value) (b : Bool) (w : World) (hc : w.cell? ⟨B, 0, none⟩ = some (.func (.func g) #[] lb)) (eg : ∀ args w, (callFunc g args).run Tryd.prog w = .ok (.enter g args) w)
    (hcall : ∀ W, Below w.heap.size w W → Calls Tryd.prog g (#[.agg #[.string n, .string u]] ++ lb) W fun e w' => e = .returned (.bool b) ∧ Below W.heap.size W w') :
    Calls Tryd.prog 53 #[.agg #[.string n, .string u], .pointer (some ⟨B, 0, none⟩)] w fun e w' => e = .returned (.bool (!b)) ∧ Below w.heap.size w w' := by
  have hBs : B < w.heap.size := cell_in hc
  have HC : Hid (∀ W, Below w.heap.size w W → Calls Tryd.prog g (#[.agg #[.string n, .string u]] ++ lb) W fun e w' => e = .returned (.bool b) ∧ Below W.heap.size W w') := hcall
  clear hcall
  go_enter Tryd.func53, Tryd.ntmps53
  go_wp2_with (go_at_fn g; refine (HC.out _ ((Below.refl _ w).alloc (Nat.le_refl _) _)).mono ?_; rintro e w1 ⟨rfl, hb⟩)
  go_ret
  exact ⟨rfl, ((Below.refl _ w).alloc (Nat.le_refl _) _).trans (hb.mono (by simp))⟩

set_option maxHeartbeats 1000000 in
set_option maxRecDepth 100000 in
theorem but_any (f : Value) (p : Fld → Bool) (w : World) (hp : Pred w f p) :
    Calls Tryd.prog 32 #[f] w fun e w' => ∃ f', e = .returned f' ∧ Pred w' f' (fun x => !p x) ∧ Below w.heap.size w w' := by
  have hmf : ∀ (fn : Fn) (first cap : Array Value) (w : World), (Instr.makeFunc fn first cap).run Tryd.prog w = .ok (.func fn first cap) w := fun _ _ _ _ => rfl
  have HP : Hid (Pred w f p) := hp
  obtain ⟨g, lb, hf, eg, _⟩ := hp
  subst hf
  go_enter Tryd.func32, Tryd.ntmps32
  go_wp2_with fail
  go_ret
  refine ⟨_, rfl, ⟨53, _, rfl, enters_of Tryd.func53 (by kernel_rfl) rfl, fun W n u hW hn => ?_⟩, (Below.refl _ w).alloc (Nat.le_refl _) _⟩
  obtain ⟨g', lb', hf', eg', hc'⟩ := HP.out
  simp only [Value.func.injEq, Fn.func.injEq] at hf'
  obtain ⟨rfl, _, rfl⟩ := hf'
  have hWw : Below w.heap.size w W := ((Below.refl _ w).alloc (Nat.le_refl _) _).trans (hW.mono (by simp))
  refine but1_any n u w.heap.size g lb _ W ?_ eg fun W' hW' => hc' W' n u (hWw.trans (hW'.mono hWw.size)) hn
  exact (hW.cell (p := ⟨w.heap.size, 0, none⟩) (by simp)).trans (by simp)
end Go.Proofs.YteifheoomodplaaDoor

/-
  What slices.IndexFunc and Set of package field compute; lists and texts are no longer than Go allows.
-/
namespace Go.Proofs.YteifheoomodplaaDoor
open Go.RowKit

theorem elemF : Tryd.prog.elem 22 = 39 := by kernel_rfl
theorem slice_high (ad : Option Addr) (n cap k : Nat) (hk : k ≤ cap) (u : World) :
    (Instr.slice 22 (.slice ad n cap) none (some (.int .i64 (k : Int))) none).run Tryd.prog u = .ok (.slice ad k cap) u := by
  rw [run_slice_h u 22 ad n cap (by rw [elemF]; exact Tryd.underlying22) .i64 (k : Int) (by omega) (by omega), elemF, Tryd.sizeOf39]
  simp [Result.andThen, sliced]
  intro _
  cases ad <;> simp [Addr.add]
theorem slice_low (ad : Option Addr) (n cap k : Nat) (hk : k ≤ n) (u : World) :
    (Instr.slice 22 (.slice ad n cap) (some (.int .i64 (k : Int))) none none).run Tryd.prog u = .ok (.slice (if cap = k then ad else ad.map (·.add (k * 2))) (n - k) (cap - k)) u := by
  rw [run_slice_l u 22 ad n cap (by rw [elemF]; exact Tryd.underlying22) .i64 (k : Int) (by omega) (by omega), elemF, Tryd.sizeOf39]
  simp [Result.andThen, sliced]
theorem Fl.take {w : World} {ad : Option Addr} {cap : Nat} {ls : List Fld} (h : Fl w (.slice ad ls.length cap) ls) (k : Nat) (hk : k ≤ ls.length) : Fl w (.slice ad k cap) (ls.take k) := by
  obtain ⟨ad', cap', hv, h1, h2, h3⟩ := h
  simp only [Value.slice.injEq] at hv
  obtain ⟨rfl, _, rfl⟩ := hv
  have hl : (ls.take k).length = k := by rw [List.length_take]; omega
  refine ⟨ad, cap, by rw [hl], by rw [hl]; omega, h2, fun h0 => ?_⟩
  rw [hl] at h0
  obtain ⟨g, off, ha, hg, hc⟩ := h3 (by omega)
  refine ⟨g, off, ha, hg, fun j hj => ?_⟩
  rw [hl] at hj
  rw [List.getElem_take]
  exact hc j (by omega)
theorem Fl.drop {w : World} {ad : Option Addr} {cap : Nat} {ls : List Fld} (h : Fl w (.slice ad ls.length cap) ls) (k : Nat) (hk : k ≤ ls.length) : Fl w (.slice (if cap = k then ad else ad.map (·.add (k * 2))) (ls.length - k) (cap - k)) (ls.drop k) := by
  obtain ⟨ad', cap', hv, h1, h2, h3⟩ := h
  simp only [Value.slice.injEq] at hv
  obtain ⟨rfl, _, rfl⟩ := hv
  have hl : (ls.drop k).length = ls.length - k := List.length_drop
  refine ⟨_, cap - k, by rw [hl], by rw [hl]; omega, by unfold maxLen at *; omega, fun h0 => ?_⟩
  rw [hl] at h0
  obtain ⟨g, off, ha, hg, hc⟩ := h3 (by omega)
  subst ha
  rw [if_neg (by omega)]
  refine ⟨g, off + k * 2, ?_, hg, fun j hj => ?_⟩
  · by_cases hk0 : k = 0
    · subst hk0; simp [Addr.add]
    · simp [Addr.add]; omega
  · rw [hl] at hj
    rw [List.getElem_drop]
    have := hc (k + j) (by omega)
    rw [show off + k * 2 + j * 2 = off + (k + j) * 2 from by omega]
    exact this
set_option maxHeartbeats 2000000 in
set_option maxRecDepth 100000 in
theorem idx_any (v f : Value) (ls : List Fld) (p : Fld → Bool) (r : Int) (hr : (r = -1 ∧ ∀ x ∈ ls, p x = false) ∨ ∃ (k : Nat) (h : k < ls.length), r = k ∧ p ls[k] = true ∧ ∀ x ∈ ls.take k, p x = false) (w : World) (hf : Fl w v ls) (hl : Wide ls) (hp : Pred w f p) :
    Calls Tryd.prog 30 #[v, f] w fun e w' => e = .returned (.int .i64 r) ∧ Below w.heap.size w w' := by
  obtain ⟨ad, cap, hv, hcap, hcm, hc⟩ := hf
  obtain ⟨g0, lb, hfv, eg, hpc⟩ := hp
  subst hv hfv
  have HC : Hid (0 < ls.length → ∃ g off, ad = some ⟨g, off, none⟩ ∧ g < w.heap.size ∧
    ∀ (k : Nat) (h : k < ls.length), w.cell? ⟨g, off + k * 2, none⟩ = some (.string ⟨(ls[k]).1.toArray⟩) ∧ w.cell? ⟨g, off + k * 2 + 1, none⟩ = some (.string ⟨(ls[k]).2.toArray⟩)) := hc
  have HPC : Hid (∀ (W : World) (n u : ByteArray), Below w.heap.size w W → n.size ≤ 140737488351232 → Calls Tryd.prog g0 (#[.agg #[.string n, .string u]] ++ lb) W fun e w' => e = .returned (.bool (p (n.data.toList, u.data.toList))) ∧ Below W.heap.size W w') := hpc
  have HL : Hid (Wide ls) := hl
  have hll := hl.2
  have HR : Hid ((r = -1 ∧ ∀ x ∈ ls, p x = false) ∨ ∃ (k : Nat) (h : k < ls.length), r = k ∧ p ls[k] = true ∧ ∀ x ∈ ls.take k, p x = false) := hr
  clear hc hpc hl hr
  unfold maxLen at hcm
  go_enter Tryd.func30, Tryd.ntmps30
  go_wp2_with fail
  go_loopw [8] (fun i wr => ∃ k : Nat, k ≤ ls.length ∧ i = .int .i64 k ∧ (∀ x ∈ ls.take k, p x = false) ∧ Below w.heap.size w wr) (fun i _ => ls.length - (intOf i).toNat)
  case atStart => exact ⟨0, Nat.zero_le _, rfl, fun x hx => by simp at hx, Below.refl _ _⟩
  case round =>
    obtain ⟨k, hk, rfl, hno, hw⟩ := hrel
    have hsz := hw.size
    have HNO : Hid (∀ x ∈ ls.take k, p x = false) := hno
    clear hno
    by_cases hlt : k < ls.length
    · obtain ⟨g, off, rfl, hgs, hce⟩ := HC.out (by omega)
      obtain ⟨c1, c2⟩ := hce k hlt
      have hmo := HL.out.1 ls[k] (List.getElem_mem hlt)
      obtain ⟨n, hn⟩ : ∃ n : ByteArray, n = ⟨(ls[k]).1.toArray⟩ := ⟨_, rfl⟩
      obtain ⟨u, hu⟩ : ∃ u : ByteArray, u = ⟨(ls[k]).2.toArray⟩ := ⟨_, rfl⟩
      have hns : n.size ≤ 140737488351232 := by rw [← size_list, hn]; exact hmo.1
      have HE : Hid ((n.data.toList, u.data.toList) = ls[k]) := by show _ = _; rw [hn, hu]
      have d1 : wr.cell? ⟨g, off + k * 2, none⟩ = some (.string n) := by rw [hw.cell (p := ⟨g, off + k * 2, none⟩) hgs, hn]; exact c1
      have d2 : wr.cell? ⟨g, off + k * 2 + 1, none⟩ = some (.string u) := by rw [hw.cell (p := ⟨g, off + k * 2 + 1, none⟩) hgs, hu]; exact c2
      have hgr : g < wr.heap.size := by omega
      clear hce c1 c2 hmo hn hu
      have hki : (k : Int) < (ls.length : Int) := by omega
      have hk0 : (0 : Int) ≤ (k : Int) := by omega
      cases hq : p (n.data.toList, u.data.toList)
      · have HQ : Hid (p (n.data.toList, u.data.toList) = false) := hq
        have HNX : Hid (∀ x ∈ ls.take (k + 1), p x = false) := by
          intro x hx
          rw [List.take_succ_eq_append_getElem hlt] at hx
          rcases List.mem_append.1 hx with hx | hx
          · exact HNO.out x hx
          · rw [List.mem_singleton.1 hx, ← HE.out]; exact HQ.out
        clear hq
        go_wp2_with (go_at_fn g0; refine (HPC.out _ n u hw hns).mono ?_; rintro e w2 ⟨rfl, hb2⟩; rw [HQ.out])
        go_roundw
        case rel => exact ⟨k + 1, by omega, by go_num, HNX.out, hw.trans (hb2.mono hw.size)⟩
        case measure => simp [intOf]; omega
      · have HQ : Hid (p (n.data.toList, u.data.toList) = true) := hq
        have HRK : Hid (r = (k : Int)) := by
          show _ = _
          rcases HR.out with ⟨_, hall⟩ | ⟨k', hk', hrk, hp', hno'⟩
          · have := hall ls[k] (List.getElem_mem hlt)
            rw [← HE.out, hq] at this; cases this
          · have h1 : ¬ k' < k := by
              intro h
              have hm : ls[k'] ∈ ls.take k := by
                rw [List.mem_take_iff_getElem]
                exact ⟨k', by omega, rfl⟩
              have := HNO.out _ hm
              rw [hp'] at this; cases this
            have h2 : ¬ k < k' := by
              intro h
              have hm : ls[k] ∈ ls.take k' := by
                rw [List.mem_take_iff_getElem]
                exact ⟨k, by omega, rfl⟩
              have := hno' _ hm
              rw [← HE.out, hq] at this; cases this
            rw [hrk]
            have : k' = k := by omega
            rw [this]
        clear hq
        go_wp2_with (go_at_fn g0; refine (HPC.out _ n u hw hns).mono ?_; rintro e w2 ⟨rfl, hb2⟩; rw [HQ.out])
        go_ret
        exact ⟨ret_int HRK.out.symm, hw.trans (hb2.mono hw.size)⟩
    · have HRK : Hid (r = -1) := by
        show _ = _
        rcases HR.out with ⟨h, _⟩ | ⟨k', hk', hrk, hp', _⟩
        · exact h
        · have hm : ls[k'] ∈ ls.take k := by
            rw [List.mem_take_iff_getElem]
            exact ⟨k', by omega, rfl⟩
          have := HNO.out _ hm
          rw [hp'] at this; cases this
      go_wp2_with fail
      go_ret
      exact ⟨ret_int HRK.out.symm, hw⟩
end Go.Proofs.YteifheoomodplaaDoor

/-
  What Set of package field computes; lists and texts are no longer than Go allows.
-/
namespace Go.Proofs.YteifheoomodplaaDoor
open Go.RowKit

theorem place (s : List UInt8) (ls : List Fld) : (∀ x ∈ ls, nm s x = false) ∨ ∃ (k : Nat) (h : k < ls.length), nm s ls[k] = true ∧ ∀ x ∈ ls.take k, nm s x = false := by
  induction ls with
  | nil => exact .inl fun x hx => by cases hx
  | cons a r ih =>
    cases ha : nm s a
    · rcases ih with h | ⟨k, hk, h1, h2⟩
      · exact .inl fun x hx => by
          rcases List.mem_cons.1 hx with rfl | hx
          · exact ha
          · exact h x hx
      · refine .inr ⟨k + 1, by simp; omega, by simpa using h1, fun x hx => ?_⟩
        rw [List.take_succ_cons] at hx
        rcases List.mem_cons.1 hx with rfl | hx
        · exact ha
        · exact h2 x hx
    · exact .inr ⟨0, by simp, by simpa using ha, fun x hx => by simp at hx⟩

set_option maxHeartbeats 4000000 in
set_option maxRecDepth 100000 in
theorem set_any (v : Value) (ls : List Fld) (s u : ByteArray) (w : World) (hf : Fl w v ls) (hl : Wide ls) (hs : s.size ≤ 140737488351232) (hu : u.size ≤ 140737488351232) :
    Calls Tryd.prog 13 #[v, .string s, .string u] w fun e w' => ∃ v', e = .returned v' ∧ w'.ownsRow w.heap.size 39 2 v' (setS s.data.toList u.data.toList ls).length (flds (setS s.data.toList u.data.toList ls)) ∧ Below w.heap.size w w' := by
  obtain ⟨i0, hi, hz0, hz1, hz2⟩ := info_parts infoF
  obtain ⟨ad, cap, hv, hcap, hcm, hcx⟩ := id hf
  clear hcx
  subst hv
  have HF : Hid (Fl w (.slice ad ls.length cap) ls) := hf
  have HL : Hid (Wide ls) := hl
  have hll := hl.2
  clear hf hl
  unfold maxLen at hcm
  rcases place s.data.toList ls with hnone | ⟨k, hkk, h1, h2⟩
  · have HI : Hid (∀ x ∈ ls, nm s.data.toList x = false) := hnone
    clear hnone
    have hk : ls.length ≤ ls.length := by omega
    have HSET : Hid (setS s.data.toList u.data.toList ls = rest1 s.data.toList (ls.take ls.length) ++ [(s.data.toList, u.data.toList)] ++ rest1 s.data.toList (ls.drop ls.length)) := setS_parts _ _ ls ls.length hk (by rw [List.take_length]; exact HI.out) (fun h => absurd h (Nat.lt_irrefl _))
    have hl1 : (rest1 s.data.toList (ls.take ls.length)).length ≤ ls.length := by
      have h1 := List.length_filter_le (fun x => !nm s.data.toList x) (ls.take ls.length)
      have h2 := List.length_take_le ls.length ls
      unfold rest1; omega
    have hl2 : (rest1 s.data.toList (ls.drop ls.length)).length ≤ ls.length - ls.length := by
      have h1 := List.length_filter_le (fun x => !nm s.data.toList x) (ls.drop ls.length)
      rw [List.length_drop] at h1
      unfold rest1; exact h1
    obtain ⟨A, hA⟩ : ∃ A, A = rest1 s.data.toList (ls.take ls.length) := ⟨_, rfl⟩
    obtain ⟨B, hB⟩ : ∃ B, B = rest1 s.data.toList (ls.drop ls.length) := ⟨_, rfl⟩
    rw [← hA] at hl1
    rw [← hB] at hl2
    have HAA : Hid (rest1 s.data.toList (ls.take ls.length) = A) := hA.symm
    have HBB : Hid (rest1 s.data.toList (ls.drop ls.length) = B) := hB.symm
    have hsh : ∀ W : World, (Instr.slice 22 (.slice ad ls.length cap) none (some (.int .i64 (ls.length : Int))) none).run Tryd.prog W = .ok (.slice ad ls.length cap) W := fun W => slice_high ad ls.length cap ls.length (by omega) W
    obtain ⟨ad2, had2⟩ : ∃ ad2, ad2 = if cap = ls.length then ad else ad.map (·.add (ls.length * 2)) := ⟨_, rfl⟩
    obtain ⟨m2, hm2⟩ : ∃ m2, m2 = ls.length - ls.length := ⟨_, rfl⟩
    obtain ⟨c2, hc2⟩ : ∃ c2, c2 = cap - ls.length := ⟨_, rfl⟩
    have hsl : ∀ W : World, (Instr.slice 22 (.slice ad ls.length cap) (some (.int .i64 (ls.length : Int))) none none).run Tryd.prog W = .ok (.slice ad2 m2 c2) W := fun W => by rw [had2, hm2, hc2]; exact slice_low ad ls.length cap ls.length hk W
    have HD2 : Hid ((.slice (if cap = ls.length then ad else ad.map (·.add (ls.length * 2))) (ls.length - ls.length) (cap - ls.length) : Value) = .slice ad2 m2 c2) := by show _ = _; rw [had2, hm2, hc2]
    clear hA hB had2 hm2 hc2
    have hkc : (ls.length : Int) ≤ (cap : Int) := by omega
    have hkl : (ls.length : Int) ≤ (ls.length : Int) := by omega
    go_enter Tryd.func13, Tryd.ntmps13
    go_wp2_with fail
    refine (named_any s _ hs).mono ?_
    rintro e w1 ⟨f1, rfl, hp1, hb1⟩
    have HP1 : Hid (Pred w1 f1 (fun x => lower x.1 == lower s.data.toList)) := hp1
    clear hp1
    go_wp2_with fail
    refine (idx_any _ _ ls _ (-1) (.inl ⟨rfl, HI.out⟩) _ (HF.out.below hb1) HL.out HP1.out).mono ?_
    rintro e w2 ⟨rfl, hb2⟩
    have hw2 := hb1.trans (hb2.mono hb1.size)
    clear hb1 hb2 HP1
    go_wp2_with fail
    refine (named_any s _ hs).mono ?_
    rintro e w3 ⟨f3, rfl, hp3, hb3⟩
    have HP3 : Hid (Pred w3 f3 (fun x => lower x.1 == lower s.data.toList)) := hp3
    have hw3 := hw2.trans (hb3.mono hw2.size)
    clear hp3 hb3 hw2
    go_wp2_with fail
    refine (but_any f3 _ _ HP3.out).mono ?_
    rintro e w4 ⟨f4, rfl, hp4, hb4⟩
    have HP4 : Hid (Pred w4 f4 (fun x => !(lower x.1 == lower s.data.toList))) := hp4
    have hw4 := hw3.trans (hb4.mono hw3.size)
    have hsz4 := hw4.size
    have HF4 : Hid (Fl w4 (.slice ad ls.length cap) ls) := HF.out.below hw4
    clear hp4 hb4 HP3 hw3
    go_wp2_with fail
    refine (pick_any _ _ (ls.take ls.length) _ _ (HF4.out.take ls.length hk) (HL.out.take ls.length) HP4.out).mono ?_
    rintro e w5 ⟨v5, rfl, hown5, hb5⟩
    have hown5' : w5.ownsRow w4.heap.size 39 2 v5 A.length (flds A) := by rw [← HAA.out]; exact hown5
    have hsz5 := hb5.size
    clear hown5
    go_wp2_with fail
    refine (fclone_any s u _ (by omega) (by omega)).mono ?_
    rintro e w6 ⟨rfl, hb6⟩
    have hown6 := own_below3 hown5' hb6
    have hb46 := hb5.trans (hb6.mono hsz5)
    have hsz6 := hb46.size
    clear hown5' hb5 hb6 hsz5
    go_wp2_with (at_builtin; refine wpList_append_own _ rfl _ _ 22 rfl w4.heap.size 39 i0 (.agg #[.string ⟨#[]⟩, .string ⟨#[]⟩]) 2 32 Tryd.underlying22 hi hz0 hz1 hz2 rfl (by decide) _ _ _ rfl (hown6.alloc _) ⟨w6.heap.size, 0, none⟩ 1 1 [.string s, .string u] rfl rfl ?c1 ?c2 ?c3 ?c4 ?c5 ?_)
    case c1 =>
      intro j z h
      match j, h with
      | 0, h => simp at h; subst h; simp [Addr.add]
      | 1, h => simp at h; subst h; simp [Addr.add]
    case c2 => intro z hx; simp at hx; rcases hx with rfl | rfl <;> rfl
    case c3 => unfold maxLen; omega
    case c4 => omega
    case c5 => simp; omega
    · intro v7 w7 hown7' hgrow _
      have hb47 : Below w4.heap.size w4 w7 := (hb46.alloc hsz6 _).grown hgrow (by simp; omega) (fun b hb => ((hown6.alloc (.cells #[.string s, .string u] 39)).lt b hb).1)
      have hown7 : w7.ownsRow w4.heap.size 39 2 v7 (A ++ [(s.data.toList, u.data.toList)]).length (flds (A ++ [(s.data.toList, u.data.toList)])) := by
        rw [← flds_snoc, List.length_append]; exact hown7'
      have hsz7 := hb47.size
      have HP7 : Hid (Pred w7 f4 (fun x => !(lower x.1 == lower s.data.toList))) := HP4.out.later hb47
      have HF7 : Hid (Fl w7 (.slice ad2 m2 c2) (ls.drop ls.length)) := by
        have := (HF4.out.below hb47).drop ls.length hk
        rw [HD2.out] at this
        exact this
      clear hown7' hgrow hown6 hb46 hsz6
      go_wp2_with fail
      refine (pick_any _ _ (ls.drop ls.length) _ _ HF7.out (HL.out.drop ls.length) HP7.out).mono ?_
      rintro e w8 ⟨v8, rfl, hown8, hb8⟩
      have hown8' : w8.ownsRow w7.heap.size 39 2 v8 B.length (flds B) := by rw [← HBB.out]; exact hown8
      have hown78 := own_below3 hown7 hb8
      have hb48 := hb47.trans (hb8.mono hsz7)
      have hsz8 := hb48.size
      have hw8 := hw4.trans (hb48.mono hsz4)
      have hlA : (A ++ [(s.data.toList, u.data.toList)]).length = A.length + 1 := by simp
      have HLA : Hid ((A ++ [(s.data.toList, u.data.toList)]).length = A.length + 1) := hlA
      clear hown8 hown7 hb8 hb47 hlA
      by_cases hB0 : B.length = 0
      · have hBn := List.eq_nil_of_length_eq_zero hB0
        have HBN : Hid (B = []) := hBn
        rcases id hown8'.2 with ⟨hvn, _⟩ | ⟨g, cp, cur, hvb, hgB, hgh, hgn, hgc, _, _⟩
        · subst hvn
          clear hown8' hBn hB0
          go_wp2_with (at_builtin; refine wpList_append_own_none rfl _ _ 22 rfl w4.heap.size 39 i0 2 Tryd.underlying22 hi _ _ _ rfl hown78 rfl ?_)
          go_ret
          refine ⟨_, rfl, ?_, hw8⟩
          rw [HSET.out, HAA.out, HBB.out, HBN.out, List.append_nil]
          exact own_le hown78 hsz4
        · subst hvb
          subst hBn
          clear hgh hB0
          go_wp2_with (at_builtin; refine wpList_append_own _ rfl _ _ 22 rfl w4.heap.size 39 i0 (.agg #[.string ⟨#[]⟩, .string ⟨#[]⟩]) 2 32 Tryd.underlying22 hi hz0 hz1 hz2 rfl (by decide) _ _ _ rfl hown78 ⟨g, 0, none⟩ 0 cp [] rfl rfl (fun j z h => by simp at h) (fun z hz => by cases hz) ?c3 ?c4 ?c5 ?_)
          case c3 => rw [HLA.out]; unfold maxLen; omega
          case c4 => rw [HLA.out]; omega
          case c5 => omega
          · intro v9 w9 hown9 hgrow9 _
            have hw9 : Below w.heap.size w w9 := hw8.grown hgrow9 (by omega) (fun b hb => Nat.le_trans hsz4 (hown78.lt b hb).1)
            have HO : Hid (w9.ownsRow w.heap.size 39 2 v9 (setS s.data.toList u.data.toList ls).length (flds (setS s.data.toList u.data.toList ls))) := by
              show World.ownsRow _ _ _ _ _ _ _
              rw [HSET.out, HAA.out, HBB.out, List.append_nil, HLA.out]
              have e := own_le hown9 hsz4
              exact e
            clear hown9 hgrow9 hown78 hown8'
            go_wp2_with fail
            go_ret
            exact ⟨_, rfl, HO.out, hw9⟩
      · rcases id hown8'.2 with ⟨hvn, hn0⟩ | ⟨g, cp, cur, hvb, hgB, hgh, hgn, hgc, _, _⟩
        · exact absurd hn0 hB0
        · subst hvb
          clear hgh
          go_wp2_with (at_builtin; refine wpList_append_own _ rfl _ _ 22 rfl w4.heap.size 39 i0 (.agg #[.string ⟨#[]⟩, .string ⟨#[]⟩]) 2 32 Tryd.underlying22 hi hz0 hz1 hz2 rfl (by decide) _ _ _ rfl hown78 ⟨g, 0, none⟩ B.length cp (flds B) rfl (flds_length B) ?c1 ?c2 ?c3 ?c4 ?c5 ?_)
          case c1 => exact hown8'.cells rfl
          case c2 => exact flds_one B
          case c3 => rw [HLA.out]; unfold maxLen; omega
          case c4 => rw [HLA.out]; omega
          case c5 => omega
          · intro v9 w9 hown9 hgrow9 _
            have hw9 : Below w.heap.size w w9 := hw8.grown hgrow9 (by omega) (fun b hb => Nat.le_trans hsz4 (hown78.lt b hb).1)
            have HO : Hid (w9.ownsRow w.heap.size 39 2 v9 (setS s.data.toList u.data.toList ls).length (flds (setS s.data.toList u.data.toList ls))) := by
              show World.ownsRow _ _ _ _ _ _ _
              rw [HSET.out, HAA.out, HBB.out, flds_app, List.length_append, HLA.out]
              exact own_le hown9 hsz4
            clear hown9 hgrow9 hown78 hown8'
            go_wp2_with fail
            go_ret
            exact ⟨_, rfl, HO.out, hw9⟩
  · have HI : Hid (∃ h : k < ls.length, nm s.data.toList ls[k] = true ∧ ∀ x ∈ ls.take k, nm s.data.toList x = false) := ⟨hkk, h1, h2⟩
    clear h1 h2
    have hkn : decide ((k : Int) < 0) = false := decide_eq_false (by omega)
    have hk : k ≤ ls.length := by omega
    have HSET : Hid (setS s.data.toList u.data.toList ls = rest1 s.data.toList (ls.take k) ++ [(s.data.toList, u.data.toList)] ++ rest1 s.data.toList (ls.drop k)) := setS_parts _ _ ls k hk (HI.out).choose_spec.2 (fun h => ⟨ls[k], ls.drop (k + 1), List.drop_eq_getElem_cons h, (HI.out).choose_spec.1⟩)
    have hl1 : (rest1 s.data.toList (ls.take k)).length ≤ k := by
      have h1 := List.length_filter_le (fun x => !nm s.data.toList x) (ls.take k)
      have h2 := List.length_take_le k ls
      unfold rest1; omega
    have hl2 : (rest1 s.data.toList (ls.drop k)).length ≤ ls.length - k := by
      have h1 := List.length_filter_le (fun x => !nm s.data.toList x) (ls.drop k)
      rw [List.length_drop] at h1
      unfold rest1; exact h1
    obtain ⟨A, hA⟩ : ∃ A, A = rest1 s.data.toList (ls.take k) := ⟨_, rfl⟩
    obtain ⟨B, hB⟩ : ∃ B, B = rest1 s.data.toList (ls.drop k) := ⟨_, rfl⟩
    rw [← hA] at hl1
    rw [← hB] at hl2
    have HAA : Hid (rest1 s.data.toList (ls.take k) = A) := hA.symm
    have HBB : Hid (rest1 s.data.toList (ls.drop k) = B) := hB.symm
    have hsh : ∀ W : World, (Instr.slice 22 (.slice ad ls.length cap) none (some (.int .i64 (k : Int))) none).run Tryd.prog W = .ok (.slice ad k cap) W := fun W => slice_high ad ls.length cap k (by omega) W
    obtain ⟨ad2, had2⟩ : ∃ ad2, ad2 = if cap = k then ad else ad.map (·.add (k * 2)) := ⟨_, rfl⟩
    obtain ⟨m2, hm2⟩ : ∃ m2, m2 = ls.length - k := ⟨_, rfl⟩
    obtain ⟨c2, hc2⟩ : ∃ c2, c2 = cap - k := ⟨_, rfl⟩
    have hsl : ∀ W : World, (Instr.slice 22 (.slice ad ls.length cap) (some (.int .i64 (k : Int))) none none).run Tryd.prog W = .ok (.slice ad2 m2 c2) W := fun W => by rw [had2, hm2, hc2]; exact slice_low ad ls.length cap k hk W
    have HD2 : Hid ((.slice (if cap = k then ad else ad.map (·.add (k * 2))) (ls.length - k) (cap - k) : Value) = .slice ad2 m2 c2) := by show _ = _; rw [had2, hm2, hc2]
    clear hA hB had2 hm2 hc2
    have hkc : (k : Int) ≤ (cap : Int) := by omega
    have hkl : (k : Int) ≤ (ls.length : Int) := by omega
    go_enter Tryd.func13, Tryd.ntmps13
    go_wp2_with fail
    refine (named_any s _ hs).mono ?_
    rintro e w1 ⟨f1, rfl, hp1, hb1⟩
    have HP1 : Hid (Pred w1 f1 (fun x => lower x.1 == lower s.data.toList)) := hp1
    clear hp1
    go_wp2_with fail
    refine (idx_any _ _ ls _ (k : Int) (.inr ⟨k, (HI.out).choose, rfl, (HI.out).choose_spec.1, (HI.out).choose_spec.2⟩) _ (HF.out.below hb1) HL.out HP1.out).mono ?_
    rintro e w2 ⟨rfl, hb2⟩
    have hw2 := hb1.trans (hb2.mono hb1.size)
    clear hb1 hb2 HP1
    go_wp2_with fail
    refine (named_any s _ hs).mono ?_
    rintro e w3 ⟨f3, rfl, hp3, hb3⟩
    have HP3 : Hid (Pred w3 f3 (fun x => lower x.1 == lower s.data.toList)) := hp3
    have hw3 := hw2.trans (hb3.mono hw2.size)
    clear hp3 hb3 hw2
    go_wp2_with fail
    refine (but_any f3 _ _ HP3.out).mono ?_
    rintro e w4 ⟨f4, rfl, hp4, hb4⟩
    have HP4 : Hid (Pred w4 f4 (fun x => !(lower x.1 == lower s.data.toList))) := hp4
    have hw4 := hw3.trans (hb4.mono hw3.size)
    have hsz4 := hw4.size
    have HF4 : Hid (Fl w4 (.slice ad ls.length cap) ls) := HF.out.below hw4
    clear hp4 hb4 HP3 hw3
    go_wp2_with fail
    refine (pick_any _ _ (ls.take k) _ _ (HF4.out.take k hk) (HL.out.take k) HP4.out).mono ?_
    rintro e w5 ⟨v5, rfl, hown5, hb5⟩
    have hown5' : w5.ownsRow w4.heap.size 39 2 v5 A.length (flds A) := by rw [← HAA.out]; exact hown5
    have hsz5 := hb5.size
    clear hown5
    go_wp2_with fail
    refine (fclone_any s u _ (by omega) (by omega)).mono ?_
    rintro e w6 ⟨rfl, hb6⟩
    have hown6 := own_below3 hown5' hb6
    have hb46 := hb5.trans (hb6.mono hsz5)
    have hsz6 := hb46.size
    clear hown5' hb5 hb6 hsz5
    go_wp2_with (at_builtin; refine wpList_append_own _ rfl _ _ 22 rfl w4.heap.size 39 i0 (.agg #[.string ⟨#[]⟩, .string ⟨#[]⟩]) 2 32 Tryd.underlying22 hi hz0 hz1 hz2 rfl (by decide) _ _ _ rfl (hown6.alloc _) ⟨w6.heap.size, 0, none⟩ 1 1 [.string s, .string u] rfl rfl ?c1 ?c2 ?c3 ?c4 ?c5 ?_)
    case c1 =>
      intro j z h
      match j, h with
      | 0, h => simp at h; subst h; simp [Addr.add]
      | 1, h => simp at h; subst h; simp [Addr.add]
    case c2 => intro z hx; simp at hx; rcases hx with rfl | rfl <;> rfl
    case c3 => unfold maxLen; omega
    case c4 => omega
    case c5 => simp; omega
    · intro v7 w7 hown7' hgrow _
      have hb47 : Below w4.heap.size w4 w7 := (hb46.alloc hsz6 _).grown hgrow (by simp; omega) (fun b hb => ((hown6.alloc (.cells #[.string s, .string u] 39)).lt b hb).1)
      have hown7 : w7.ownsRow w4.heap.size 39 2 v7 (A ++ [(s.data.toList, u.data.toList)]).length (flds (A ++ [(s.data.toList, u.data.toList)])) := by
        rw [← flds_snoc, List.length_append]; exact hown7'
      have hsz7 := hb47.size
      have HP7 : Hid (Pred w7 f4 (fun x => !(lower x.1 == lower s.data.toList))) := HP4.out.later hb47
      have HF7 : Hid (Fl w7 (.slice ad2 m2 c2) (ls.drop k)) := by
        have := (HF4.out.below hb47).drop k hk
        rw [HD2.out] at this
        exact this
      clear hown7' hgrow hown6 hb46 hsz6
      go_wp2_with fail
      refine (pick_any _ _ (ls.drop k) _ _ HF7.out (HL.out.drop k) HP7.out).mono ?_
      rintro e w8 ⟨v8, rfl, hown8, hb8⟩
      have hown8' : w8.ownsRow w7.heap.size 39 2 v8 B.length (flds B) := by rw [← HBB.out]; exact hown8
      have hown78 := own_below3 hown7 hb8
      have hb48 := hb47.trans (hb8.mono hsz7)
      have hsz8 := hb48.size
      have hw8 := hw4.trans (hb48.mono hsz4)
      have hlA : (A ++ [(s.data.toList, u.data.toList)]).length = A.length + 1 := by simp
      have HLA : Hid ((A ++ [(s.data.toList, u.data.toList)]).length = A.length + 1) := hlA
      clear hown8 hown7 hb8 hb47 hlA
      by_cases hB0 : B.length = 0
      · have hBn := List.eq_nil_of_length_eq_zero hB0
        have HBN : Hid (B = []) := hBn
        rcases id hown8'.2 with ⟨hvn, _⟩ | ⟨g, cp, cur, hvb, hgB, hgh, hgn, hgc, _, _⟩
        · subst hvn
          clear hown8' hBn hB0
          go_wp2_with (at_builtin; refine wpList_append_own_none rfl _ _ 22 rfl w4.heap.size 39 i0 2 Tryd.underlying22 hi _ _ _ rfl hown78 rfl ?_)
          go_ret
          refine ⟨_, rfl, ?_, hw8⟩
          rw [HSET.out, HAA.out, HBB.out, HBN.out, List.append_nil]
          exact own_le hown78 hsz4
        · subst hvb
          subst hBn
          clear hgh hB0
          go_wp2_with (at_builtin; refine wpList_append_own _ rfl _ _ 22 rfl w4.heap.size 39 i0 (.agg #[.string ⟨#[]⟩, .string ⟨#[]⟩]) 2 32 Tryd.underlying22 hi hz0 hz1 hz2 rfl (by decide) _ _ _ rfl hown78 ⟨g, 0, none⟩ 0 cp [] rfl rfl (fun j z h => by simp at h) (fun z hz => by cases hz) ?c3 ?c4 ?c5 ?_)
          case c3 => rw [HLA.out]; unfold maxLen; omega
          case c4 => rw [HLA.out]; omega
          case c5 => omega
          · intro v9 w9 hown9 hgrow9 _
            have hw9 : Below w.heap.size w w9 := hw8.grown hgrow9 (by omega) (fun b hb => Nat.le_trans hsz4 (hown78.lt b hb).1)
            have HO : Hid (w9.ownsRow w.heap.size 39 2 v9 (setS s.data.toList u.data.toList ls).length (flds (setS s.data.toList u.data.toList ls))) := by
              show World.ownsRow _ _ _ _ _ _ _
              rw [HSET.out, HAA.out, HBB.out, List.append_nil, HLA.out]
              have e := own_le hown9 hsz4
              exact e
            clear hown9 hgrow9 hown78 hown8'
            go_wp2_with fail
            go_ret
            exact ⟨_, rfl, HO.out, hw9⟩
      · rcases id hown8'.2 with ⟨hvn, hn0⟩ | ⟨g, cp, cur, hvb, hgB, hgh, hgn, hgc, _, _⟩
        · exact absurd hn0 hB0
        · subst hvb
          clear hgh
          go_wp2_with (at_builtin; refine wpList_append_own _ rfl _ _ 22 rfl w4.heap.size 39 i0 (.agg #[.string ⟨#[]⟩, .string ⟨#[]⟩]) 2 32 Tryd.underlying22 hi hz0 hz1 hz2 rfl (by decide) _ _ _ rfl hown78 ⟨g, 0, none⟩ B.length cp (flds B) rfl (flds_length B) ?c1 ?c2 ?c3 ?c4 ?c5 ?_)
          case c1 => exact hown8'.cells rfl
          case c2 => exact flds_one B
          case c3 => rw [HLA.out]; unfold maxLen; omega
          case c4 => rw [HLA.out]; omega
          case c5 => omega
          · intro v9 w9 hown9 hgrow9 _
            have hw9 : Below w.heap.size w w9 := hw8.grown hgrow9 (by omega) (fun b hb => Nat.le_trans hsz4 (hown78.lt b hb).1)
            have HO : Hid (w9.ownsRow w.heap.size 39 2 v9 (setS s.data.toList u.data.toList ls).length (flds (setS s.data.toList u.data.toList ls))) := by
              show World.ownsRow _ _ _ _ _ _ _
              rw [HSET.out, HAA.out, HBB.out, flds_app, List.length_append, HLA.out]
              exact own_le hown9 hsz4
            clear hown9 hgrow9 hown78 hown8'
            go_wp2_with fail
            go_ret
            exact ⟨_, rfl, HO.out, hw9⟩
end Go.Proofs.YteifheoomodplaaDoor
