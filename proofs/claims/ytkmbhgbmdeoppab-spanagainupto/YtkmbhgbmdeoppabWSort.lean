/-
  What slices.Clone and slices.SortFunc do to a slice of slices of a body, by where each begins.
-/
import Derived.Test.YtkmbhgbmdeoppabSpecMd
import Derived.Test.YtkmbhgbmdeoppabSpecWl
import Derived.Test.YtkmbhgbmdeoppabSpecAl
import Derived.Test.YtkmbhgbmdeoppabWInfoSc
import Derived.Test.YtkmbhgbmdeoppabShelf
import Derived.Test.YtkmbhgbmdeoppabRows
import Derived.Shelf.SlSortCmp.NoneTotal
import Derived.Shelf.SlicesE.Clone
namespace Go.Proofs.Ytkmbhgbmdeoppab
open Go.RowKit Go.Shelf Go.Sort

def encW (x : Wn) : List Value := [.int .i64 x.1, .int .i64 x.2]
def cmpF (x y : Wn) : Int := Lib.compareInt x.1 y.1
theorem ltF (x y : Wn) : ltOf cmpF x y = decide (x.1 < y.1) := by
  unfold ltOf cmpF Lib.compareInt
  by_cases h1 : x.1 < y.1
  · simp [h1]
  · by_cases h2 : y.1 < x.1 <;> simp [h1, h2]
theorem swoF : SWO (ltOf cmpF) where
  irrefl x := by rw [ltF]; simp
  trans x y z h1 h2 := by rw [ltF] at *; simp at *; omega
  ntrans x y z h1 h2 := by rw [ltF] at *; simp at *; omega
set_option maxRecDepth 100000 in
theorem cmpF_at (x y : Wn) (w : World) : Calls Try.prog 18 #[.agg #[.int .i64 x.1, .int .i64 x.2], .agg #[.int .i64 y.1, .int .i64 y.2]] w fun e w' => e = .returned (.int .i64 (cmpF x y)) ∧ ∃ q os', w' = grow (w.drewN q) os' := by
  have hcon := fun W => Try.cmp_Compare_int x.1 y.1 W
  unfold cmpF
  generalize Lib.compareInt x.1 y.1 = r at hcon ⊢
  go_enter Try.func18, Try.ntmps18
  go_wp2_with fail
  refine (hcon _).mono ?_
  rintro e w1 ⟨rfl, rfl⟩
  go_wp2_with fail
  go_ret
  exact ⟨rfl, 0, _, by rw [alloc_eq_grow, alloc_eq_grow, grow_grow]; rfl⟩
/-- What lies below the row lies as it lay. -/
theorem sw_below (w : World) (g off n : Nat) (d : Array Wn) (os : Array Obj) (B : Nat) (hB : B ≤ g) (hs : B ≤ w.heap.size) : Below B w (sortWorldK encW 2 w g off n d os) := by
  refine ⟨rfl, rfl, rfl, ?_, fun k hk => ?_⟩
  · unfold sortWorldK putRowK; rw [size_grow, size_putRow]; simp
  · unfold sortWorldK putRowK
    rw [heap_grow_old _ _ (by rw [size_putRow]; simp; omega)]
    have hne : g ≠ k := by omega
    simp [putRow, mapBlock, Sort.ahead, Array.getElem?_modify, hne]
theorem wl_holds {w : World} {g : Nat} {ls : List Wn} {e : TypeId} {v : Value} {B : Nat} (hg : ∃ cap, v = .slice (some ⟨g, 0, none⟩) ls.length cap) (h : w.ownsRow B e 2 v ls.length (wns ls)) :
    HoldsK encW 2 w g 0 ls.toArray := by
  obtain ⟨cap, rfl⟩ := hg
  rcases h.2 with ⟨h1, _⟩ | ⟨g', cap', cur, hv, _, hc, hle, _, hsz, htk⟩
  · cases h1
  · cases hv
    intro j hj
    rw [size_flatK] at hj
    have hjl : j < ls.length * 2 := by simpa using hj
    have h2 : (wns ls)[j]? = some (flatK encW 2 ls.toArray)[j]! := by
      rw [get_flatK _ _ _ _ hj]
      have hk : j / 2 < ls.length := by omega
      obtain ⟨c0, c1⟩ := wns_get ls (j / 2) hk
      have e0 : ls.toArray[j / 2]! = ls[j / 2] := by simp [hk]
      rw [e0]
      rcases Nat.mod_two_eq_zero_or_one j with hm | hm
      · have : j = j / 2 * 2 := by omega
        rw [hm]; rw [← this] at c0; rw [c0]; rfl
      · have : j = j / 2 * 2 + 1 := by omega
        rw [hm]; rw [← this] at c1; rw [c1]; rfl
    have h3 : cur[j]? = some (flatK encW 2 ls.toArray)[j]! := by
      rw [← h2, ← htk, List.getElem?_take_of_lt hjl, Array.getElem?_toList]
    refine ⟨?_, ?_⟩
    · simp [World.cell?, hc, h3]
    · simp [World.frozen?, hc]
/-- Behind the sort: the same slices, by where each begins. -/
theorem sort_wl {w : World} {g : Nat} {ls : List Wn} {cap : Nat} (h : HoldsK encW 2 w g 0 ls.toArray) (hg : g < w.heap.size) (hcap : ls.length ≤ cap) (hcm : cap ≤ maxLen) {d' : Array Wn} (n : Nat) (os : Array Obj)
    (hp : PermIn 0 ls.toArray.size ls.toArray d') (hs : SortedIn (ltOf cmpF) 0 ls.toArray.size d') :
    ∃ r : List Wn, r.Perm ls ∧ (r.Pairwise fun a b => a.1 ≤ b.1) ∧ r.length = ls.length ∧ Wl (sortWorldK encW 2 w g 0 n d' os) (.slice (some ⟨g, 0, none⟩) ls.length cap) r := by
  obtain ⟨h1, _, h3⟩ := hp
  have hz : d'.size = ls.length := by simpa using h1
  have hl : d'.toList.length = ls.length := by simpa using hz
  refine ⟨d'.toList, ?_, ?_, hl, ?_⟩
  · have e1 : d'.extract 0 ls.toArray.size = d' := by rw [← h1]; simp
    have e2 : ls.toArray.extract 0 ls.toArray.size = ls.toArray := by simp
    rw [e1, e2] at h3
    simpa using h3
  · rw [List.pairwise_iff_getElem]
    intro i j hi hj hij
    have := hs i j (Nat.zero_le _) hij (by simp; omega)
    rw [ltF, getElem!_pos d' j (by omega), getElem!_pos d' i (by omega)] at this
    simp at this
    simpa using this
  · refine ⟨_, cap, by rw [hl], by omega, hcm, fun _ => ⟨g, 0, rfl, ?_, fun k hk => ?_⟩⟩
    · unfold sortWorldK putRowK; rw [size_grow, size_putRow]; simp; omega
    · have hH := holdsK_sortWorldK encW 2 w g 0 n ls.toArray d' os hg h (by simpa using hz)
      have hk' : k < d'.size := by simpa using hk
      have a0 := (hH.cell (i := k) (c := 0) hk' (by decide)).1
      have a1 := (hH.cell (i := k) (c := 1) hk' (by decide)).1
      rw [getElem!_pos d' k hk'] at a0 a1
      refine ⟨?_, ?_⟩
      · simpa [encW] using a0
      · simpa [encW] using a1
end Go.Proofs.Ytkmbhgbmdeoppab
