/-
  What slices.Clone and slices.SortFunc answer for a slice of slices of a body; a list is no longer than Go allows.
-/
import Derived.Test.YtkmbhgbmdeoppabWSort
import Derived.Test.YtkmbhgbmdeoppabWHas
import Derived.Deep.QuietTactic
import Derived.BigQuiet
namespace Go.Proofs.Ytkmbhgbmdeoppab
open Go.RowKit Go.Shelf

theorem own_put {w : World} {B g j n cap : Nat} {e : TypeId} {size : Nat} {xs : List Value} (h : w.ownsRow B e size (.slice (some ⟨g, 0, none⟩) n cap) n xs) (hj : j < n * size) (u : Value) :
    (w.setCell ⟨g, j, none⟩ u).ownsRow B e size (.slice (some ⟨g, 0, none⟩) n cap) n (xs.set j u) := by
  refine ⟨by rw [List.length_set]; exact h.1, ?_⟩
  rcases h.2 with ⟨h1, _⟩ | ⟨g', cap', cur, hv, hb, hc, h1, h2, h3, h4⟩
  · cases h1
  · cases hv
    refine .inr ⟨g, cap, cur.setIfInBounds j u, rfl, hb, heap_setCell_same w g j _ e u hc, h1, h2, by simp [h3], ?_⟩
    have : j < cur.size := by rw [h3]; exact Nat.lt_of_lt_of_le hj (Nat.mul_le_mul_right _ h1)
    rw [Array.toList_setIfInBounds, List.take_set, h4]
theorem own_free {w : World} {B g n n' cap : Nat} {e : TypeId} {size : Nat} {xs : List Value} (h : w.ownsRow B e size (.slice (some ⟨g, 0, none⟩) n cap) n' xs) (i : Nat) : w.frozen? ⟨g, i, none⟩ = false := by
  rcases h.2 with ⟨h1, _⟩ | ⟨g', cap', cur, hv, hb, hc, _⟩
  · cases h1
  · cases hv
    simp [World.frozen?, hc]
theorem own_drew {w : World} {B n : Nat} {e : TypeId} {size : Nat} {v : Value} {xs : List Value} (h : w.ownsRow B e size v n xs) : w.drew.ownsRow B e size v n xs := h
theorem wns_put (o : List Wn) (t : Wn) (q : Int) : (wns (o ++ [t])).set (o.length * 2 + 1) (.int .i64 q) = wns (o ++ [(t.1, q)]) := by
  rw [← wns_snoc, ← wns_snoc, List.set_append_right _ _ (by rw [wns_length]; omega), wns_length]
  rw [show o.length * 2 + 1 - o.length * 2 = 1 by omega]
  rfl
set_option maxHeartbeats 1000000 in
set_option maxRecDepth 100000 in
/-- A clone. -/
theorem sclone_at (v : Value) (ls : List Wn) (w : World) (hf : Wl w v ls) (hl : ls.length ≤ 8796093021952) :
    Calls Try.prog 16 #[v] w fun e w' => ∃ v', e = .returned v' ∧ Below w.heap.size w w' ∧
      ((ls.length = 0 ∧ ∃ ad cap, v' = .slice ad 0 cap) ∨ (0 < ls.length ∧ w'.ownsRow w.heap.size 28 2 v' ls.length (wns ls))) := by
  obtain ⟨i1, hi1, hy0, hy1, hy2⟩ := info_parts infoSc
  obtain ⟨ad, cap, rfl, hcap, hcm, hc⟩ := hf
  by_cases h0 : ls.length = 0
  · clear hc
    rw [h0] at hcap ⊢
    cases ad with
    | none =>
      refine (AnyE.slices_Clone_nil Try.laysClone_f16 0 cap w).mono ?_
      rintro e w1 ⟨rfl, rfl⟩
      exact ⟨_, rfl, Below.refl _ _, .inl ⟨rfl, _, _, rfl⟩⟩
    | some p =>
      unfold maxLen at hcm
      have q22 : ∀ (w : World) (a : Option Addr) (n c n' c' : Nat), (binOp .eql 23 (.slice a n c) (.slice none n' c')).run Try.prog w = .ok (.bool a.isNone) w := fun w a n c n' c' => Lib.run_eql_slice_nil w _ _ a n c n' c' Try.underlying23
      go_enter Try.func16, Try.ntmps16
      go_wp2_with (at_builtin; refine wpList_append_own _ rfl _ _ 23 rfl w.heap.size 28 i1 (.agg #[.int .i64 0, .int .i64 0]) 2 16 Try.underlying23 hi1 hy0 hy1 hy2 rfl (by decide) _ _ _ rfl (World.ownsRow_made w #[] 0 (Nat.le_refl _) (Nat.zero_le _) (by simp)) p 0 cap [] rfl rfl ?qc2 ?qc3 ?qc4 ?qc5 ?qc6 ?_)
      case qc2 => intro j u hj; simp at hj
      case qc3 => intro u hu; simp at hu
      case qc4 => unfold maxLen; omega
      case qc5 => simp
      case qc6 => simp
      · intro v' w5 hown' hgrow _
        obtain ⟨ad1, cp1, rfl, _, _⟩ := own_form2 hown'
        have hB : Below w.heap.size w w5 := ((Below.refl _ w).alloc (Nat.le_refl _) _).grown hgrow (by simp) (by intro k hk; simp [Value.ownBlock] at hk; omega)
        clear hown' hgrow
        go_wp2_with fail
        go_ret
        exact ⟨_, rfl, hB, .inl ⟨by trivial, _, _, rfl⟩⟩
  · obtain ⟨g, off, rfl, hg, hce⟩ := hc (by omega)
    have hcon := AnyE.slices_Clone Try.laysClone_f16 i1 (.agg #[.int .i64 0, .int .i64 0]) 2 16 hi1 hy0 hy1 hy2 rfl (by decide) Try.sizeOf28 g off ls.length cap (wns ls) w (wns_length ls) (by unfold maxLen at hcm ⊢; omega) (by omega)
      (fun j u hj => by
        have hjl : j < ls.length * 2 := by
          have := (List.getElem?_eq_some_iff.1 hj).1
          rwa [wns_length] at this
        have hk : j / 2 < ls.length := by omega
        obtain ⟨c0, c1⟩ := wns_get ls (j / 2) hk
        obtain ⟨d0, d1⟩ := hce (j / 2) hk
        rcases Nat.mod_two_eq_zero_or_one j with hm | hm
        · have e : j = j / 2 * 2 := by omega
          rw [← e, hj] at c0
          rw [← e] at d0
          rw [d0, ← c0]
        · have e : j = j / 2 * 2 + 1 := by omega
          rw [← e, hj] at c1
          rw [show off + j / 2 * 2 + 1 = off + j by omega] at d1
          rw [d1, ← c1]) (wns_one ls)
    refine hcon.mono ?_
    rintro e w1 ⟨v', rfl, ho, _, hb⟩
    exact ⟨v', rfl, hb, .inr ⟨by omega, ho⟩⟩
/-- The sort. -/
theorem ssort_none (ad : Option Addr) (cap : Nat) (fv : Value) (w : World) :
    Calls Try.prog 17 #[.slice ad 0 cap, fv] w fun e w' => e = .returned (.tuple #[]) ∧ w' = w :=
  AnyF.slices_SortFunc_none Try.laysSort_f17 ad cap fv w
theorem ssort_at (v : Value) (ls : List Wn) (B : Nat) (w : World) (h0 : 0 < ls.length) (hl : ls.length ≤ 8796093021952) (hB : B ≤ w.heap.size) (ho : w.ownsRow B 28 2 v ls.length (wns ls)) :
    Calls Try.prog 17 #[v, .func (.func 18) #[] #[]] w fun e w' => e = .returned (.tuple #[]) ∧
      ∃ r : List Wn, r.Perm ls ∧ (r.Pairwise fun a b => a.1 ≤ b.1) ∧ r.length = ls.length ∧ Wl w' v r ∧ Below B w w' := by
  have ho2 := ho
  rcases ho.2 with ⟨_, h1⟩ | ⟨g, cap, cur, rfl, hb, hc, h1, h2, h3, h4⟩
  · omega
  · have hgl : g < w.heap.size := (Array.getElem?_eq_some_iff.1 hc).1
    have hH := wl_holds ⟨cap, rfl⟩ ho2
    have hcon := AnyQ.slices_SortFunc Try.laysSort_f17 2 Try.isAgg28 Try.sizeOf28 encW (fun _ => rfl) (fun x v hv => by simp [encW] at hv; rcases hv with rfl | rfl <;> rfl) cmpF swoF 18 #[] g 0 cap ls.toArray w
      (enters_of Try.func18 (by kernel_rfl) rfl) (fun m os dk _ x y => cmpF_at x y _) hH hgl (by simp; omega)
    refine hcon.mono ?_
    rintro e w1 ⟨rfl, d', n, os, hp, hs, rfl⟩
    obtain ⟨r, r1, r2, r3, r4⟩ := sort_wl (cap := cap) hH hgl h1 h2 n os hp hs
    exact ⟨rfl, r, r1, r2, r3, r4, sw_below w g 0 n d' os B hb hB⟩
end Go.Proofs.Ytkmbhgbmdeoppab
