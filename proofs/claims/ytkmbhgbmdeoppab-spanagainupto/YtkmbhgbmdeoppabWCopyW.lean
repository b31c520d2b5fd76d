/-
  What Copy of the document's answers computes of a list of slices of a body that is nil or has an address, and what append does to such a list.
-/
import Derived.Test.YtkmbhgbmdeoppabWInfoSc
import Derived.Test.YtkmbhgbmdeoppabOpenWn
namespace Go.Proofs.Ytkmbhgbmdeoppab
open Go.RowKit

/-- A list that came in is nil, or it has an address. -/
def Nilly (v : Value) : Prop := v = .slice none 0 0 ∨ ∃ a n c, v = .slice (some a) n c
theorem nilly_wl {H : Type} {enc : TypeId × Value → H} {P : Program} {w : World} {base : Nat} {spare : Nat → Bool} {held : Bool} {t e : TypeId} {fuel : Nat} {v : Value} {x : DataW H × List MemPlace}
    (ht : P.underlying t = some (.slice e)) (h : DataW.trod enc P w base spare held fuel t [v] = some x) : Nilly v := by
  rcases DataW.trod_slice ht h with ⟨h0, _⟩ | ⟨a, len, cap, _, _, _, _, hcs, _⟩
  · simp only [List.cons.injEq, and_true] at h0
    exact .inl h0
  · simp only [List.cons.injEq, and_true] at hcs
    exact .inr ⟨a, len, cap, hcs⟩
theorem Nilly.own {w : World} {B : Nat} {e : TypeId} {size : Nat} {v : Value} {n : Nat} {xs : List Value} (h : w.ownsRow B e size v n xs) : Nilly v := by
  rcases h.2 with ⟨rfl, _⟩ | ⟨g, cap, cur, rfl, _⟩
  · exact .inl rfl
  · exact .inr ⟨_, _, _, rfl⟩
theorem Wl.cells {w : World} {a : Addr} {c : Nat} {ls : List Wn} (h : Wl w (.slice (some a) ls.length c) ls) : ∀ j u, (wns ls)[j]? = some u → w.cell? (a.add j) = some u := by
  obtain ⟨ad', cap', hv, h1, h2, h3⟩ := h
  simp only [Value.slice.injEq] at hv
  obtain ⟨rfl, _, rfl⟩ := hv
  intro j u hj
  have hjl : j < ls.length * 2 := by
    rw [← wns_length]
    exact (List.getElem?_eq_some_iff.1 hj).1
  obtain ⟨g, off, ha, hg, hc⟩ := h3 (by omega)
  simp only [Option.some.injEq] at ha
  subst ha
  have hform : (⟨g, off, none⟩ : Addr).add j = ⟨g, off + j, none⟩ := by
    by_cases h0 : j = 0
    · subst h0; simp [Addr.add]
    · simp [Addr.add, h0]
  rw [hform]
  obtain ⟨k, hk⟩ : ∃ k, j = k * 2 ∨ j = k * 2 + 1 := ⟨j / 2, by omega⟩
  obtain ⟨c1, c2⟩ := hc k (by omega)
  obtain ⟨p1, p2⟩ := wns_get ls k (by omega)
  rcases hk with rfl | rfl
  · rw [p1] at hj; rw [c1, hj]
  · rw [p2] at hj; rw [← Nat.add_assoc, c2, hj]

set_option maxHeartbeats 2000000 in
set_option maxRecDepth 100000 in
theorem copyW_any (v : Value) (ls : List Wn) (w : World) (hf : Wl w v ls) (hn : Nilly v) (hl : ls.length ≤ 8796093021952) :
    Calls Try.prog 12 #[v] w fun e w' => ∃ v', e = .returned v' ∧ w'.ownsRow w.heap.size 28 2 v' ls.length (wns ls) ∧ Below w.heap.size w w' := by
  obtain ⟨i0, hi, hz0, hz1, hz2⟩ := info_parts infoSc
  have HF : Hid (Wl w v ls) := hf
  obtain ⟨ad, cap, hv, hcap, hcm, hcx⟩ := hf
  subst hv
  clear hcx
  unfold maxLen at hcm
  rcases hn with hn | ⟨a, n, c, hn⟩
  · simp only [Value.slice.injEq] at hn
    obtain ⟨rfl, hl0, rfl⟩ := hn
    have hls := List.eq_nil_of_length_eq_zero hl0
    subst hls
    clear hl0
    go_enter Try.func12, Try.ntmps12
    go_wp2_with (at_builtin; refine wpList_append_own_none rfl _ _ 23 rfl w.heap.size 28 i0 2 Try.underlying23 hi (.slice none 0 0) 0 [] rfl (World.ownsRow_nil _ _ _ _) rfl ?_)
    go_ret
    exact ⟨_, rfl, World.ownsRow_nil _ _ _ _, Below.refl _ _⟩
  · simp only [Value.slice.injEq] at hn
    obtain ⟨rfl, rfl, rfl⟩ := hn
    go_enter Try.func12, Try.ntmps12
    go_wp2_with (at_builtin; refine wpList_append_own _ rfl _ _ 23 rfl w.heap.size 28 i0 (.agg #[.int .i64 0, .int .i64 0]) 2 16 Try.underlying23 hi hz0 hz1 hz2 rfl (by decide) (.slice none 0 0) 0 [] rfl (World.ownsRow_nil _ _ _ _) a ls.length cap (wns ls) rfl (wns_length ls) ?c1 ?c2 ?c3 ?c4 ?c5 ?_)
    case c1 => exact HF.out.cells
    case c2 => exact wns_one ls
    case c3 => unfold maxLen; omega
    case c4 => omega
    case c5 => omega
    · intro v' w' hown' hgrow _
      have hB : Below w.heap.size w w' := (Below.refl _ w).grown hgrow (Nat.le_refl _) (fun b hb => ((World.ownsRow_nil w w.heap.size 28 2).lt b hb).1)
      have hown2 : w'.ownsRow w.heap.size 28 2 v' ls.length (wns ls) := by
        exact hown'
      clear hown' hgrow
      go_wp2_with fail
      go_ret
      exact ⟨_, rfl, hown2, hB⟩
end Go.Proofs.Ytkmbhgbmdeoppab
