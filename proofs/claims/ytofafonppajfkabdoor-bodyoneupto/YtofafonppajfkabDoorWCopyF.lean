/-
  What Copy of the document's answers computes of a list of fields that is nil or has an address.
-/
import Derived.Test.YtofafonppajfkabDoorWInfoF
import Derived.Test.YtofafonppajfkabDoorOpenF
namespace Go.Proofs.YtofafonppajfkabDoor
open Go.RowKit

/-- A list that came in is nil, or it has an address. -/
def Nilly (v : Value) : Prop := v = .slice none 0 0 ∨ ∃ a n c, v = .slice (some a) n c
theorem nilly_fl {H : Type} {enc : TypeId × Value → H} {P : Program} {w : World} {base : Nat} {spare : Nat → Bool} {held : Bool} {t e : TypeId} {fuel : Nat} {v : Value} {x : DataW H × List MemPlace}
    (ht : P.underlying t = some (.slice e)) (h : DataW.trod enc P w base spare held fuel t [v] = some x) : Nilly v := by
  rcases DataW.trod_slice ht h with ⟨h0, _⟩ | ⟨a, len, cap, _, _, _, _, hcs, _⟩
  · simp only [List.cons.injEq, and_true] at h0
    exact .inl h0
  · simp only [List.cons.injEq, and_true] at hcs
    exact .inr ⟨a, len, cap, hcs⟩
theorem Fl.cells {w : World} {a : Addr} {c : Nat} {ls : List Fld} (h : Fl w (.slice (some a) ls.length c) ls) : ∀ j u, (flds ls)[j]? = some u → w.cell? (a.add j) = some u := by
  obtain ⟨ad', cap', hv, h1, h2, h3⟩ := h
  simp only [Value.slice.injEq] at hv
  obtain ⟨rfl, _, rfl⟩ := hv
  intro j u hj
  have hjl : j < ls.length * 2 := by
    rw [← flds_length]
    exact (List.getElem?_eq_some_iff.1 hj).1
  obtain ⟨g, off, ha, hg, hc⟩ := h3 (by omega)
  simp only [Option.some.injEq] at ha
  subst ha
  have hform : (⟨g, off, none⟩ : Addr).add j = ⟨g, off + j, none⟩ := by
    by_cases h0 : j = 0
    · subst h0; simp [Addr.add]
    · simp [Addr.add, h0]
  rw [hform]
  obtain ⟨k, hk⟩ : ∃ k, j = k * 2 ∨ j = k * 2 + 1 := ⟨j / 2, by omega⟩
  obtain ⟨c1, c2⟩ := hc k (by omega)
  obtain ⟨p1, p2⟩ := flds_get ls k (by omega)
  rcases hk with rfl | rfl
  · rw [p1] at hj; rw [c1, hj]
  · rw [p2] at hj; rw [← Nat.add_assoc, c2, hj]

set_option maxHeartbeats 2000000 in
set_option maxRecDepth 100000 in
theorem copy_any (v : Value) (ls : List Fld) (w : World) (hf : Fl w v ls) (hn : Nilly v) (hl : ls.length ≤ 1048576) :
    Calls Tryd.prog 13 #[v] w fun e w' => ∃ v', e = .returned v' ∧ w'.ownsRow w.heap.size 36 2 v' ls.length (flds ls) ∧ Below w.heap.size w w' := by
  obtain ⟨i0, hi, hz0, hz1, hz2⟩ := info_parts infoF
  have HF : Hid (Fl w v ls) := hf
  obtain ⟨ad, cap, hv, hcap, hcm, hcx⟩ := hf
  subst hv
  clear hcx
  unfold maxLen at hcm
  rcases hn with hn | ⟨a, n, c, hn⟩
  · simp only [Value.slice.injEq] at hn
    obtain ⟨rfl, hl0, rfl⟩ := hn
    have hls := List.eq_nil_of_length_eq_zero hl0
    subst hls
    clear hl0
    go_enter Tryd.func13, Tryd.ntmps13
    go_wp2_with (at_builtin; refine wpList_append_own_none rfl _ _ 34 rfl w.heap.size 36 i0 2 Tryd.underlying34 hi (.slice none 0 0) 0 [] rfl (World.ownsRow_nil _ _ _ _) rfl ?_)
    go_ret
    exact ⟨_, rfl, World.ownsRow_nil _ _ _ _, Below.refl _ _⟩
  · simp only [Value.slice.injEq] at hn
    obtain ⟨rfl, rfl, rfl⟩ := hn
    go_enter Tryd.func13, Tryd.ntmps13
    go_wp2_with (at_builtin; refine wpList_append_own _ rfl _ _ 34 rfl w.heap.size 36 i0 (.agg #[.string ⟨#[]⟩, .string ⟨#[]⟩]) 2 32 Tryd.underlying34 hi hz0 hz1 hz2 rfl (by decide) (.slice none 0 0) 0 [] rfl (World.ownsRow_nil _ _ _ _) a ls.length cap (flds ls) rfl (flds_length ls) ?c1 ?c2 ?c3 ?c4 ?c5 ?_)
    case c1 => exact HF.out.cells
    case c2 => exact flds_one ls
    case c3 => unfold maxLen; omega
    case c4 => omega
    case c5 => omega
    · intro v' w' hown' hgrow _
      have hB : Below w.heap.size w w' := (Below.refl _ w).grown hgrow (Nat.le_refl _) (fun b hb => ((World.ownsRow_nil w w.heap.size 36 2).lt b hb).1)
      have hown2 : w'.ownsRow w.heap.size 36 2 v' ls.length (flds ls) := by
        exact hown'
      clear hown' hgrow
      go_wp2_with fail
      go_ret
      exact ⟨_, rfl, hown2, hB⟩
end Go.Proofs.YtofafonppajfkabDoor
