/-
  What Copy of the document's answers computes of a list of directives that is nil or has an address, and what append does to such a list.
-/
import Derived.Test.YtoccjnbodoiibaaSpecDl
import Derived.Test.YtoccjnbodoiibaaWInfoD
import Derived.Test.YtoccjnbodoiibaaOpenD
import Derived.Test.YtoccjnbodoiibaaShelf
import Derived.Test.YtoccjnbodoiibaaRows
import Derived.Laws.AppendOwnNone
namespace Go.Proofs.Ytoccjnbodoiibaa
open Go.RowKit

/-- A list that came in is nil, or it has an address. -/
def Nilly (v : Value) : Prop := v = .slice none 0 0 ∨ ∃ a n c, v = .slice (some a) n c
theorem nilly_dl {H : Type} {enc : TypeId × Value → H} {P : Program} {w : World} {base : Nat} {spare : Nat → Bool} {held : Bool} {t e : TypeId} {fuel : Nat} {v : Value} {x : DataW H × List MemPlace}
    (ht : P.underlying t = some (.slice e)) (h : DataW.trod enc P w base spare held fuel t [v] = some x) : Nilly v := by
  rcases DataW.trod_slice ht h with ⟨h0, _⟩ | ⟨a, len, cap, _, _, _, _, hcs, _⟩
  · simp only [List.cons.injEq, and_true] at h0
    exact .inl h0
  · simp only [List.cons.injEq, and_true] at hcs
    exact .inr ⟨a, len, cap, hcs⟩
theorem Nilly.own {w : World} {B : Nat} {e : TypeId} {size : Nat} {v : Value} {n : Nat} {xs : List Value} (h : w.ownsRow B e size v n xs) : Nilly v := by
  rcases h.2 with ⟨rfl, _⟩ | ⟨g, cap, cur, rfl, _⟩
  · exact .inl rfl
  · exact .inr ⟨_, _, _, rfl⟩
theorem Dl.cells {w : World} {a : Addr} {c : Nat} {ls : List (List UInt8 × Bool × List UInt8)} (h : Dl w (.slice (some a) ls.length c) ls) : ∀ j u, (drs ls)[j]? = some u → w.cell? (a.add j) = some u := by
  obtain ⟨ad', cap', hv, h1, h2, h3⟩ := h
  simp only [Value.slice.injEq] at hv
  obtain ⟨rfl, _, rfl⟩ := hv
  intro j u hj
  have hjl : j < ls.length * 3 := by
    rw [← drs_length]
    exact (List.getElem?_eq_some_iff.1 hj).1
  obtain ⟨g, off, ha, hg, hc⟩ := h3 (by omega)
  simp only [Option.some.injEq] at ha
  subst ha
  have hform : (⟨g, off, none⟩ : Addr).add j = ⟨g, off + j, none⟩ := by
    by_cases h0 : j = 0
    · subst h0; simp [Addr.add]
    · simp [Addr.add, h0]
  rw [hform]
  obtain ⟨k, hk⟩ : ∃ k, j = k * 3 ∨ j = k * 3 + 1 ∨ j = k * 3 + 2 := ⟨j / 3, by omega⟩
  obtain ⟨c1, c2, c3⟩ := hc k (by omega)
  obtain ⟨p1, p2, p3⟩ := drs_get ls k (by omega)
  rcases hk with rfl | rfl | rfl
  · rw [p1] at hj; rw [c1, hj]
  · rw [p2] at hj; rw [← Nat.add_assoc, c2, hj]
  · rw [p3] at hj; rw [← Nat.add_assoc, c3, hj]
theorem drs_one (ls : List (List UInt8 × Bool × List UInt8)) : ∀ u ∈ drs ls, u.oneCell' = true := by
  intro u hu
  unfold drs at hu
  obtain ⟨x, _, hx⟩ := List.mem_flatMap.1 hu
  simp at hx
  rcases hx with rfl | rfl | rfl <;> rfl

set_option maxHeartbeats 2000000 in
set_option maxRecDepth 100000 in
theorem copyD_any (v : Value) (ls : List (List UInt8 × Bool × List UInt8)) (w : World) (hf : Dl w v ls) (hn : Nilly v) (hl : ls.length ≤ 1048576) :
    Calls Try.prog 8 #[v] w fun e w' => ∃ v', e = .returned v' ∧ w'.ownsRow w.heap.size 28 3 v' ls.length (drs ls) ∧ Below w.heap.size w w' := by
  obtain ⟨i0, hi, hz0, hz1, hz2⟩ := info_parts infoDr
  have HF : Hid (Dl w v ls) := hf
  obtain ⟨ad, cap, hv, hcap, hcm, hcx⟩ := hf
  subst hv
  clear hcx
  unfold maxLen at hcm
  rcases hn with hn | ⟨a, n, c, hn⟩
  · simp only [Value.slice.injEq] at hn
    obtain ⟨rfl, hl0, rfl⟩ := hn
    have hls := List.eq_nil_of_length_eq_zero hl0
    subst hls
    clear hl0
    go_enter Try.func8, Try.ntmps8
    go_wp2_with (at_builtin; refine wpList_append_own_none rfl _ _ 22 rfl w.heap.size 28 i0 3 Try.underlying22 hi (.slice none 0 0) 0 [] rfl (World.ownsRow_nil _ _ _ _) rfl ?_)
    go_ret
    exact ⟨_, rfl, World.ownsRow_nil _ _ _ _, Below.refl _ _⟩
  · simp only [Value.slice.injEq] at hn
    obtain ⟨rfl, rfl, rfl⟩ := hn
    go_enter Try.func8, Try.ntmps8
    go_wp2_with (at_builtin; refine wpList_append_own _ rfl _ _ 22 rfl w.heap.size 28 i0 (.agg #[.string ⟨#[]⟩, .bool false, .string ⟨#[]⟩]) 3 40 Try.underlying22 hi hz0 hz1 hz2 rfl (by decide) (.slice none 0 0) 0 [] rfl (World.ownsRow_nil _ _ _ _) a ls.length cap (drs ls) rfl (drs_length ls) ?c1 ?c2 ?c3 ?c4 ?c5 ?_)
    case c1 => exact HF.out.cells
    case c2 => exact drs_one ls
    case c3 => unfold maxLen; omega
    case c4 => omega
    case c5 => omega
    · intro v' w' hown' hgrow _
      have hB : Below w.heap.size w w' := (Below.refl _ w).grown hgrow (Nat.le_refl _) (fun b hb => ((World.ownsRow_nil w w.heap.size 28 3).lt b hb).1)
      have hown2 : w'.ownsRow w.heap.size 28 3 v' ls.length (drs ls) := by
        exact hown'
      clear hown' hgrow
      go_wp2_with fail
      go_ret
      exact ⟨_, rfl, hown2, hB⟩
theorem append_dl {w : World} {ops : Array Oper} {rest : List Oper} {o : Oper} {a : Act} {Q : Exit → Act → World → Prop} (hgd : o.guard = none) (s x : Operand)
    (ho : o.op = .call { callee := .builtin .append, args := #[s, x], argTypes := #[22, 22] })
    (B : Nat) (v : Value) (ls : List (List UInt8 × Bool × List UInt8)) (hs : a.eval s = v) (hown : w.ownsRow B 28 3 v ls.length (drs ls)) (u : Value) (ks : List (List UInt8 × Bool × List UInt8)) (hx : a.eval x = u) (hk : Dl w u ks) (hn : Nilly u)
    (hlen : ls.length + ks.length ≤ 2097152) (hB : B ≤ w.heap.size)
    (h : ∀ v' w', w'.ownsRow B 28 3 v' (ls ++ ks).length (drs (ls ++ ks)) → Below B w w' → wpList Try.prog ops Q rest (a.put o.dst v') w') : wpList Try.prog ops Q (o :: rest) a w := by
  obtain ⟨i0, hi, hz0, hz1, hz2⟩ := info_parts infoDr
  have hk2 := hk
  obtain ⟨ad, cap, rfl, hcap, hcm, _⟩ := hk
  rcases hn with hn | ⟨p, n, c, hn⟩
  · simp only [Value.slice.injEq] at hn
    obtain ⟨rfl, hl0, rfl⟩ := hn
    have hks := List.eq_nil_of_length_eq_zero hl0
    subst hks
    rw [List.append_nil] at h
    exact wpList_append_own_none hgd s x _ ho B _ i0 3 Try.underlying22 hi v ls.length (drs ls) hs hown hx (h v w hown (Below.refl _ _))
  · simp only [Value.slice.injEq] at hn
    obtain ⟨rfl, rfl, rfl⟩ := hn
    refine wpList_append_own w hgd s x _ ho B _ i0 (.agg #[.string ⟨#[]⟩, .bool false, .string ⟨#[]⟩]) 3 40 Try.underlying22 hi hz0 hz1 hz2 rfl (by decide) v ls.length (drs ls) hs hown p ks.length cap (drs ks) hx (drs_length ks) hk2.cells (drs_one ks)
      (by unfold maxLen; omega) (by omega) hB (fun v' w' ho' hg _ => h v' w' ?_ ?_)
    · rw [drs_app, List.length_append]; exact ho'
    · exact (Below.refl _ _).grown hg hB (fun b hb => (hown.lt b hb).1)
end Go.Proofs.Ytoccjnbodoiibaa
