/-
  What one byte does to a Decoder of package body, whatever may come next.
-/
import Derived.Test.YtofafonppajfkaaDoorWDs2
import Derived.Test.YtofafonppajfkaaDoorWDs3
import Derived.Test.YtofafonppajfkaaDoorWDs5
namespace Go.Proofs.YtofafonppajfkaaDoor
open Go.RowKit

theorem dec_size {B : Nat} {w : World} {bd : Nat} {f0 : Value} {x : Ds} (h : Dec B w bd f0 x) : B ≤ w.heap.size := by
  obtain ⟨_, _, Bf, _, _, h3, h4, _⟩ := h
  omega
def nxD (x : Ds) : Option St → Int × Ds
  | none => (3, x)
  | some st => (0, { x with st := st })
theorem nxD_if (x : Ds) (p : Prop) [Decidable p] (a b : Option St) : nxD x (if p then a else b) = if p then nxD x a else nxD x b := by split <;> rfl
/-- A function value that neither reads nor writes the Decoder. -/
theorem st_of_nx {B : Nat} {w w' : World} {bd : Nat} {f0 : Value} {x : Ds} {c : UInt8} {e : Ending} {r : Option St} (hd : Dec B w bd f0 x) (hdn : x.done = false) (h : Nx w w' e r)
    (hs : stepD x c = nxD x r) : StQ B w w' bd f0 (stepD x c) e := by
  obtain ⟨hb, h⟩ := h
  have hd' := hd.below hb
  cases r with
  | none =>
    rw [hs]
    exact ⟨hb.mono (dec_size hd), fun _ => ⟨h, hd'.block⟩, fun h => absurd h (by simp [nxD])⟩
  | some st =>
    obtain ⟨f, he, hst⟩ := h
    rw [hs]
    exact ⟨hb.mono (dec_size hd), fun h => absurd rfl h, fun _ => ⟨f, he, hd', fun h => absurd (h.symm.trans hdn) (by simp), fun _ => hst⟩⟩
theorem enter_fn : ∀ g, g = 56 ∨ g = 77 ∨ g = 79 ∨ g = 102 ∨ g = 126 ∨ g = 99 → ∀ args w, (callFunc g args).run Tryd.prog w = .ok (.enter g args) w := by
  rintro g (rfl | rfl | rfl | rfl | rfl | rfl)
  · exact enters_of Tryd.func56 (by kernel_rfl) rfl
  · exact enters_of Tryd.func77 (by kernel_rfl) rfl
  · exact enters_of Tryd.func79 (by kernel_rfl) rfl
  · exact enters_of Tryd.func102 (by kernel_rfl) rfl
  · exact enters_of Tryd.func126 (by kernel_rfl) rfl
  · exact enters_of Tryd.func99 (by kernel_rfl) rfl
theorem step_at (B : Nat) (x : Ds) (c : UInt8) (bd : Nat) (f : Value) (m : Int) (w : World) (hd : Dec B w bd f x) (hf : StepV w f x.st) (hi : Inv x)
    (hm : w.cell? ⟨0, 0, none⟩ = some (.int .i64 m)) (hM : 0 < B) :
    ∃ (g : Nat) (lb : Array Value), f = .func (.func g) #[] lb ∧ (∀ args w, (callFunc g args).run Tryd.prog w = .ok (.enter g args) w) ∧
      Calls Tryd.prog g (#[ptr bd, .int .u8 (c.toNat : Int)] ++ lb) w fun e w' => StQ B w w' bd f (stepD x c) e := by
  obtain ⟨h1, h2, h3⟩ := hi
  cases hst : x.st with
  | num d n =>
    rw [hst] at hf h3
    obtain ⟨_, h4, h5⟩ := h3
    obtain ⟨a, b, rfl, ha, hb⟩ := hf
    refine ⟨_, _, rfl, enter_fn _ (by simp), (number1_at d n c a b (ptr bd) w h4 (dig_lt h4 h5) (cellH ha) (cellH hb)).mono fun e w' h => st_of_nx hd h1 h ?_⟩
    unfold stepD numN; rw [hst]; simp only
    cases hv c with
    | some v => simp only; rw [nxD_if]; rfl
    | none => simp only; rw [nxD_if, nxD_if]; rfl
  | ext k n =>
    rw [hst] at hf h3
    obtain ⟨_, h4, _⟩ := h3
    obtain ⟨a, b, rfl, ha, hb⟩ := hf
    refine ⟨_, _, rfl, enter_fn _ (by simp), (extra1_at k n c a b (ptr bd) w h4 (cellH ha) (cellH hb)).mono fun e w' h => st_of_nx hd h1 h ?_⟩
    unfold stepD extN; rw [hst]; simp only
    rw [nxD_if, nxD_if]; rfl
  | endn n =>
    rw [hst] at hf h3
    obtain ⟨_, h4⟩ := h3
    obtain ⟨a, rfl, ha⟩ := hf
    obtain ⟨vb, vf, Bf, g1, g2, g3, g4, g5, g6, g7, g8⟩ := id hd
    obtain ⟨ad, cap, hv, _⟩ := own_slice g5
    obtain ⟨_, hc, _, _⟩ := dec_cell g1
    rw [hv] at hc
    refine ⟨_, _, rfl, enter_fn _ (by simp), (end1_at n c a bd x.body.length cap ad w h4 h2 (cellH ha) hc).mono fun e w' h => ?_⟩
    obtain ⟨hb, e1, e2, e3⟩ := h
    have hd' := hd.below hb
    have hs : stepD x c = if c ≠ 10 then (3, x) else if 5000 < x.body.length + n then (2, x) else if n = 0 then (0, { x with st := .fld 0 }) else (0, { x with st := .byt n }) := by unfold stepD; rw [hst]
    by_cases c1 : c ≠ 10
    · rw [hs, if_pos c1]
      exact ⟨hb.mono (dec_size hd), fun _ => ⟨e1 c1, hd'.block⟩, fun h => absurd h (by simp)⟩
    · have c10 : c = 10 := Classical.byContradiction c1
      rw [hs, if_neg c1]
      by_cases c2 : 5000 < x.body.length + n
      · rw [if_pos c2]
        exact ⟨hb.mono (dec_size hd), fun _ => ⟨e2 c10 c2, hd'.block⟩, fun h => absurd h (by simp)⟩
      · rw [if_neg c2]
        obtain ⟨f, he, hst'⟩ := e3 c10 c2
        by_cases c3 : n = 0
        · rw [if_pos c3] at hst' ⊢
          exact ⟨hb.mono (dec_size hd), fun h => absurd rfl h, fun _ => ⟨f, he, hd', fun h => absurd (h.symm.trans h1) (by simp), fun _ => hst'⟩⟩
        · rw [if_neg c3] at hst' ⊢
          exact ⟨hb.mono (dec_size hd), fun h => absurd rfl h, fun _ => ⟨f, he, hd', fun h => absurd (h.symm.trans h1) (by simp), fun _ => hst'⟩⟩
  | byt l =>
    rw [hst] at hf h3
    obtain ⟨h4, h5, h6⟩ := h3
    obtain ⟨a, rfl, ha⟩ := hf
    refine ⟨_, _, rfl, enter_fn _ (by simp), (bytes1_at B x c l a bd _ w hd h4 h5 h6 ha).mono fun e w' h => ?_⟩
    obtain ⟨f, he, hd', hs', _, hb⟩ := h
    have hs : stepD x c = (0, { x with body := x.body ++ [c], st := if 1 < l then .byt (l - 1) else .crlf }) := by unfold stepD; rw [hst]
    rw [hs]
    exact ⟨hb, fun h => absurd rfl h, fun _ => ⟨f, he, hd', fun h => absurd (h.symm.trans h1) (by simp), fun _ => hs'⟩⟩
  | crlf =>
    rw [hst] at hf
    obtain ⟨lb, rfl, hc⟩ := text1_cr c f w hf (ptr bd)
    refine ⟨_, _, rfl, enter_fn _ (by simp), hc.mono fun e w' h => st_of_nx hd h1 h ?_⟩
    unfold stepD crN; rw [hst]; simp only
    rw [nxD_if]; rfl
  | lf =>
    rw [hst] at hf
    obtain ⟨lb, rfl, hc⟩ := text1_lf c f w hf (ptr bd)
    refine ⟨_, _, rfl, enter_fn _ (by simp), hc.mono fun e w' h => st_of_nx hd h1 h ?_⟩
    unfold stepD lfN; rw [hst]; simp only
    rw [nxD_if]; rfl
  | fld k =>
    rw [hst] at hf h3
    obtain ⟨a, rfl, ha⟩ := hf
    exact ⟨_, _, rfl, enter_fn _ (by simp), fields1_at B x c k a bd _ m w hd hst h1 h3 ha hm hM⟩
end Go.Proofs.YtofafonppajfkaaDoor
