/-
  What append does to a list of slices of a body that the call made itself, and another such list.
-/
import Derived.Test.YtkmbhgbmdeoppabWCopyW
import Derived.Laws.AppendOwnNone
namespace Go.Proofs.Ytkmbhgbmdeoppab
open Go.RowKit

theorem append_wl {w : World} {ops : Array Oper} {rest : List Oper} {o : Oper} {a : Act} {Q : Exit → Act → World → Prop} (hgd : o.guard = none) (s x : Operand)
    (ho : o.op = .call { callee := .builtin .append, args := #[s, x], argTypes := #[23, 23] })
    (B : Nat) (v : Value) (ls : List Wn) (hs : a.eval s = v) (hown : w.ownsRow B 28 2 v ls.length (wns ls)) (u : Value) (ks : List Wn) (hx : a.eval x = u) (hk : Wl w u ks) (hn : Nilly u)
    (hlen : ls.length + ks.length ≤ 8796093022208) (hB : B ≤ w.heap.size)
    (h : ∀ v' w', w'.ownsRow B 28 2 v' (ls ++ ks).length (wns (ls ++ ks)) → Below B w w' → wpList Try.prog ops Q rest (a.put o.dst v') w') : wpList Try.prog ops Q (o :: rest) a w := by
  obtain ⟨i0, hi, hz0, hz1, hz2⟩ := info_parts infoSc
  have hk2 := hk
  obtain ⟨ad, cap, rfl, hcap, hcm, _⟩ := hk
  rcases hn with hn | ⟨p, n, c, hn⟩
  · simp only [Value.slice.injEq] at hn
    obtain ⟨rfl, hl0, rfl⟩ := hn
    have hks := List.eq_nil_of_length_eq_zero hl0
    subst hks
    rw [List.append_nil] at h
    exact wpList_append_own_none hgd s x _ ho B _ i0 2 Try.underlying23 hi v ls.length (wns ls) hs hown hx (h v w hown (Below.refl _ _))
  · simp only [Value.slice.injEq] at hn
    obtain ⟨rfl, rfl, rfl⟩ := hn
    refine wpList_append_own w hgd s x _ ho B _ i0 (.agg #[.int .i64 0, .int .i64 0]) 2 16 Try.underlying23 hi hz0 hz1 hz2 rfl (by decide) v ls.length (wns ls) hs hown p ks.length cap (wns ks) hx (wns_length ks) hk2.cells (wns_one ks)
      (by unfold maxLen; omega) (by omega) hB (fun v' w' ho' hg _ => h v' w' ?_ ?_)
    · rw [wns_app, List.length_append]; exact ho'
    · exact (Below.refl _ _).grown hg hB (fun b hb => (hown.lt b hb).1)
end Go.Proofs.Ytkmbhgbmdeoppab
