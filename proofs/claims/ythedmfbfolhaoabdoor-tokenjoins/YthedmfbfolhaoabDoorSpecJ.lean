/-
  Plain lemmas: tokens with gaps of commas and blanks between them are split into these tokens; no program is named here.
-/
import Derived.Test.YthedmfbfolhaoabDoorSpecK
import Derived.Test.YthedmfbfolhaoabDoorSpecA
import Derived.Test.YthedmfbfolhaoabDoorWSplit
namespace Go.Proofs.YthedmfbfolhaoabDoor
open Go.RowKit

def GapOk (g : List UInt8) : Prop := g.length ≤ 5 ∧ ∀ X cur, ∃ X' cur', g.foldl (cstep 44) ⟨X, cur, false, false⟩ = ⟨X', cur', false, false⟩ ∧ kept X' = kept (X ++ [cur]) ∧ ∀ r, trimL (cur' ++ r) = trimL r

theorem kept_blank (X : List (List UInt8)) (cur : List UInt8) : kept (X ++ [cur ++ [32]]) = kept (X ++ [cur]) := by
  rw [kept_snoc, kept_snoc, trimL_last _ 32 rfl]
theorem kept_none (X : List (List UInt8)) (r : List UInt8) (h : trimL r = []) : kept (X ++ [r]) = kept X := by
  rw [kept_snoc, h]; rfl
theorem gap1 : GapOk [44] := ⟨by simp, fun X cur => ⟨X ++ [cur], [], by simp [cstep], rfl, fun r => rfl⟩⟩
theorem gap2 : GapOk [44, 32] := ⟨by simp, fun X cur => ⟨X ++ [cur], [32], by simp [cstep], rfl, fun r => trimL_first r 32 rfl⟩⟩
theorem gap3 : GapOk [32, 44, 9] := ⟨by simp, fun X cur => ⟨X ++ [cur ++ [32]], [9], by simp [cstep], kept_blank _ _, fun r => trimL_first r 9 rfl⟩⟩
theorem gap4 : GapOk [44, 44] := ⟨by simp, fun X cur => ⟨X ++ [cur] ++ [[]], [], by simp [cstep], kept_none _ _ rfl, fun r => rfl⟩⟩
theorem gap5 : GapOk [32, 44, 32, 44, 32] := ⟨by simp, fun X cur => ⟨X ++ [cur ++ [32]] ++ [[32]], [32], by simp [cstep], by rw [kept_none _ _ (by rfl), kept_blank], fun r => trimL_first r 32 rfl⟩⟩

theorem fold_gaps (g : List UInt8) (hg : GapOk g) (ts : List (List UInt8)) : ∀ (X : List (List UInt8)) (cur : List UInt8), (∀ t ∈ ts, token t = true) →
    ∃ X' cur', ((ts.map (g ++ ·)).flatten).foldl (cstep 44) ⟨X, cur, false, false⟩ = ⟨X', cur', false, false⟩ ∧ kept (X' ++ [cur']) = kept (X ++ [cur]) ++ ts := by
  induction ts with
  | nil => intro X cur _; exact ⟨X, cur, rfl, by simp⟩
  | cons t ts ih =>
    intro X cur h
    obtain ⟨X1, c1, e1, k1, r1⟩ := hg.2 X cur
    have ht := h t (by simp)
    obtain ⟨he, hall⟩ := token_parts t ht
    have e2 := run_fold 44 t X1 c1 false false false false (tok_run 44 (.inl rfl) t hall)
    obtain ⟨X2, c2, e3, k3⟩ := ih X1 (c1 ++ t) (fun r hr => h r (by simp [hr]))
    refine ⟨X2, c2, ?_, ?_⟩
    · rw [List.map_cons, List.flatten_cons, List.foldl_append, List.foldl_append, e1, e2, e3]
    · rw [k3, kept_snoc, r1, trimL_token t ht, he, k1]
      simp

theorem join_flat (g : List UInt8) (t : List UInt8) (ts : List (List UInt8)) : g ++ Lib.join (t :: ts) g = ((t :: ts).map (g ++ ·)).flatten := by
  rw [Lib.join_cons]; simp [Lib.joinTail]

theorem split_gaps (g : List UInt8) (hg : GapOk g) (ts : List (List UInt8)) (h : ∀ t ∈ ts, token t = true ∧ t.length ≤ 30) (hl : ts.length ≤ 15) : splitS (g ++ Lib.join ts g ++ g) = (ts, 0) ∧ (Lib.join ts g).length ≤ 600 := by
  have hlen : ((ts.map (g ++ ·)).flatten).length ≤ 35 * ts.length := by
    clear hl
    induction ts with
    | nil => simp
    | cons t ts ih =>
      have := ih (fun r hr => h r (by simp [hr]))
      have h1 := (h t (by simp)).2
      have h2 := hg.1
      rw [List.map_cons, List.flatten_cons, List.length_append, List.length_append, List.length_cons]
      omega
  have key : ∃ X cur, (g ++ Lib.join ts g).foldl (cstep 44) ⟨[], [], false, false⟩ = ⟨X, cur, false, false⟩ ∧ kept (X ++ [cur]) = ts := by
    cases ts with
    | nil =>
      obtain ⟨X1, c1, e1, k1, r1⟩ := hg.2 [] []
      refine ⟨X1, c1, by rw [Lib.join_nil, List.append_nil]; exact e1, ?_⟩
      have := r1 []
      rw [List.append_nil] at this
      rw [kept_none _ _ (by rw [this]; rfl), k1]; rfl
    | cons t r =>
      obtain ⟨X, cur, e, k⟩ := fold_gaps g hg (t :: r) [] [] (fun x hx => (h x hx).1)
      exact ⟨X, cur, by rw [join_flat]; exact e, by rw [k]; rfl⟩
  have hj : (Lib.join ts g).length ≤ 600 := by
    cases ts with
    | nil => simp [Lib.join_nil]
    | cons t r =>
      have := congrArg List.length (join_flat g t r)
      rw [List.length_append] at this
      omega
  obtain ⟨X, cur, e, k⟩ := key
  obtain ⟨X1, c1, e1, k1, r1⟩ := hg.2 X cur
  have ec : cutS 44 (g ++ Lib.join ts g ++ g) = ⟨X1, c1, false, false⟩ := by
    unfold cutS; rw [List.foldl_append, e, e1]
  have hr := r1 []
  rw [List.append_nil] at hr
  have hk : kept (pieces 44 (g ++ Lib.join ts g ++ g)) = ts := by
    unfold pieces; rw [ec]; simp only
    rw [kept_none _ _ (by rw [hr]; rfl), k1, k]
  have hen : ends 44 (g ++ Lib.join ts g ++ g) = true := by unfold ends; rw [ec]; rfl
  refine ⟨?_, hj⟩
  unfold splitS
  have hgl := hg.1
  rw [if_neg (by simp; omega), if_neg (by rw [hen]; simp), hk, if_neg (by omega)]
end Go.Proofs.YthedmfbfolhaoabDoor
