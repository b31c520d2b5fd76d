/-
  A body that was laid in chunks, read byte by byte, in plain lists; no program is named here.
-/
import Derived.Test.YtofafonppajfkaaDoorSpecCk
import Derived.Test.YtofafonppajfkaaDoorSpecEn
namespace Go.Proofs.YtofafonppajfkaaDoor
open Go.RowKit

theorem hv_hx : ∀ u : Nat, u < 16 → hv (hx u) = some u := by decide
theorem hex_run (k : Nat) : ∀ (u : Nat), u ≤ k → (hexd u).length ≤ 4 → ∀ (o r : List UInt8) (a : Nat), runD (D (.num 0 0) o) (hexd u ++ r) a = runD (D (.num (hexd u).length u) o) r (a + (hexd u).length) := by
  induction k with
  | zero =>
    intro u hu _ o r a
    obtain rfl : u = 0 := by omega
    rw [hexd_one 0 (by omega)]
    exact run_on r a (by simp only [stepD, hv_hx 0 (by omega)]; rfl) rfl
  | succ k ih =>
    intro u hu hl o r a
    by_cases h : u < 16
    · rw [hexd_one u h]
      exact run_on r a (by simp only [stepD, hv_hx u h]; simp) rfl
    · have hs := hexd_step u h
      rw [hs] at hl ⊢
      simp only [List.length_append, List.length_cons, List.length_nil] at hl
      have hlen : (hexd (u / 16) ++ [hx (u % 16)]).length = (hexd (u / 16)).length + 1 := by simp
      rw [List.append_assoc, ih (u / 16) (by omega) (by omega), hlen]
      refine (run_on (y := D (.num ((hexd (u / 16)).length + 1) u) o) r _ ?_ rfl).trans ?_
      · simp only [stepD, hv_hx (u % 16) (by omega)]
        rw [if_pos (by omega), show u / 16 * 16 + u % 16 = u by omega]
      · rw [Nat.add_assoc]
theorem end_run (o rest : List UInt8) (a : Nat) (ho : o.length ≤ 5000) :
    (runD (D (.num 0 0) o) (endC ++ rest) a).1 = 0 ∧ (runD (D (.num 0 0) o) (endC ++ rest) a).2.2.done = true ∧ (runD (D (.num 0 0) o) (endC ++ rest) a).2.2.body = o ∧ (runD (D (.num 0 0) o) (endC ++ rest) a).2.1 = a + 5 := by
  have e : runD (D (.num 0 0) o) (endC ++ rest) a = runD (D (.fld 0) o) (13 :: 10 :: rest) (a + 3) := by
    show runD (D (.num 0 0) o) (48 :: 13 :: 10 :: 13 :: 10 :: rest) a = _
    rw [run_on (y := D (.num 1 0) o) _ a (by simp only [stepD, show hv 48 = some 0 by decide]; rfl) rfl, run_num13 o _ _ (by omega), run_endn]
    unfold aft
    rw [if_neg (by omega), if_pos rfl]
  have hp : parS ([] ++ 13 :: 10 :: rest) [] = ([], rest, 0) := by
    rw [List.nil_append, par_end _ _ (by rw [ix0, if_pos (by simp)])]; rfl
  obtain ⟨f1, _, _⟩ := fld_run (13 :: 10 :: rest) [] o 0 (a + 3) finv_nil
  obtain ⟨g1, g2, g3, g4⟩ := f1 (by rw [hp])
  rw [hp] at g4
  rw [e]
  refine ⟨g1, g2, g3, ?_⟩
  have g5 : (runD (D (.fld 0) o) (13 :: 10 :: rest) (a + 3)).2.1 + rest.length = a + 3 + (13 :: 10 :: rest : List UInt8).length := g4
  simp only [List.length_cons] at g5
  omega
theorem enc_run (n : Nat) (rest : List UInt8) (k : Nat) : ∀ (l o : List UInt8) (a : Nat), l.length ≤ k → o.length + l.length ≤ 5000 →
    (runD (D (.num 0 0) o) (encS n l ++ rest) a).1 = 0 ∧ (runD (D (.num 0 0) o) (encS n l ++ rest) a).2.2.done = true ∧ (runD (D (.num 0 0) o) (encS n l ++ rest) a).2.2.body = o ++ l ∧ (runD (D (.num 0 0) o) (encS n l ++ rest) a).2.1 = a + (encS n l).length := by
  induction k with
  | zero =>
    intro l o a hl ho
    obtain rfl := List.eq_nil_of_length_eq_zero (Nat.le_zero.1 hl)
    rw [encS_nil n [] rfl, List.append_nil]
    exact end_run o rest a (by omega)
  | succ k ih =>
    intro l o a hl ho
    by_cases h0 : l.length = 0
    · obtain rfl := List.eq_nil_of_length_eq_zero h0
      rw [encS_nil n [] rfl, List.append_nil]
      exact end_run o rest a (by omega)
    · have hm : ∃ m, m = min (n + 1) l.length := ⟨_, rfl⟩
      obtain ⟨m, hm⟩ := hm
      have hml : m ≤ l.length := by omega
      have hm0 : m ≠ 0 := by omega
      have hx4 := hexd_len m (by omega)
      have hx1 := hexd_pos m
      have htk : (l.take m).length = m := by rw [List.length_take]; omega
      have hi := ih (l.drop m) (o ++ l.take m) (a + (hexd m).length + 2 + m + 2) (by rw [List.length_drop]; omega) (by rw [List.length_append, htk, List.length_drop]; omega)
      have e : runD (D (.num 0 0) o) (encS n l ++ rest) a = runD (D (.num 0 0) (o ++ l.take m)) (encS n (l.drop m) ++ rest) (a + (hexd m).length + 2 + m + 2) := by
        rw [encS_step n l h0 m hm, List.append_assoc, hex_run m m (Nat.le_refl _) hx4]
        show runD _ (13 :: 10 :: ((l.take m ++ ([13, 10] ++ encS n (l.drop m))) ++ rest)) _ = _
        rw [run_num13 o _ _ (by omega), run_endn]
        unfold aft
        rw [if_neg (by omega), if_neg hm0]
        have := byt_run (l.take m) o (13 :: 10 :: (encS n (l.drop m) ++ rest)) (a + (hexd m).length + 1 + 1) (by omega)
        rw [htk] at this
        rw [show (l.take m ++ ([13, 10] ++ encS n (l.drop m))) ++ rest = l.take m ++ (13 :: 10 :: (encS n (l.drop m) ++ rest)) by simp, this, run_crlf]
      rw [e]
      obtain ⟨h1, h2, h3, h4⟩ := hi
      refine ⟨h1, h2, ?_, ?_⟩
      · rw [h3, List.append_assoc, List.take_append_drop]
      · rw [h4, encS_step n l h0 m hm]
        simp only [List.length_append, htk, List.length_cons, List.length_nil]
        omega
end Go.Proofs.YtofafonppajfkaaDoor
