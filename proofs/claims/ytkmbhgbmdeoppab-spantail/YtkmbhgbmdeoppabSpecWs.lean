/-
  Lists of wants in plain lists: printed, and read; no program is named here.
-/
import Derived.Test.YtkmbhgbmdeoppabSpecWn
import Derived.Test.YtkmbhgbmdeoppabSpecSw
import Derived.Test.YtkmbhgbmdeoppabSpecT
import Derived.Lib.Join
namespace Go.Proofs.Ytkmbhgbmdeoppab
open Go.RowKit

def bytesB : List UInt8 := [98, 121, 116, 101, 115, 61]
def prSp (l : List Wn) : List UInt8 × Int := if chkW l = 0 then (bytesB ++ Lib.join (l.map prW) [44], 0) else ([], chkW l)
theorem chkW_zero {l : List Wn} (h : chkW l = 0) : l.all okW = true ∧ 1 ≤ l.length ∧ l.length ≤ 20 := by
  unfold chkW at h
  split at h
  · cases h
  · split at h
    · cases h
    · split at h
      · cases h
      · rename_i h1 h2 h3
        exact ⟨by simpa using h1, by omega, by omega⟩
theorem chkW_of {l : List Wn} (h1 : l.all okW = true) (h2 : 1 ≤ l.length) (h3 : l.length ≤ 20) : chkW l = 0 := by
  unfold chkW
  rw [if_neg (by rw [h1]; simp), if_neg (by omega), if_neg (by omega)]
theorem chkW_two (l : List Wn) : chkW l = 0 ∨ chkW l = 1 ∨ chkW l = 2 := by
  unfold chkW
  split
  · exact .inr (.inl rfl)
  · split
    · exact .inr (.inl rfl)
    · split
      · exact .inr (.inr rfl)
      · exact .inl rfl
theorem prSp_ok {l : List Wn} (h : chkW l = 0) : prSp l = (bytesB ++ Lib.join (l.map prW) [44], 0) := by unfold prSp; rw [if_pos h]
theorem prSp_bad {l : List Wn} (h : chkW l ≠ 0) : prSp l = ([], chkW l) := by unfold prSp; rw [if_neg h]
theorem prSp_code (l : List Wn) : (prSp l).2 = chkW l := by
  by_cases h : chkW l = 0
  · rw [prSp_ok h, h]
  · rw [prSp_bad h]
/-- What stands between signs d. -/
def spl (d : UInt8) : List UInt8 → List (List UInt8)
  | [] => [[]]
  | c :: r => if c = d then [] :: spl d r else match spl d r with
    | [] => [[c]]
    | x :: xs => (c :: x) :: xs
theorem spl_form (d : UInt8) (l : List UInt8) : ∃ w ws, spl d l = w :: ws ∧ l = w ++ wordsB d ws ∧ (∀ b ∈ w, b ≠ d) ∧ ∀ x ∈ ws, ∀ b ∈ x, b ≠ d := by
  induction l with
  | nil => exact ⟨[], [], rfl, rfl, by simp, by simp⟩
  | cons c r ih =>
    obtain ⟨w, ws, h1, h2, h3, h4⟩ := ih
    rw [spl]
    by_cases hc : c = d
    · rw [if_pos hc]
      refine ⟨[], spl d r, rfl, ?_, by simp, ?_⟩
      · rw [h1, wordsB_cons, hc]
        simp [← h2]
      · intro x hx
        rw [h1] at hx
        rcases List.mem_cons.1 hx with rfl | hx
        · exact h3
        · exact h4 x hx
    · rw [if_neg hc, h1]
      refine ⟨c :: w, ws, rfl, by rw [h2]; rfl, ?_, h4⟩
      intro b hb
      rcases List.mem_cons.1 hb with rfl | hb
      · exact hc
      · exact h3 b hb
theorem spl_words (d : UInt8) (w : List UInt8) (hw : ∀ b ∈ w, b ≠ d) (ws : List (List UInt8)) (h : ∀ x ∈ ws, ∀ b ∈ x, b ≠ d) : spl d (w ++ wordsB d ws) = w :: ws := by
  induction ws generalizing w with
  | nil =>
    induction w with
    | nil => rfl
    | cons c r ih =>
      have hr := ih (fun b hb => hw b (List.mem_cons_of_mem _ hb))
      show spl d (c :: (r ++ wordsB d [])) = _
      rw [spl, if_neg (hw c (by simp)), hr]
  | cons x ws ih =>
    induction w with
    | nil =>
      rw [List.nil_append, wordsB_cons, spl, if_pos rfl, ih x (h x (by simp)) (fun y hy => h y (List.mem_cons_of_mem _ hy))]
    | cons c r ihr =>
      have hr := ihr (fun b hb => hw b (List.mem_cons_of_mem _ hb))
      show spl d (c :: (r ++ wordsB d (x :: ws))) = _
      rw [spl, if_neg (hw c (by simp)), hr]
theorem join_spl (w : List UInt8) (ws : List (List UInt8)) (d : UInt8) : Lib.join (w :: ws) [d] = w ++ wordsB d ws := by
  induction ws generalizing w with
  | nil => simp [Lib.join, wordsB]
  | cons x ws ih =>
    have e : Lib.join (w :: x :: ws) [d] = w ++ d :: Lib.join (x :: ws) [d] := by simp [Lib.join, List.intercalate]
    rw [e, ih x, wordsB_cons]
def wstep (acc : Option (List Wn)) (p : List UInt8) : Option (List Wn) :=
  match acc with
  | none => none
  | some ws => match paW p with
    | none => none
    | some w => some (ws ++ [w])
def wnE (P : List (List UInt8)) : Option (List Wn) := P.foldl wstep (some [])
def paSp (s : List UInt8) : List Wn × Int :=
  if Lib.hasPrefix s bytesB = false then ([], 3) else match wnE ((spl 44 (s.drop 6)).map trimL) with
    | none => ([], 3)
    | some ws => if 20 < ws.length then ([], 2) else (ws, 0)
theorem wstep_dead (P : List (List UInt8)) : P.foldl wstep none = none := by
  induction P with
  | nil => rfl
  | cons a P ih => rw [List.foldl_cons]; exact ih
theorem wn_snoc (P : List (List UInt8)) (p : List UInt8) : wnE (P ++ [p]) = wstep (wnE P) p := by simp [wnE]
theorem wn_take (P : List (List UInt8)) (k : Nat) (h : k < P.length) : wnE (P.take (k + 1)) = wstep (wnE (P.take k)) P[k] := by
  rw [List.take_succ_eq_append_getElem h, wn_snoc]
theorem wn_dead (P : List (List UInt8)) (k : Nat) (h : k < P.length) (hd : wstep (wnE (P.take k)) P[k] = none) : wnE P = none := by
  have e : P = P.take k ++ P[k] :: P.drop (k + 1) := by rw [← List.drop_eq_getElem_cons h, List.take_append_drop]
  rw [e]
  unfold wnE at hd ⊢
  rw [List.foldl_append, List.foldl_cons, hd, wstep_dead]
theorem wn_len : ∀ (P : List (List UInt8)) (ws : List Wn), wnE P = some ws → ws.length = P.length := by
  have gen : ∀ (P : List (List UInt8)) (a : List Wn) ws, P.foldl wstep (some a) = some ws → ws.length = a.length + P.length := by
    intro P
    induction P with
    | nil => intro a ws h; simp at h; subst h; simp
    | cons p P ih =>
      intro a ws h
      rw [List.foldl_cons] at h
      cases hu : paW p with
      | none =>
        have : wstep (some a) p = none := by unfold wstep; simp [hu]
        rw [this, wstep_dead] at h; cases h
      | some w =>
        have : wstep (some a) p = some (a ++ [w]) := by unfold wstep; simp [hu]
        rw [this] at h
        have := ih _ _ h
        rw [this]; simp; omega
  intro P ws h
  have := gen P [] ws h
  simpa using this
theorem wn_back (l : List Wn) (h : l.all okW = true) (P : List (List UInt8)) (hP : P.map trimL = l.map prW) : wnE (P.map trimL) = some l := by
  rw [hP]
  have gen : ∀ (l : List Wn) (a : List Wn), l.all okW = true → (l.map prW).foldl wstep (some a) = some (a ++ l) := by
    intro l
    induction l with
    | nil => intro a _; simp
    | cons w l ih =>
      intro a hl
      rw [List.all_cons, Bool.and_eq_true] at hl
      rw [List.map_cons, List.foldl_cons]
      have : wstep (some a) (prW w) = some (a ++ [w]) := by unfold wstep; simp [paW_back hl.1]
      rw [this, ih _ hl.2]; simp
  have := gen l [] h
  simpa [wnE] using this
theorem prW_no44 {w : Wn} : ∀ b ∈ prW w, b ≠ 44 := by
  intro b hb
  unfold prW at hb
  rcases List.mem_append.1 hb with hb | hb
  · exact sgn_no w.1 44 (by decide) b hb
  · rcases List.mem_cons.1 hb with rfl | hb
    · decide
    · exact sgn_no w.2 44 (by decide) b hb
theorem prW_no_blank {w : Wn} : ∀ b ∈ prW w, blank b = false := by
  intro b hb
  have hd : ∀ c : UInt8, isDig c = true → blank c = false := by
    intro c h
    have := byAll (fun c => !isDig c || !blank c) (by decide +kernel) c
    rw [h] at this
    simpa using this
  unfold prW at hb
  rcases List.mem_append.1 hb with hb | hb
  · exact hd b (List.all_eq_true.1 (sgn_dig w.1) b hb)
  · rcases List.mem_cons.1 hb with rfl | hb
    · decide
    · exact hd b (List.all_eq_true.1 (sgn_dig w.2) b hb)
theorem trim_prW (w : Wn) : trimL (prW w) = prW w := by
  apply trimL_stays
  · intro b hb; exact prW_no_blank b (List.mem_of_mem_head? hb)
  · intro b hb; exact prW_no_blank b (List.mem_of_mem_getLast? hb)
theorem pre_bytes (r : List UInt8) : Lib.hasPrefix (bytesB ++ r) bytesB = true := by
  unfold bytesB
  simp [Lib.hasPrefix]
theorem drop_bytes (r : List UInt8) : (bytesB ++ r).drop 6 = r := rfl
/-- What is printed is read as it was, with blanks about commas, too. -/
theorem paSp_gap (l : List Wn) (h : chkW l = 0) (P : List (List UInt8)) (hP : P.map trimL = l.map prW) (h44 : ∀ x ∈ P, ∀ b ∈ x, b ≠ 44) : paSp (bytesB ++ Lib.join P [44]) = (l, 0) := by
  obtain ⟨h1, h2, h3⟩ := chkW_zero h
  have hl : P.length = l.length := by have := congrArg List.length hP; simpa using this
  obtain ⟨w, ws, rfl⟩ : ∃ w ws, P = w :: ws := by
    cases P with
    | nil => rw [List.length_nil] at hl; omega
    | cons w ws => exact ⟨w, ws, rfl⟩
  have hs : spl 44 (Lib.join (w :: ws) [44]) = w :: ws := by
    rw [join_spl]
    exact spl_words 44 w (h44 w (by simp)) ws (fun x hx => h44 x (List.mem_cons_of_mem _ hx))
  unfold paSp
  rw [if_neg (by rw [pre_bytes]; simp), drop_bytes, hs, wn_back l h1 _ hP]
  simp only
  rw [if_neg (by omega)]
theorem paSp_back (l : List Wn) (h : chkW l = 0) : paSp (prSp l).1 = (l, 0) := by
  rw [prSp_ok h]
  refine paSp_gap l h (l.map prW) ?_ ?_
  · rw [List.map_map]
    apply List.map_congr_left
    intro w _
    exact trim_prW w
  · intro x hx
    obtain ⟨w, _, rfl⟩ := List.mem_map.1 hx
    exact prW_no44
theorem paSp_nil : paSp [] = ([], 3) := by
  unfold paSp
  rw [if_pos (by decide)]
theorem paSp_ok {s : List UInt8} {ws : List Wn} (h : paSp s = (ws, 0)) : chkW ws = 0 := by
  unfold paSp at h
  split at h
  · cases (Prod.mk.inj h).2
  · cases hq : wnE ((spl 44 (s.drop 6)).map trimL) with
    | none => rw [hq] at h; cases (Prod.mk.inj h).2
    | some us =>
      rw [hq] at h
      simp only at h
      split at h
      · cases (Prod.mk.inj h).2
      · rename_i hl
        cases (Prod.mk.inj h).1
        have hn := wn_len _ _ hq
        obtain ⟨w, rest, hs, _⟩ := spl_form 44 (s.drop 6)
        rw [hs] at hn
        refine chkW_of ?_ (by rw [hn]; simp) (by omega)
        have gen : ∀ (P : List (List UInt8)) (a ws : List Wn), a.all okW = true → P.foldl wstep (some a) = some ws → ws.all okW = true := by
          intro P
          induction P with
          | nil => intro a ws ha h; simp at h; subst h; exact ha
          | cons p P ih =>
            intro a ws ha h
            rw [List.foldl_cons] at h
            cases hu : paW p with
            | none =>
              have : wstep (some a) p = none := by unfold wstep; simp [hu]
              rw [this, wstep_dead] at h; cases h
            | some w =>
              have e : wstep (some a) p = some (a ++ [w]) := by unfold wstep; simp [hu]
              rw [e] at h
              refine ih _ _ ?_ h
              rw [List.all_append, ha, List.all_cons, (paW_some hu).1]; rfl
        exact gen _ [] _ rfl hq
end Go.Proofs.Ytkmbhgbmdeoppab
