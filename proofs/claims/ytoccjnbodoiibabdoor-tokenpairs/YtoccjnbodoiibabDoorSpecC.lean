/-
  Plain lemmas: what is read between two signs, put together again with such signs, is cut at the same places; a quoted text is never cut; no program is named here.
-/
import Derived.Test.YtoccjnbodoiibabDoorSpecT
import Derived.Lib.Join
namespace Go.Proofs.YtoccjnbodoiibabDoor
open Go.RowKit

/-- Where one stands behind a text, if no sign that counts was met. -/
def run (sep : UInt8) : Bool × Bool → List UInt8 → Option (Bool × Bool)
  | st, [] => some st
  | st, c :: l => if c = sep ∧ st.1 = false then none else
      run sep (if st.2 = true then st.1 else if c = 34 then !st.1 else st.1, if st.2 = true then false else if c = 34 then false else if c = 92 then st.1 else false) l
def closed (sep : UInt8) (r : List UInt8) : Prop := run sep (false, false) r = some (false, false)

theorem run_cons (sep : UInt8) (st : Bool × Bool) (c : UInt8) (l : List UInt8) : run sep st (c :: l) = if c = sep ∧ st.1 = false then none else
      run sep (if st.2 = true then st.1 else if c = 34 then !st.1 else st.1, if st.2 = true then false else if c = 34 then false else if c = 92 then st.1 else false) l := rfl
theorem run_app (sep : UInt8) (a b : List UInt8) : ∀ st, run sep st (a ++ b) = (run sep st a).bind (fun x => run sep x b) := by
  induction a with
  | nil => intro st; rfl
  | cons c a ih =>
    intro st
    rw [List.cons_append, run_cons, run_cons]
    split
    · rfl
    · exact ih _

theorem run_fold (sep : UInt8) (r : List UInt8) : ∀ (X : List (List UInt8)) (cur : List UInt8) (q cn q' cn' : Bool), run sep (q, cn) r = some (q', cn') → r.foldl (cstep sep) ⟨X, cur, q, cn⟩ = ⟨X, cur ++ r, q', cn'⟩ := by
  induction r with
  | nil => intro X cur q cn q' cn' h; simp [run] at h; obtain ⟨rfl, rfl⟩ := h; simp
  | cons c r ih =>
    intro X cur q cn q' cn' h
    unfold run at h
    split at h
    · cases h
    · rename_i hs
      rw [List.foldl_cons]
      have e : cstep sep ⟨X, cur, q, cn⟩ c = ⟨X, cur ++ [c], if cn = true then q else if c = 34 then !q else q, if cn = true then false else if c = 34 then false else if c = 92 then q else false⟩ := by
        unfold cstep; rw [if_neg hs]
      rw [e, ih X (cur ++ [c]) _ _ q' cn' h]
      simp

theorem pieces_closed (sep : UInt8) (l : List UInt8) (h : ends sep l = true) : ∀ p ∈ pieces sep l, closed sep p := by
  have gen : ∀ (l : List UInt8) (x : Cut), (∀ p ∈ x.ps, closed sep p) → run sep (false, false) x.cur = some (x.q, x.cn) → (x.cn = true → x.q = true) →
      (∀ p ∈ (l.foldl (cstep sep) x).ps, closed sep p) ∧ run sep (false, false) (l.foldl (cstep sep) x).cur = some ((l.foldl (cstep sep) x).q, (l.foldl (cstep sep) x).cn) ∧ ((l.foldl (cstep sep) x).cn = true → (l.foldl (cstep sep) x).q = true) := by
    intro l
    induction l with
    | nil => intro x h1 h2 h3; exact ⟨h1, h2, h3⟩
    | cons c l ih =>
      intro x h1 h2 h3
      rw [List.foldl_cons]
      apply ih
      · unfold cstep
        split
        · rename_i hs
          intro p hp
          simp only [List.mem_append, List.mem_singleton] at hp
          rcases hp with hp | rfl
          · exact h1 p hp
          · have hcn : x.cn = false := by
              cases hc : x.cn
              · rfl
              · have := h3 hc; rw [hs.2] at this; cases this
            unfold closed
            rw [h2, hs.2, hcn]
        · exact h1
      · unfold cstep
        split
        · rename_i hs
          have hcn : x.cn = false := by
            cases hc : x.cn
            · rfl
            · have := h3 hc; rw [hs.2] at this; cases this
          simp [run, hs.2, hcn]
        · rename_i hs
          simp only
          rw [run_app, h2]
          simp only [Option.bind_some]
          unfold run
          rw [if_neg hs]
          rfl
      · unfold cstep
        split
        · rename_i hs
          intro hc
          have := h3 hc
          rw [hs.2] at this; cases this
        · simp only
          cases hc : x.cn
          · simp only [Bool.false_eq_true, if_false]
            intro h
            by_cases h34 : c = 34
            · simp [h34] at h
            · by_cases h92 : c = 92
              · simp only [h92, if_true] at h ⊢
                simpa using h
              · simp [h34, h92] at h
          · simp
  have hg := gen l ⟨[], [], false, false⟩ (fun p hp => by cases hp) rfl (fun h => by cases h)
  unfold ends at h
  intro p hp
  unfold pieces at hp
  simp only [List.mem_append, List.mem_singleton] at hp
  have hq : (cutS sep l).q = false := by simpa using h
  have hcn : (cutS sep l).cn = false := by
    cases hc : (cutS sep l).cn
    · rfl
    · have := hg.2.2 hc
      exact absurd (hq.symm.trans this) (by simp)
  rcases hp with hp | rfl
  · exact hg.1 p hp
  · unfold closed
    have := hg.2.1
    unfold cutS at hq hcn ⊢
    rw [this, hq, hcn]

theorem run_cn (sep : UInt8) (r : List UInt8) : ∀ (st : Bool × Bool) (q cn : Bool), (st.2 = true → st.1 = true) → run sep st r = some (q, cn) → cn = true → q = true := by
  induction r with
  | nil => intro st q cn h hr; simp [run] at hr; rw [hr] at h; exact h
  | cons c r ih =>
    intro st q cn h hr
    unfold run at hr
    split at hr
    · cases hr
    · refine ih _ q cn ?_ hr
      simp only
      cases hc : st.2
      · simp only [Bool.false_eq_true, if_false]
        intro h'
        by_cases h34 : c = 34
        · simp [h34] at h'
        · by_cases h92 : c = 92
          · simp only [h92, if_true] at h' ⊢
            simpa using h'
          · simp [h34, h92] at h'
      · simp
theorem run_cnq (sep : UInt8) (r : List UInt8) (q cn : Bool) (h : run sep (false, false) r = some (q, cn)) : cn = true → q = true := run_cn sep r (false, false) q cn (fun h => by cases h) h

theorem blank_ne (b : UInt8) (h : blank b = true) : b ≠ 34 ∧ b ≠ 92 := by
  unfold blank at h
  simp at h
  rcases h with rfl | rfl <;> exact ⟨by decide, by decide⟩

theorem closed_first (sep : UInt8) (b : UInt8) (r : List UInt8) (hb : blank b = true) (h : closed sep (b :: r)) : closed sep r := by
  obtain ⟨h1, h2⟩ := blank_ne b hb
  unfold closed at h ⊢
  unfold run at h
  split at h
  · cases h
  · simpa [h1, h2] using h
theorem closed_last (sep : UInt8) (b : UInt8) (r : List UInt8) (hb : blank b = true) (h : closed sep (r ++ [b])) : closed sep r := by
  obtain ⟨h1, h2⟩ := blank_ne b hb
  unfold closed at h ⊢
  rw [run_app] at h
  cases hr : run sep (false, false) r with
  | none => rw [hr] at h; cases h
  | some st =>
    rw [hr] at h
    obtain ⟨q, cn⟩ := st
    simp only [Option.bind_some, run, h1, h2, if_false] at h
    split at h
    · cases h
    · have hcnq : cn = true → q = true := run_cnq sep r q cn hr
      cases cn
      · simp at h; rw [h]
      · have := hcnq rfl
        subst this
        simp at h
theorem drop_closed (sep : UInt8) : ∀ (r : List UInt8), closed sep r → closed sep (r.dropWhile blank)
  | [], h => h
  | b :: r, h => by
    rw [List.dropWhile_cons]
    split
    · rename_i hb
      exact drop_closed sep r (closed_first sep b r hb h)
    · exact h
theorem dropr_closed (sep : UInt8) : ∀ (r : List UInt8), closed sep r.reverse → closed sep (r.dropWhile blank).reverse
  | [], h => h
  | b :: r, h => by
    rw [List.dropWhile_cons]
    split
    · rename_i hb
      rw [List.reverse_cons] at h
      exact dropr_closed sep r (closed_last sep b _ hb h)
    · exact h
theorem trim_closed (sep : UInt8) (r : List UInt8) (h : closed sep r) : closed sep (trimL r) := by
  rw [trimL_eq]
  apply drop_closed
  apply dropr_closed
  rw [List.reverse_reverse]
  exact h

/-- Texts with the sign between them. -/
theorem join_fold (sep : UInt8) : ∀ (ps : List (List UInt8)) (p : List UInt8) (X : List (List UInt8)), (∀ r ∈ p :: ps, closed sep r) →
    (Lib.join (p :: ps) [sep]).foldl (cstep sep) ⟨X, [], false, false⟩ = ⟨X ++ (p :: ps).dropLast, (p :: ps).getLast (by simp), false, false⟩
  | [], p, X, h => by
    have hj : Lib.join [p] [sep] = p := Lib.join_one p [sep]
    rw [hj, run_fold sep p X [] false false false false (h p (by simp))]
    simp
  | q :: ps, p, X, h => by
    have hj : Lib.join (p :: q :: ps) [sep] = p ++ (sep :: Lib.join (q :: ps) [sep]) := by
      rw [Lib.join_cons, Lib.join_cons]; simp [Lib.joinTail]
    rw [hj, List.foldl_append, run_fold sep p X [] false false false false (h p (by simp)), List.foldl_cons]
    have e : cstep sep ⟨X, [] ++ p, false, false⟩ sep = ⟨X ++ [p], [], false, false⟩ := by simp [cstep]
    rw [e, join_fold sep ps q (X ++ [p]) (fun r hr => h r (by simp at hr ⊢; rcases hr with hr | hr <;> simp [hr]))]
    simp

theorem pieces_join (sep : UInt8) (p : List UInt8) (ps : List (List UInt8)) (h : ∀ r ∈ p :: ps, closed sep r) : pieces sep (Lib.join (p :: ps) [sep]) = p :: ps ∧ ends sep (Lib.join (p :: ps) [sep]) = true := by
  have e : cutS sep (Lib.join (p :: ps) [sep]) = ⟨[] ++ (p :: ps).dropLast, (p :: ps).getLast (by simp), false, false⟩ := join_fold sep ps p [] h
  refine ⟨?_, by unfold ends; rw [e]; rfl⟩
  unfold pieces
  rw [e]
  simp only [List.nil_append]
  exact List.dropLast_concat_getLast (by simp)

def tot (ps : List (List UInt8)) : Nat := (ps.map fun p => p.length + 1).sum
theorem tot_app (a b : List (List UInt8)) : tot (a ++ b) = tot a + tot b := by simp [tot]
theorem tot_one (a : List UInt8) : tot [a] = a.length + 1 := by simp [tot]
theorem pieces_tot (sep : UInt8) (l : List UInt8) : tot (pieces sep l) = l.length + 1 := by
  have gen : ∀ (l : List UInt8) (x : Cut), tot (l.foldl (cstep sep) x).ps + (l.foldl (cstep sep) x).cur.length = tot x.ps + x.cur.length + l.length := by
    intro l
    induction l with
    | nil => intro x; simp
    | cons c l ih =>
      intro x
      rw [List.foldl_cons, ih, List.length_cons]
      have : tot (cstep sep x c).ps + (cstep sep x c).cur.length = tot x.ps + x.cur.length + 1 := by
        unfold cstep
        split
        · simp only [tot_app, tot_one, List.length_nil]; omega
        · simp; omega
      omega
  have h := gen l ⟨[], [], false, false⟩
  unfold pieces
  rw [tot_app, tot_one]
  have h0 : tot ([] : List (List UInt8)) = 0 := rfl
  simp only [h0, List.length_nil] at h
  unfold cutS
  omega
theorem tot_filter (f : List UInt8 → Bool) (ps : List (List UInt8)) : tot (ps.filter f) ≤ tot ps := by
  induction ps with
  | nil => simp [tot]
  | cons p ps ih =>
    have e : tot (p :: ps) = p.length + 1 + tot ps := by simp [tot]
    rw [List.filter_cons]
    split
    · have e2 : tot (p :: ps.filter f) = p.length + 1 + tot (ps.filter f) := by simp [tot]
      omega
    · omega
theorem tot_trim (ps : List (List UInt8)) : tot (ps.map trimL) ≤ tot ps := by
  induction ps with
  | nil => simp [tot]
  | cons p ps ih =>
    have e : tot (p :: ps) = p.length + 1 + tot ps := by simp [tot]
    have e2 : tot ((p :: ps).map trimL) = (trimL p).length + 1 + tot (ps.map trimL) := by simp [tot]
    have := trimL_len p
    omega
theorem tot_join (sep : UInt8) : ∀ (ps : List (List UInt8)) (p : List UInt8), (Lib.join (p :: ps) [sep]).length + 1 = tot (p :: ps)
  | [], p => by rw [Lib.join_one]; simp [tot]
  | q :: ps, p => by
    have hj : Lib.join (p :: q :: ps) [sep] = p ++ (sep :: Lib.join (q :: ps) [sep]) := by rw [Lib.join_cons, Lib.join_cons]; simp [Lib.joinTail]
    have ih := tot_join sep ps q
    have e : tot (p :: q :: ps) = p.length + 1 + tot (q :: ps) := by simp [tot]
    rw [hj, List.length_append, List.length_cons]
    omega

/-- A quoted text is closed. -/
theorem run_esc (sep : UInt8) (l : List UInt8) : run sep (true, false) (esc l) = some (true, false) := by
  induction l with
  | nil => rfl
  | cons c l ih =>
    have e : esc (c :: l) = esc1 c ++ esc l := by simp [esc]
    rw [e, run_app]
    have : run sep (true, false) (esc1 c) = some (true, false) := by
      unfold esc1
      split
      · simp [run]
      · rename_i hc
        have h1 : c ≠ 34 := fun e => hc (.inl e)
        have h2 : c ≠ 92 := fun e => hc (.inr e)
        simp [run, h1, h2]
    rw [this]
    exact ih
theorem closed_quoted (sep : UInt8) (h34 : sep ≠ 34) (l : List UInt8) : closed sep (34 :: (esc l ++ [34])) := by
  unfold closed
  have e : run sep (false, false) (34 :: (esc l ++ [34])) = run sep (true, false) (esc l ++ [34]) := by
    conv => lhs; unfold run
    rw [if_neg (fun h => h34 h.1.symm)]
    simp
  rw [e, run_app, run_esc sep]
  simp [run]
theorem trimL_quoted (m : List UInt8) : trimL (34 :: (m ++ [34])) = 34 :: (m ++ [34]) := by
  apply trimL_stays
  · intro b hb; simp at hb; subst hb; rfl
  · intro b hb
    rw [show (34 :: (m ++ [34])) = (34 :: m) ++ [34] from rfl, List.getLast?_append] at hb
    simp at hb; subst hb; rfl
end Go.Proofs.YtoccjnbodoiibabDoor
