/-
  Slices that rise, laid one behind the other, each into the last one where they meet: that is what all of them are, merged; no program is named here.
-/
import Derived.Test.YtkmbhgbmdeoppabSpecMg
namespace Go.Proofs.Ytkmbhgbmdeoppab
open Go.RowKit

def dstep (out : List Wn) (s : Wn) : List Wn :=
  if s.2 ≤ s.1 then out else match out.getLast? with
    | none => out ++ [s]
    | some t => if s.1 ≤ t.2 then out.dropLast ++ [(t.1, max t.2 s.2)] else out ++ [s]
def drun (l : List Wn) : List Wn := l.foldl dstep []
theorem drun_take (l : List Wn) (k : Nat) (h : k < l.length) : drun (l.take (k + 1)) = dstep (drun (l.take k)) l[k] := by
  unfold drun
  rw [List.take_succ_eq_append_getElem h, List.foldl_append]; rfl
theorem dstep_no {out : List Wn} {s : Wn} (h : s.2 ≤ s.1) : dstep out s = out := by unfold dstep; rw [if_pos h]
theorem dstep_nil {s : Wn} (h : ¬ s.2 ≤ s.1) : dstep [] s = [s] := by unfold dstep; rw [if_neg h]; rfl
theorem dstep_in {o : List Wn} {t s : Wn} (h : ¬ s.2 ≤ s.1) (h2 : s.1 ≤ t.2) : dstep (o ++ [t]) s = o ++ [(t.1, max t.2 s.2)] := by
  unfold dstep; rw [if_neg h]; simp [h2]
theorem dstep_on {o : List Wn} {t s : Wn} (h : ¬ s.2 ≤ s.1) (h2 : ¬ s.1 ≤ t.2) : dstep (o ++ [t]) s = o ++ [t] ++ [s] := by
  unfold dstep; rw [if_neg h]; simp [h2]
theorem dstep_len (out : List Wn) (s : Wn) : (dstep out s).length ≤ out.length + 1 := by
  by_cases h : s.2 ≤ s.1
  · rw [dstep_no h]; omega
  · rcases List.eq_nil_or_concat out with rfl | ⟨o, t, rfl⟩
    · rw [dstep_nil h]; simp
    · by_cases h2 : s.1 ≤ t.2
      · rw [List.concat_eq_append, dstep_in h h2]; simp
      · rw [List.concat_eq_append, dstep_on h h2]; simp
theorem drun_len (l : List Wn) : (drun l).length ≤ l.length := by
  have gen : ∀ (l out : List Wn), (l.foldl dstep out).length ≤ out.length + l.length := by
    intro l
    induction l with
    | nil => intro out; simp
    | cons a l ih =>
      intro out
      rw [List.foldl_cons]
      have h1 := ih (dstep out a)
      have h2 := dstep_len out a
      simp only [List.length_cons]; omega
  have := gen l []
  unfold drun
  simpa using this
theorem mem_canon_last {o : List Wn} {t : Wn} (h : canonM (o ++ [t])) : canonM o ∧ t.1 < t.2 ∧ ∀ u ∈ o, u.2 < t.1 := by
  obtain ⟨h1, h2⟩ := h
  rw [List.pairwise_append] at h2
  exact ⟨⟨fun u hu => h1 u (by simp [hu]), h2.1⟩, h1 t (by simp), fun u hu => h2.2.2 u hu t (by simp)⟩
/-- One more that rises. -/
theorem dstep_ok {out : List Wn} {s : Wn} (h : canonM out) (hr : ∀ t ∈ out, t.1 ≤ s.1) :
    canonM (dstep out s) ∧ (∀ k, insd (dstep out s) k = (insd out k || (decide (s.1 ≤ k) && decide (k < s.2)))) ∧ ∀ t ∈ dstep out s, t.1 ≤ s.1 := by
  by_cases hs : s.2 ≤ s.1
  · rw [dstep_no hs]
    refine ⟨h, fun k => ?_, hr⟩
    have : (decide (s.1 ≤ k) && decide (k < s.2)) = false := by
      by_cases h1 : s.1 ≤ k
      · simp; omega
      · simp [h1]
    rw [this, Bool.or_false]
  · rcases List.eq_nil_or_concat out with rfl | ⟨o, t, rfl⟩
    · rw [dstep_nil hs]
      refine ⟨canon_cons canon_nil (by omega) (by simp), fun k => ?_, by simp⟩
      simp [insd]
    · rw [List.concat_eq_append] at h hr ⊢
      obtain ⟨c1, c2, c3⟩ := mem_canon_last h
      have ht := hr t (by simp)
      by_cases h2 : s.1 ≤ t.2
      · rw [dstep_in hs h2]
        refine ⟨canon_snoc c1 (by simp only; omega) (fun u hu => c3 u hu), fun k => ?_, fun u hu => ?_⟩
        · rw [insd_app, insd_app]
          have e : insd [(t.1, max t.2 s.2)] k = (insd [t] k || (decide (s.1 ≤ k) && decide (k < s.2))) := by
            simp only [insd, List.any_cons, List.any_nil, Bool.or_false]
            rw [Bool.eq_iff_iff]
            simp only [Bool.or_eq_true, Bool.and_eq_true, decide_eq_true_eq]
            omega
          rw [e, Bool.or_assoc]
        · rcases List.mem_append.1 hu with hu | hu
          · exact hr u (by simp [hu])
          · simp only [List.mem_singleton] at hu; subst hu; exact ht
      · rw [dstep_on hs h2]
        refine ⟨canon_snoc h (by omega) (fun u hu => ?_), fun k => ?_, fun u hu => ?_⟩
        · rcases List.mem_append.1 hu with hu | hu
          · have := c3 u hu; omega
          · simp only [List.mem_singleton] at hu; subst hu; omega
        · rw [insd_app]; simp [insd]
        · rcases List.mem_append.1 hu with hu | hu
          · exact hr u hu
          · simp only [List.mem_singleton] at hu; subst hu; exact Int.le_refl _
theorem drun_ok (l : List Wn) (h : l.Pairwise fun a b => a.1 ≤ b.1) : canonM (drun l) ∧ ∀ k, insd (drun l) k = insd l k := by
  have gen : ∀ (l out : List Wn), canonM out → (∀ t ∈ out, ∀ s ∈ l, t.1 ≤ s.1) → (l.Pairwise fun a b => a.1 ≤ b.1) → canonM (l.foldl dstep out) ∧ ∀ k, insd (l.foldl dstep out) k = (insd out k || insd l k) := by
    intro l
    induction l with
    | nil => intro out h _ _; exact ⟨h, fun k => by simp [insd_nil]⟩
    | cons a l ih =>
      intro out hc hr hp
      rw [List.pairwise_cons] at hp
      obtain ⟨h1, h2, h3⟩ := dstep_ok (s := a) hc (fun t ht => hr t ht a (by simp))
      rw [List.foldl_cons]
      obtain ⟨g1, g2⟩ := ih (dstep out a) h1 (fun t ht s hs => Int.le_trans (h3 t ht) (hp.1 s hs)) hp.2
      exact ⟨g1, fun k => by rw [g2 k, h2 k, insd_cons, Bool.or_assoc]⟩
  obtain ⟨g1, g2⟩ := gen l [] canon_nil (by simp) h
  exact ⟨g1, fun k => by unfold drun; rw [g2 k, insd_nil, Bool.false_or]⟩
theorem insd_perm {a b : List Wn} (h : a.Perm b) (k : Int) : insd a k = insd b k := by
  unfold insd
  rw [Bool.eq_iff_iff, List.any_eq_true, List.any_eq_true]
  exact ⟨fun ⟨x, hx, e⟩ => ⟨x, h.mem_iff.1 hx, e⟩, fun ⟨x, hx, e⟩ => ⟨x, h.mem_iff.2 hx, e⟩⟩
/-- What rises is merged to what the list is merged to of which it is an order. -/
theorem drun_is {l r : List Wn} (hp : r.Perm l) (hs : r.Pairwise fun a b => a.1 ≤ b.1) : drun r = mrgL l := by
  obtain ⟨h1, h2⟩ := drun_ok r hs
  exact mrgL_is h1 (fun k => by rw [h2 k, insd_perm hp])
end Go.Proofs.Ytkmbhgbmdeoppab
