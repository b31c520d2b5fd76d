/-
  Slices of a body: those that have the same bytes, merged; no program is named here.
-/
import Derived.Test.YtkmbhgbmdeoppabSpecWn
namespace Go.Proofs.Ytkmbhgbmdeoppab
open Go.RowKit

/-- Has one of the slices a byte? -/
def insd (l : List Wn) (k : Int) : Bool := l.any fun s => decide (s.1 ≤ k) && decide (k < s.2)
/-- Slices with bytes, that rise, with gaps between them. -/
def canonM (l : List Wn) : Prop := (∀ s ∈ l, s.1 < s.2) ∧ l.Pairwise fun a b => a.2 < b.1
theorem insd_nil (k : Int) : insd [] k = false := rfl
theorem insd_cons (s : Wn) (l : List Wn) (k : Int) : insd (s :: l) k = ((decide (s.1 ≤ k) && decide (k < s.2)) || insd l k) := by simp [insd]
theorem insd_app (a b : List Wn) (k : Int) : insd (a ++ b) k = (insd a k || insd b k) := by simp [insd]
theorem insd_iff (l : List Wn) (k : Int) : insd l k = true ↔ ∃ s ∈ l, s.1 ≤ k ∧ k < s.2 := by
  unfold insd
  rw [List.any_eq_true]
  constructor
  · rintro ⟨s, h, h2⟩
    exact ⟨s, h, by simpa using h2⟩
  · rintro ⟨s, h, h2⟩
    exact ⟨s, h, by simpa using h2⟩
theorem insd_no (l : List Wn) (k : Int) (h : ∀ s ∈ l, ¬ (s.1 ≤ k ∧ k < s.2)) : insd l k = false := by
  cases hq : insd l k
  · rfl
  · obtain ⟨s, hs, h2⟩ := (insd_iff l k).1 hq
    exact absurd h2 (h s hs)
theorem canon_nil : canonM [] := ⟨by simp, .nil⟩
theorem canon_tail {s : Wn} {l : List Wn} (h : canonM (s :: l)) : canonM l ∧ s.1 < s.2 ∧ ∀ t ∈ l, s.2 < t.1 := by
  obtain ⟨h1, h2⟩ := h
  rw [List.pairwise_cons] at h2
  exact ⟨⟨fun t ht => h1 t (List.mem_cons_of_mem _ ht), h2.2⟩, h1 s (by simp), h2.1⟩
theorem canon_cons {s : Wn} {l : List Wn} (h : canonM l) (h1 : s.1 < s.2) (h2 : ∀ t ∈ l, s.2 < t.1) : canonM (s :: l) := by
  refine ⟨fun t ht => ?_, List.pairwise_cons.2 ⟨h2, h.2⟩⟩
  rcases List.mem_cons.1 ht with rfl | ht
  · exact h1
  · exact h.1 t ht
/-- Those that rise with gaps are known by their bytes. -/
theorem canon_one : ∀ (a b : List Wn), canonM a → canonM b → (∀ k, insd a k = insd b k) → a = b := by
  intro a
  induction a with
  | nil =>
    intro b _ hb h
    cases b with
    | nil => rfl
    | cons t b =>
      obtain ⟨_, h1, _⟩ := canon_tail hb
      have := h t.1
      rw [insd_nil, insd_cons, decide_eq_true (Int.le_refl _), decide_eq_true h1] at this
      simp at this
  | cons s a ih =>
    intro b ha hb h
    obtain ⟨ha1, ha2, ha3⟩ := canon_tail ha
    cases b with
    | nil =>
      have := h s.1
      rw [insd_nil, insd_cons, decide_eq_true (Int.le_refl _), decide_eq_true ha2] at this
      simp at this
    | cons t b =>
      obtain ⟨hb1, hb2, hb3⟩ := canon_tail hb
      have low : ∀ (u : Wn) (l : List Wn), (∀ x ∈ l, u.2 < x.1) → u.1 < u.2 → ∀ k, k < u.1 → insd (u :: l) k = false := by
        intro u l hl hu k hk
        apply insd_no
        intro x hx
        rcases List.mem_cons.1 hx with rfl | hx
        · omega
        · have := hl x hx; omega
      have end_ : ∀ (u : Wn) (l : List Wn), (∀ x ∈ l, u.2 < x.1) → insd (u :: l) u.2 = false := by
        intro u l hl
        apply insd_no
        intro x hx
        rcases List.mem_cons.1 hx with rfl | hx
        · omega
        · have := hl x hx; omega
      have in_ : ∀ (u : Wn) (l : List Wn) (k : Int), u.1 ≤ k → k < u.2 → insd (u :: l) k = true := by
        intro u l k h1 h2
        rw [insd_cons, decide_eq_true h1, decide_eq_true h2]; rfl
      have e1 : s.1 = t.1 := by
        rcases Int.lt_trichotomy s.1 t.1 with hlt | heq | hgt
        · have := h s.1
          rw [in_ s a s.1 (Int.le_refl _) ha2, low t b hb3 hb2 _ hlt] at this; cases this
        · exact heq
        · have := h t.1
          rw [in_ t b t.1 (Int.le_refl _) hb2, low s a ha3 ha2 _ hgt] at this; cases this
      have e2 : s.2 = t.2 := by
        rcases Int.lt_trichotomy s.2 t.2 with hlt | heq | hgt
        · have := h s.2
          rw [end_ s a ha3, in_ t b s.2 (by omega) hlt] at this; cases this
        · exact heq
        · have := h t.2
          rw [end_ t b hb3, in_ s a t.2 (by omega) hgt] at this; cases this
      have e : s = t := Prod.ext e1 e2
      subst e
      rw [ih b ha1 hb1 (fun k => ?_)]
      have hk := h k
      rw [insd_cons, insd_cons] at hk
      by_cases hq : s.1 ≤ k ∧ k < s.2
      · rw [insd_no a k (fun x hx => by have := ha3 x hx; omega), insd_no b k (fun x hx => by have := hb3 x hx; omega)]
      · have : (decide (s.1 ≤ k) && decide (k < s.2)) = false := by
          rw [← Bool.decide_and, decide_eq_false hq]
        rw [this] at hk
        simpa using hk
/-- One slice laid into those that are there, as the document's answer does. -/
structure M3 where
  s : Wn
  ah : List Wn
  be : List Wn
def mstep (x : M3) (t : Wn) : M3 :=
  if t.2 < x.s.1 then ⟨x.s, x.ah ++ [t], x.be⟩ else if x.s.2 < t.1 then ⟨x.s, x.ah, x.be ++ [t]⟩ else ⟨(min x.s.1 t.1, max x.s.2 t.2), x.ah, x.be⟩
def mrun (s : Wn) (out : List Wn) : M3 := out.foldl mstep ⟨s, [], []⟩
def mone (out : List Wn) (s : Wn) : List Wn := if s.2 ≤ s.1 then out else (mrun s out).ah ++ [(mrun s out).s] ++ (mrun s out).be
def mrgL (l : List Wn) : List Wn := l.foldl mone []
theorem mrun_snoc (s : Wn) (out : List Wn) (t : Wn) : mrun s (out ++ [t]) = mstep (mrun s out) t := by simp [mrun]
theorem mrun_take (s : Wn) (out : List Wn) (k : Nat) (h : k < out.length) : mrun s (out.take (k + 1)) = mstep (mrun s (out.take k)) out[k] := by
  rw [List.take_succ_eq_append_getElem h, mrun_snoc]
theorem mrgL_snoc (l : List Wn) (s : Wn) : mrgL (l ++ [s]) = mone (mrgL l) s := by simp [mrgL]
theorem mrgL_take (l : List Wn) (k : Nat) (h : k < l.length) : mrgL (l.take (k + 1)) = mone (mrgL (l.take k)) l[k] := by
  rw [List.take_succ_eq_append_getElem h, mrgL_snoc]
/-- What holds while one is laid. -/
structure MI (s0 : Wn) (out : List Wn) (x : M3) : Prop where
  big : x.s.1 < x.s.2
  ah1 : canonM x.ah
  ah2 : ∀ t ∈ x.ah, t.2 < x.s.1
  be1 : canonM x.be
  be2 : ∀ t ∈ x.be, x.s.2 < t.1
  len : x.ah.length + x.be.length ≤ out.length
  bytes : ∀ k, (insd (x.ah ++ x.s :: x.be) k) = (insd out k || (decide (s0.1 ≤ k) && decide (k < s0.2)))
  lastA : ∀ t ∈ x.ah, t ∈ out
  lastB : ∀ t ∈ x.be, t ∈ out
  ends : x.s.2 = s0.2 ∨ ∃ t ∈ out, x.s.2 = t.2
theorem canon_snoc {l : List Wn} {t : Wn} (h : canonM l) (h1 : t.1 < t.2) (h2 : ∀ u ∈ l, u.2 < t.1) : canonM (l ++ [t]) := by
  refine ⟨fun u hu => ?_, ?_⟩
  · rcases List.mem_append.1 hu with hu | hu
    · exact h.1 u hu
    · rw [List.mem_singleton.1 hu]; exact h1
  · rw [List.pairwise_append]
    refine ⟨h.2, List.pairwise_singleton _ _, fun a ha b hb => ?_⟩
    rw [List.mem_singleton.1 hb]; exact h2 a ha
theorem bor1 : ∀ {A X B Q S T : Bool}, (A || (X || B)) = (Q || S) → ((A || T) || (X || B)) = ((Q || T) || S) := by decide
theorem bor2 : ∀ {A X B Q S T : Bool}, (A || (X || B)) = (Q || S) → (A || (X || (B || T))) = ((Q || T) || S) := by decide
theorem bor3 : ∀ {A X B Q S T : Bool}, (A || (X || B)) = (Q || S) → (A || ((X || T) || B)) = ((Q || T) || S) := by decide
theorem mrun_ok (s : Wn) (hs : s.1 < s.2) : ∀ (out : List Wn), canonM out → MI s out (mrun s out) := by
  intro out
  induction hn : out.length generalizing out with
  | zero =>
    intro _
    obtain rfl := List.eq_nil_of_length_eq_zero hn
    refine ⟨hs, canon_nil, by simp [mrun], canon_nil, by simp [mrun], by simp [mrun], fun k => ?_, by simp [mrun], by simp [mrun], .inl rfl⟩
    show insd ([] ++ s :: []) k = _
    rw [List.nil_append, insd_cons, insd_nil, Bool.or_false, Bool.false_or]
  | succ n ih =>
    intro hc
    rcases List.eq_nil_or_concat out with h | ⟨q, t, h⟩
    · rw [h] at hn; simp at hn
    · rw [List.concat_eq_append] at h
      subst h
      have hq : canonM q := ⟨fun u hu => hc.1 u (List.mem_append_left _ hu), (List.pairwise_append.1 hc.2).1⟩
      have ht : t.1 < t.2 := hc.1 t (by simp)
      have hqt : ∀ u ∈ q, u.2 < t.1 := fun u hu => (List.pairwise_append.1 hc.2).2.2 u hu t (by simp)
      obtain ⟨b, a1, a2, b1, b2, ln, by_, la, lb, en⟩ := ih q (by simpa using hn) hq
      rw [mrun_snoc]
      generalize mrun s q = x at *
      have hbk : ∀ k, insd (q ++ [t]) k = (insd q k || (decide (t.1 ≤ k) && decide (k < t.2))) := by
        intro k; rw [insd_app, insd_cons, insd_nil, Bool.or_false]
      unfold mstep
      split
      · rename_i h1
        refine ⟨b, canon_snoc a1 ht (fun u hu => hqt u (la u hu)), ?_, b1, b2, ?_, fun k => ?_, ?_, ?_, ?_⟩
        · intro u hu
          rcases List.mem_append.1 hu with hu | hu
          · exact a2 u hu
          · rw [List.mem_singleton.1 hu]; exact h1
        · simp only [List.length_append, List.length_singleton]; omega
        · have := by_ k
          rw [insd_app, insd_cons] at this
          rw [hbk, insd_app, insd_app, insd_cons, insd_cons, insd_nil, Bool.or_false]
          exact bor1 this
        · intro u hu
          rcases List.mem_append.1 hu with hu | hu
          · exact List.mem_append_left _ (la u hu)
          · exact List.mem_append_right _ hu
        · intro u hu; exact List.mem_append_left _ (lb u hu)
        · rcases en with en | ⟨u, hu, en⟩
          · exact .inl en
          · exact .inr ⟨u, List.mem_append_left _ hu, en⟩
      · split
        · rename_i h1 h2
          refine ⟨b, a1, a2, canon_snoc b1 ht (fun u hu => hqt u (lb u hu)), ?_, ?_, fun k => ?_, ?_, ?_, ?_⟩
          · intro u hu
            rcases List.mem_append.1 hu with hu | hu
            · exact b2 u hu
            · rw [List.mem_singleton.1 hu]; exact h2
          · simp only [List.length_append, List.length_singleton]; omega
          · have := by_ k
            rw [insd_app, insd_cons] at this
            rw [hbk, insd_app, insd_cons, insd_app, insd_cons, insd_nil, Bool.or_false]
            exact bor2 this
          · intro u hu; exact List.mem_append_left _ (la u hu)
          · intro u hu
            rcases List.mem_append.1 hu with hu | hu
            · exact List.mem_append_left _ (lb u hu)
            · exact List.mem_append_right _ hu
          · rcases en with en | ⟨u, hu, en⟩
            · exact .inl en
            · exact .inr ⟨u, List.mem_append_left _ hu, en⟩
        · rename_i h1 h2
          have hbe : x.be = [] := by
            cases hx : x.be with
            | nil => rfl
            | cons u r =>
              have h3 := b2 u (by rw [hx]; simp)
              have h4 := hqt u (lb u (by rw [hx]; simp))
              have h5 := b1.1 u (by rw [hx]; simp)
              omega
          refine ⟨by simp only; omega, a1, ?_, b1, ?_, ?_, fun k => ?_, ?_, ?_, ?_⟩
          · intro u hu
            have h3 := a2 u hu
            have h4 := hqt u (la u hu)
            simp only; omega
          · rw [hbe]; simp
          · simp only [List.length_append, List.length_singleton]; omega
          · have := by_ k
            rw [insd_app, insd_cons] at this
            rw [hbk, insd_app, insd_cons]
            have e : (decide (min x.s.1 t.1 ≤ k) && decide (k < max x.s.2 t.2)) = ((decide (x.s.1 ≤ k) && decide (k < x.s.2)) || (decide (t.1 ≤ k) && decide (k < t.2))) := by
              rw [Bool.eq_iff_iff]
              simp only [Bool.and_eq_true, Bool.or_eq_true, decide_eq_true_eq]
              omega
            simp only [e]
            exact bor3 this
          · intro u hu; exact List.mem_append_left _ (la u hu)
          · intro u hu; exact List.mem_append_left _ (lb u hu)
          · simp only
            rcases Int.le_total x.s.2 t.2 with hle | hle
            · exact .inr ⟨t, by simp, by omega⟩
            · rw [Int.max_eq_left hle]
              rcases en with en | ⟨u, hu, en⟩
              · exact .inl en
              · exact .inr ⟨u, List.mem_append_left _ hu, en⟩
theorem mone_ok {out : List Wn} (h : canonM out) (s : Wn) : canonM (mone out s) ∧ (mone out s).length ≤ out.length + 1 ∧ ∀ k, insd (mone out s) k = (insd out k || (decide (s.1 ≤ k) && decide (k < s.2))) := by
  unfold mone
  split
  · rename_i hs
    refine ⟨h, by omega, fun k => ?_⟩
    have : (decide (s.1 ≤ k) && decide (k < s.2)) = false := by
      rw [← Bool.decide_and, decide_eq_false (by omega)]
    rw [this, Bool.or_false]
  · rename_i hs
    obtain ⟨b, a1, a2, b1, b2, ln, by_, la, lb, en⟩ := mrun_ok s (by omega) out h
    refine ⟨?_, ?_, fun k => ?_⟩
    · refine ⟨fun t ht => ?_, ?_⟩
      · rcases List.mem_append.1 ht with ht | ht
        · rcases List.mem_append.1 ht with ht | ht
          · exact a1.1 t ht
          · rw [List.mem_singleton.1 ht]; exact b
        · exact b1.1 t ht
      · rw [List.pairwise_append]
        refine ⟨(canon_snoc a1 b a2).2, b1.2, fun x hx y hy => ?_⟩
        rcases List.mem_append.1 hx with hx | hx
        · have h1 := a2 x hx
          have h2 := b2 y hy
          omega
        · rw [List.mem_singleton.1 hx]; exact b2 y hy
    · simp only [List.length_append, List.length_singleton]; omega
    · rw [← by_ k, List.append_assoc]; rfl
theorem mrgL_ok (l : List Wn) : canonM (mrgL l) ∧ (mrgL l).length ≤ l.length ∧ ∀ k, insd (mrgL l) k = insd l k := by
  have gen : ∀ (l out : List Wn), canonM out → canonM (l.foldl mone out) ∧ (l.foldl mone out).length ≤ out.length + l.length ∧ ∀ k, insd (l.foldl mone out) k = (insd out k || insd l k) := by
    intro l
    induction l with
    | nil => intro out h; exact ⟨h, by simp, fun k => by rw [insd_nil]; simp⟩
    | cons s l ih =>
      intro out h
      obtain ⟨h1, h2, h3⟩ := mone_ok h s
      obtain ⟨h4, h5, h6⟩ := ih _ h1
      rw [List.foldl_cons]
      refine ⟨h4, by rw [List.length_cons]; omega, fun k => ?_⟩
      rw [h6, h3, insd_cons, Bool.or_assoc]
  have := gen l [] canon_nil
  unfold mrgL
  refine ⟨this.1, by simpa using this.2.1, fun k => by rw [this.2.2 k, insd_nil]; rfl⟩
/-- What is merged is known by its bytes. -/
theorem mrgL_is {l m : List Wn} (h : canonM m) (hb : ∀ k, insd m k = insd l k) : m = mrgL l :=
  canon_one m (mrgL l) h (mrgL_ok l).1 (fun k => by rw [hb, (mrgL_ok l).2.2 k])
theorem mrgL_self {m : List Wn} (h : canonM m) : mrgL m = m := (mrgL_is h (fun _ => rfl)).symm
theorem mrgL_twice (l : List Wn) : mrgL (mrgL l) = mrgL l := mrgL_self (mrgL_ok l).1
theorem mrgL_turn (a b : List Wn) : mrgL (a ++ b) = mrgL (b ++ a) := by
  refine canon_one _ _ (mrgL_ok _).1 (mrgL_ok _).1 (fun k => ?_)
  rw [(mrgL_ok _).2.2 k, (mrgL_ok _).2.2 k, insd_app, insd_app, Bool.or_comm]
theorem mrgL_parts (a b : List Wn) : mrgL (mrgL a ++ mrgL b) = mrgL (a ++ b) := by
  refine canon_one _ _ (mrgL_ok _).1 (mrgL_ok _).1 (fun k => ?_)
  rw [(mrgL_ok _).2.2 k, (mrgL_ok _).2.2 k, insd_app, insd_app, (mrgL_ok _).2.2 k, (mrgL_ok _).2.2 k]
end Go.Proofs.Ytkmbhgbmdeoppab
