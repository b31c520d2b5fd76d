/-
  Tags with commas and blanks between them are read as they were; no program is named here.
-/
import Derived.Test.YtfeikdplfjikeaaDoorSpecEl
namespace Go.Proofs.YtfeikdplfjikeaaDoor
open Go.RowKit

def gaps : List (List UInt8) := [[44], [44, 32], [32, 44, 9], [44, 44], [32, 44, 32, 44, 32]]
/-- Where the reading stands: the tags that were read, and the one whose piece isn't at its end. -/
def Kst (x : QC) (ts : List Tg) (pend : Option Tg) : Prop := x.q = false ∧ tagsE (x.ps.map trimL) = some ts ∧ trimL x.cur = (match pend with | none => [] | some t => prG t)
theorem prG_trim (t : Tg) : trimL (prG t) = prG t := by
  obtain ⟨w, x⟩ := t
  apply trimL_stays
  · intro b hb
    cases w
    · have : b = 34 := by simpa [prG] using hb.symm
      subst this; rfl
    · have : b = 87 := by simpa [prG] using hb.symm
      subst this; rfl
  · intro b hb
    have e : prG (w, x) = ((if w = true then [87, 47] else []) ++ (34 :: x)) ++ [34] := by unfold prG; simp
    rw [e, List.getLast?_append] at hb
    have : b = 34 := by simpa using hb.symm
    subst this; rfl
theorem Kst.blk {x : QC} {ts : List Tg} {p : Option Tg} (h : Kst x ts p) (b : UInt8) (hb : blank b = true) (h44 : b ≠ 44) (h34 : b ≠ 34) : Kst (qstep x b) ts p := by
  obtain ⟨h1, h2, h3⟩ := h
  unfold qstep
  rw [if_neg (fun h => h44 h.1), if_neg h34]
  exact ⟨h1, h2, by rw [trimL_last _ _ hb]; exact h3⟩
theorem Kst.comma {x : QC} {ts : List Tg} {p : Option Tg} (h : Kst x ts p) (hp : ∀ t, p = some t → (prE t).2 = 0) : Kst (qstep x 44) (ts ++ p.toList) none := by
  obtain ⟨h1, h2, h3⟩ := h
  unfold qstep
  rw [if_pos ⟨rfl, h1⟩]
  refine ⟨h1, ?_, rfl⟩
  rw [List.map_append, List.map_singleton, tags_snoc, h2, h3]
  cases p with
  | none => simp [tstep]
  | some t =>
    have ht := hp t rfl
    have hb := paE_back t ht
    rw [(prE_ok t ht).1] at hb
    have hne : (prG t).isEmpty = false := by
      have := prG_len t
      cases hq : prG t with
      | nil => rw [hq, List.length_nil] at this; omega
      | cons _ _ => rfl
    unfold tstep
    simp only [hne, hb]; rfl
theorem quoted_run (x : List UInt8) (hx : x.all etB = true) : ∀ (ps : List (List UInt8)) (cur : List UInt8), x.foldl qstep ⟨ps, cur, true⟩ = ⟨ps, cur ++ x, true⟩ := by
  induction x with
  | nil => intro ps cur; simp
  | cons c x ih =>
    intro ps cur
    rw [List.all_cons, Bool.and_eq_true] at hx
    have h34 : c ≠ 34 := by
      intro e; subst e; exact absurd hx.1 (by decide)
    rw [List.foldl_cons]
    have : qstep ⟨ps, cur, true⟩ c = ⟨ps, cur ++ [c], true⟩ := by
      unfold qstep
      rw [if_neg (fun h => by cases h.2), if_neg h34]
    rw [this, ih hx.2]; simp
theorem tag_run (t : Tg) (ht : t.2.all etB = true) (ps : List (List UInt8)) (cur : List UInt8) : (prG t).foldl qstep ⟨ps, cur, false⟩ = ⟨ps, cur ++ prG t, false⟩ := by
  obtain ⟨w, x⟩ := t
  have hq : ∀ cur : List UInt8, (34 :: (x ++ [34])).foldl qstep ⟨ps, cur, false⟩ = ⟨ps, cur ++ (34 :: (x ++ [34])), false⟩ := by
    intro cur
    rw [List.foldl_cons]
    have : qstep ⟨ps, cur, false⟩ 34 = ⟨ps, cur ++ [34], true⟩ := by unfold qstep; rfl
    rw [this, List.foldl_append, quoted_run x ht]
    show qstep ⟨ps, cur ++ [34] ++ x, true⟩ 34 = _
    unfold qstep
    simp
  cases w
  · exact hq cur
  · show ([87, 47] ++ (34 :: (x ++ [34]))).foldl qstep _ = _
    rw [List.foldl_append]
    have : [87, 47].foldl qstep ⟨ps, cur, false⟩ = ⟨ps, cur ++ [87, 47], false⟩ := by
      simp [qstep]
    rw [this, hq]; simp [prG]
theorem Kst.tag {x : QC} {ts : List Tg} (h : Kst x ts none) (t : Tg) (ht : t.2.all etB = true) : Kst ((prG t).foldl qstep x) ts (some t) := by
  obtain ⟨ps, cur, q⟩ := x
  obtain ⟨h1, h2, h3⟩ := h
  simp only at h1 h2 h3
  subst h1
  rw [tag_run t ht]
  refine ⟨rfl, h2, ?_⟩
  show trimL (cur ++ prG t) = prG t
  have gen : ∀ (c l : List UInt8), c.all blank = true → trimL (c ++ l) = trimL l := by
    intro c l
    induction c with
    | nil => intro _; rfl
    | cons b c ih =>
      intro hc
      rw [List.all_cons, Bool.and_eq_true] at hc
      rw [List.cons_append, trimL_first _ _ hc.1, ih hc.2]
  have hall : cur.all blank = true := by
    have hk : ∀ (n : Nat) (c : List UInt8), c.length ≤ n → trimL c = [] → c.all blank = true := by
      intro n
      induction n with
      | zero => intro c hc _; rw [List.eq_nil_of_length_eq_zero (Nat.le_zero.1 hc)]; rfl
      | succ n ih =>
        intro c hc h0
        cases c with
        | nil => rfl
        | cons b c =>
          by_cases hb : blank b = true
          · rw [trimL_first _ _ hb] at h0
            rw [List.all_cons, hb, ih c (by simp at hc; omega) h0]; rfl
          · exfalso
            have hdw : ∀ (m : List UInt8), (b :: m).dropWhile blank = b :: m := fun m => by rw [List.dropWhile_cons, if_neg hb]
            rw [trimL_eq] at h0
            have hr : ∃ m, ((b :: c).reverse.dropWhile blank).reverse = b :: m := by
              rw [List.reverse_cons, List.dropWhile_append]
              split
              · refine ⟨[], ?_⟩
                rw [show ([b] : List UInt8).dropWhile blank = [b] from hdw []]; rfl
              · exact ⟨(c.reverse.dropWhile blank).reverse, by simp⟩
            obtain ⟨m, hm⟩ := hr
            rw [hm, hdw] at h0; cases h0
    exact hk _ _ (Nat.le_refl _) h3
  rw [gen cur _ hall, prG_trim]
theorem Kst.gap {x : QC} {ts : List Tg} {t : Tg} (h : Kst x ts (some t)) (ht : (prE t).2 = 0) (g : List UInt8) (hg : g ∈ gaps) : Kst (g.foldl qstep x) (ts ++ [t]) none := by
  have h1 : ∀ {y : QC}, Kst y ts (some t) → Kst (qstep y 44) (ts ++ [t]) none := fun hy => hy.comma (fun t' e => by cases e; exact ht)
  have h2 : ∀ {y : QC}, Kst y (ts ++ [t]) none → Kst (qstep y 44) (ts ++ [t]) none := fun hy => by
    have := hy.comma (fun t' e => by cases e)
    simpa using this
  simp only [gaps, List.mem_cons, List.not_mem_nil, or_false] at hg
  rcases hg with rfl | rfl | rfl | rfl | rfl
  · exact h1 h
  · exact (h1 h).blk 32 rfl (by decide) (by decide)
  · exact (h1 (h.blk 32 rfl (by decide) (by decide))).blk 9 rfl (by decide) (by decide)
  · exact h2 (h1 h)
  · exact ((h2 ((h1 (h.blk 32 rfl (by decide) (by decide))).blk 32 rfl (by decide) (by decide))).blk 32 rfl (by decide) (by decide))
theorem list_run (g : List UInt8) (hg : g ∈ gaps) (want : List Tg) : ∀ (ts : List Tg) (x : QC), (∀ t ∈ want, (prE t).2 = 0) → Kst x ts none → Kst ((want.flatMap fun t => prG t ++ g).foldl qstep x) (ts ++ want) none := by
  induction want with
  | nil => intro ts x _ h; simpa using h
  | cons t want ih =>
    intro ts x hw h
    have ht := hw t (List.mem_cons_self ..)
    rw [List.flatMap_cons, List.foldl_append, List.foldl_append]
    have := ih (ts ++ [t]) _ (fun y hy => hw y (List.mem_cons_of_mem _ hy)) ((h.tag t (prE_ok t ht).2.2).gap ht g hg)
    simpa using this
/-- What TagListBack reads. -/
theorem list_back (g : List UInt8) (hg : g ∈ gaps) (want : List Tg) (hw : ∀ t ∈ want, (prE t).2 = 0) (h0 : want ≠ []) (h20 : want.length ≤ 20) (hl : (want.flatMap fun t => prG t ++ g).length ≤ 1000) :
    liE (want.flatMap fun t => prG t ++ g) = ((want, false), 0) := by
  have hk := list_run g hg want [] ⟨[], [], false⟩ hw ⟨rfl, rfl, rfl⟩
  obtain ⟨h1, h2, h3⟩ := hk
  unfold liE
  rw [if_neg (by omega)]
  have hne : ¬ (want.flatMap fun t => prG t ++ g) = [42] := by
    intro e
    cases want with
    | nil => exact h0 rfl
    | cons t want =>
      have := congrArg List.length e
      rw [List.flatMap_cons, List.length_append, List.length_append, prG_len] at this
      simp at this; omega
  rw [if_neg hne]
  have hq : tagsE ((qps (want.flatMap fun t => prG t ++ g)).map trimL) = some want := by
    unfold qps qcut
    rw [List.map_append, List.map_singleton, tags_snoc, h2, h3]
    simp [tstep]
  rw [hq]
  have hn : want.isEmpty = false := by cases want with | nil => exact absurd rfl h0 | cons _ _ => rfl
  simp only [hn]
  rw [if_neg (by simp), if_neg (by omega)]
end Go.Proofs.YtfeikdplfjikeaaDoor
