/-
  Entity tags in plain lists: Parse by taking off what stands ahead and behind; no program is named here.
-/
import Derived.Test.YtfeikdplfjikeaaDoorSpecEt
import Derived.Test.YtfeikdplfjikeaaDoorSpecCx
import Derived.Test.YtfeikdplfjikeaaDoorSpecT
namespace Go.Proofs.YtfeikdplfjikeaaDoor
open Go.RowKit

/-- What is wrong with a tag's text. -/
def chE (x : List UInt8) : Int := if 100 < x.length then 2 else if x.all etB = true then 0 else 3
theorem prE_ch (t : Tg) : prE t = if chE t.2 = 0 then (prG t, 0) else ([], chE t.2) := by
  unfold prE chE
  by_cases h1 : 100 < t.2.length
  · rw [if_pos h1, if_pos h1, if_neg (by decide)]
  · rw [if_neg h1, if_neg h1]
    cases h2 : t.2.all etB <;> rfl
theorem paE_parts (s r b t : List UInt8) (wk op cl : Bool) (h1 : cutPre s [87, 47] = (r, wk)) (h2 : cutPre r [34] = (b, op)) (h3 : cutSuf b [34] = (t, cl)) :
    paE s = if op = true ∧ cl = true ∧ chE t = 0 then ((wk, t), 0) else ((false, []), 3) := by
  unfold cutPre at h1 h2
  unfold cutSuf at h3
  simp only [Prod.mk.injEq] at h1 h2 h3
  obtain ⟨h1, h1'⟩ := h1
  obtain ⟨h2, h2'⟩ := h2
  obtain ⟨h3, h3'⟩ := h3
  by_cases hc : op = true ∧ cl = true ∧ chE t = 0
  · obtain ⟨ho, hl, ht⟩ := hc
    subst ho hl
    rw [if_pos ⟨rfl, rfl, ht⟩]
    have e1 : b = t ++ [34] := by
      have := suf_yes b 34 h3'
      unfold Lib.trimSuffix at h3
      rw [h3', if_pos rfl] at h3
      rw [← h3]
      simpa using this
    have e2 : r = 34 :: b := by
      have := pre_yes r 34 h2'
      unfold Lib.trimPrefix at h2
      rw [h2', if_pos rfl] at h2
      rw [← h2]; exact this
    have e3 : s = prG (wk, t) := by
      unfold prG
      unfold Lib.trimPrefix at h1
      rw [h1'] at h1
      cases wk
      · rw [if_neg (by decide)] at h1
        rw [h1, e2, e1]; rfl
      · rw [if_pos rfl] at h1
        obtain ⟨u, hu⟩ := List.isPrefixOf_iff_prefix.1 h1'
        rw [← hu] at h1 ⊢
        have : u = r := h1
        rw [this, e2, e1]; rfl
    have hp : prE (wk, t) = (prG (wk, t), 0) := by rw [prE_ch, if_pos ht]
    have := paE_back (wk, t) (by rw [hp])
    rw [hp] at this
    rw [e3]; exact this
  · rw [if_neg hc]
    rcases paE_cases s with ⟨u, hu, hs, hl, ha⟩ | h
    · exfalso
      apply hc
      have hw := weak_prG u
      rw [← hs] at hw
      unfold weakB at hw
      have hr : r = 34 :: (u.2 ++ [34]) := by
        rw [← h1]
        unfold Lib.trimPrefix
        rw [hw, hs]
        unfold prG
        cases u.1 <;> rfl
      have hb : b = u.2 ++ [34] ∧ op = true := by
        subst hr
        exact ⟨by rw [← h2]; rfl, by rw [← h2']; rfl⟩
      have hsf : Lib.hasSuffix b [34] = true := by
        unfold Lib.hasSuffix; rw [hb.1]; exact List.isSuffixOf_iff_suffix.2 ⟨u.2, rfl⟩
      have ht : t = u.2 := by
        rw [← h3]
        unfold Lib.trimSuffix
        rw [hsf, if_pos rfl, hb.1]; simp
      refine ⟨hb.2, by rw [← h3']; exact hsf, ?_⟩
      rw [ht]
      unfold chE
      rw [if_neg (by omega), if_pos ha]
    · exact h
end Go.Proofs.YtfeikdplfjikeaaDoor
