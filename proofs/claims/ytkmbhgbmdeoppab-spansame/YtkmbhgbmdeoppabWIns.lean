/-
  What the laws' own inside computes.
-/
import Derived.Test.YtkmbhgbmdeoppabSpecMg
import Derived.Test.YtkmbhgbmdeoppabSpecWl
import Derived.Test.YtkmbhgbmdeoppabShelf
import Derived.Test.YtkmbhgbmdeoppabRows
namespace Go.Proofs.Ytkmbhgbmdeoppab
open Go.RowKit

theorem insd_take (l : List Wn) (k : Int) (j : Nat) (h : j < l.length) : insd (l.take (j + 1)) k = (insd (l.take j) k || (decide ((l[j]).1 ≤ k) && decide (k < (l[j]).2))) := by
  rw [List.take_succ_eq_append_getElem h, insd_app, insd_cons, insd_nil, Bool.or_false]
theorem insd_hit (l : List Wn) (k : Int) (j : Nat) (h : j < l.length) (h1 : (l[j]).1 ≤ k) (h2 : k < (l[j]).2) : insd l k = true :=
  (insd_iff l k).2 ⟨l[j], List.getElem_mem h, h1, h2⟩
set_option maxHeartbeats 2000000 in
set_option maxRecDepth 100000 in
theorem inside_any (v : Value) (ls : List Wn) (at_ : Int) (w : World) (hf : Wl w v ls) :
    Calls Try.prog 11 #[v, .int .i64 at_] w fun e w' => e = .returned (.bool (insd ls at_)) ∧ Below w.heap.size w w' := by
  have HF : Hid (Wl w v ls) := hf
  obtain ⟨ad, cap, rfl, hcap, hcm, _⟩ := id hf
  unfold maxLen at hcm
  clear hf
  go_enter Try.func11, Try.ntmps11
  go_wp2_with fail
  go_loopw [9] (fun i wr => ∃ k : Nat, k ≤ ls.length ∧ i = .int .i64 k ∧ Hid (insd (ls.take k) at_ = false) ∧ Below w.heap.size w wr) (fun i _ => ls.length - (intOf i).toNat)
  case atStart => exact ⟨0, Nat.zero_le _, rfl, rfl, Below.refl _ _⟩
  case round =>
    obtain ⟨k, hk, rfl, hno, hw⟩ := hrel
    have hsz := hw.size
    by_cases hlt : k < ls.length
    · obtain ⟨ad', cap', hv', _, _, hc'⟩ := HF.out
      simp only [Value.slice.injEq] at hv'
      obtain ⟨rfl, _, rfl⟩ := hv'
      obtain ⟨g, off, rfl, hgs, hce⟩ := hc' (by omega)
      obtain ⟨c1, c2⟩ := hce k hlt
      obtain ⟨a, ha⟩ : ∃ a, a = (ls[k]).1 := ⟨_, rfl⟩
      obtain ⟨b, hb⟩ : ∃ b, b = (ls[k]).2 := ⟨_, rfl⟩
      rw [← ha] at c1
      rw [← hb] at c2
      have d1 : wr.cell? ⟨g, off + k * 2, none⟩ = some (.int .i64 a) := (hw.cell (p := ⟨g, off + k * 2, none⟩) hgs).trans c1
      have d2 : wr.cell? ⟨g, off + k * 2 + 1, none⟩ = some (.int .i64 b) := (hw.cell (p := ⟨g, off + k * 2 + 1, none⟩) hgs).trans c2
      have hgr : g < wr.heap.size := by omega
      have hki : (k : Int) < (ls.length : Int) := by omega
      have hk0 : (0 : Int) ≤ (k : Int) := by omega
      have hw0 := hw.alloc hsz (.cells #[.int .i64 a, .int .i64 b] 28)
      have hstep := insd_take ls at_ k hlt
      rw [hno.out, ← ha, ← hb, Bool.false_or] at hstep
      have HST : Hid (insd (ls.take (k + 1)) at_ = (decide (a ≤ at_) && decide (at_ < b))) := hstep
      have HHIT : Hid (a ≤ at_ → at_ < b → insd ls at_ = true) := fun h1 h2 => insd_hit ls at_ k hlt (by rw [← ha]; exact h1) (by rw [← hb]; exact h2)
      clear hce c1 c2 ha hb hc' hstep
      by_cases h1 : a ≤ at_
      · by_cases h2 : at_ < b
        · have HH : Hid (insd ls at_ = true) := HHIT.out h1 h2
          go_wp2_with fail
          go_ret
          exact ⟨ret_bool HH.out.symm, hw0⟩
        · have HN : Hid (insd (ls.take (k + 1)) at_ = false) := by show _ = _; rw [HST.out, decide_eq_false h2, Bool.and_false]
          go_wp2_with fail
          go_roundw
          case rel => exact ⟨k + 1, by omega, by go_num, HN, hw0⟩
          case measure => simp [intOf]; omega
      · have HN : Hid (insd (ls.take (k + 1)) at_ = false) := by show _ = _; rw [HST.out, decide_eq_false h1, Bool.false_and]
        go_wp2_with fail
        go_roundw
        case rel => exact ⟨k + 1, by omega, by go_num, HN, hw0⟩
        case measure => simp [intOf]; omega
    · have HE : Hid (insd ls at_ = false) := by
        have := hno.out
        rw [List.take_of_length_le (by omega)] at this
        exact this
      go_wp2_with fail
      go_ret
      exact ⟨ret_bool HE.out.symm, hw⟩
end Go.Proofs.Ytkmbhgbmdeoppab
