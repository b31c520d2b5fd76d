/-
  What named of package field hands back: a function of a field; what it answers in whatever later world. A name is no longer than Go allows.
-/
import Derived.Test.YtofafonppajfkabDoorSpecF
import Derived.Test.YtofafonppajfkabDoorWLow
import Derived.Deep.RegionHeld3
namespace Go.Proofs.YtofafonppajfkabDoor
open Go.RowKit

/-- A function value that answers p of each field, in whatever later world, and turns nothing. -/
def Pred (w : World) (f : Value) (p : Fld → Bool) : Prop :=
  ∃ (g : Nat) (lb : Array Value), f = .func (.func g) #[] lb ∧ (∀ args w, (callFunc g args).run Tryd.prog w = .ok (.enter g args) w) ∧
    ∀ (W : World) (n u : ByteArray), Below w.heap.size w W → n.size ≤ 140737488351232 → Calls Tryd.prog g (#[.agg #[.string n, .string u]] ++ lb) W fun e w' => e = .returned (.bool (p (n.data.toList, u.data.toList))) ∧ Below W.heap.size W w'
theorem Pred.later {w w' : World} {f : Value} {p : Fld → Bool} (h : Pred w f p) (hb : Below w.heap.size w w') : Pred w' f p := by
  obtain ⟨g, lb, hf, eg, hc⟩ := h
  exact ⟨g, lb, hf, eg, fun W n u hW hn => hc W n u (hb.trans (hW.mono hb.size)) hn⟩

theorem lower_at (s t : ByteArray) (h : t.data.toList = lower s.data.toList) (w : World) (hs : s.size ≤ 140737488351232) :
    Calls Tryd.prog 18 #[.string s] w fun e w' => e = .returned (.string t) ∧ Below w.heap.size w w' := by
  refine (lower_any s w hs).mono ?_
  rintro e w' ⟨rfl, hb⟩
  refine ⟨ret_str ?_, hb⟩
  apply ByteArray.ext; apply Array.ext'; exact h.symm

set_option maxHeartbeats 1000000 in
set_option maxRecDepth 100000 in
theorem named1_any (n u low : ByteArray) (B : Nat) (w : World) (hc : w.cell? ⟨B, 0, none⟩ = some (.string low)) (hn : n.size ≤ 140737488351232) :
    Calls Tryd.prog 39 #[.agg #[.string n, .string u], .pointer (some ⟨B, 0, none⟩)] w fun e w' => e = .returned (.bool (lower n.data.toList == low.data.toList)) ∧ Below w.heap.size w w' := by
  obtain ⟨t, ht⟩ : ∃ t : ByteArray, t.data.toList = lower n.data.toList := ⟨⟨(lower n.data.toList).toArray⟩, rfl⟩
  have HT : Hid (t.data.toList = lower n.data.toList) := ht
  have HQ : Hid ((lower n.data.toList == low.data.toList) = (t.toList == low.toList)) := by show _ = _; rw [ByteArray.toList_eq, ByteArray.toList_eq, ht]
  have hBs : B < w.heap.size := cell_in hc
  have hcl := hc
  clear ht
  go_enter Tryd.func39, Tryd.ntmps39
  go_wp2_with fail
  go_region_held3 (fun w' => w'.cell? ⟨w.heap.size, 0, none⟩ = some (.string n) ∧ w'.cell? ⟨B, 0, none⟩ = some (.string low)) (go_keep) (first | (go_at_call 18; refine (lower_at n t HT.out _ hn).mono ?_; rintro e w3 ⟨rfl, hb⟩; have hk1 : w3.cell? ⟨w.heap.size, 0, none⟩ = some (.string n) := (hb.cell (p := ⟨w.heap.size, 0, none⟩) (by simp)).trans (by simp); have hk2 : w3.cell? ⟨B, 0, none⟩ = some (.string low) := (hb.cell (p := ⟨B, 0, none⟩) (by simp; omega)).trans ((World.cell?_alloc_lt _ _ _ hBs).trans hcl)))
  all_goals
    go_wp2_with fail
    go_ret
    exact ⟨ret_bool HQ.out.symm, ((Below.refl _ w).alloc (Nat.le_refl _) _).drew.trans (hb.mono (by simp))⟩

set_option maxHeartbeats 1000000 in
set_option maxRecDepth 100000 in
theorem named_any (s : ByteArray) (w : World) (hs : s.size ≤ 140737488351232) :
    Calls Tryd.prog 26 #[.string s] w fun e w' => ∃ f, e = .returned f ∧ Pred w' f (fun x => lower x.1 == lower s.data.toList) ∧ Below w.heap.size w w' := by
  have hmf : ∀ (fn : Fn) (first cap : Array Value) (w : World), (Instr.makeFunc fn first cap).run Tryd.prog w = .ok (.func fn first cap) w := fun _ _ _ _ => rfl
  obtain ⟨t, ht⟩ : ∃ t : ByteArray, t.data.toList = lower s.data.toList := ⟨⟨(lower s.data.toList).toArray⟩, rfl⟩
  have HT : Hid (t.data.toList = lower s.data.toList) := ht
  clear ht
  go_enter Tryd.func26, Tryd.ntmps26
  go_wp2_with fail
  refine (lower_at s t HT.out _ hs).mono ?_
  rintro e w1 ⟨rfl, hb⟩
  have hsz := hb.size
  go_wp2_with fail
  go_ret
  refine ⟨_, rfl, ⟨39, _, rfl, enters_of Tryd.func39 (by kernel_rfl) rfl, fun W n u hW hn => ?_⟩, hb.alloc hsz _⟩
  rw [← HT.out]
  refine named1_any n u t w1.heap.size W ?_ hn
  exact (hW.cell (p := ⟨w1.heap.size, 0, none⟩) (by simp)).trans (by simp)
end Go.Proofs.YtofafonppajfkabDoor
