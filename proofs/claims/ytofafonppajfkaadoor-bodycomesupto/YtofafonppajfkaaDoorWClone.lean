/-
  What clone of package field computes; a string is no longer than Go allows.
-/
import Derived.Test.YtofafonppajfkaaDoorSpecF
import Derived.Test.YtofafonppajfkaaDoorWSClone
import Derived.Test.YtofafonppajfkaaDoorShelf
import Derived.Test.YtofafonppajfkaaDoorRows
import Derived.Deep.RegionHeld3
namespace Go.Proofs.YtofafonppajfkaaDoor
open Go.RowKit

theorem pair_all {w : World} {g : Nat} {t : TypeId} {n u : Value} (h : w.heap[g]? = some (.cells #[n, u] t (0, 0))) :
    w.cell? ⟨g, 0, none⟩ = some n ∧ w.cell? ⟨g, 1, none⟩ = some u ∧ w.frozen? ⟨g, 0, none⟩ = false ∧ w.frozen? ⟨g, 1, none⟩ = false ∧ g < w.heap.size := by
  refine ⟨?_, ?_, Lib.frozen_of_heap h 0, Lib.frozen_of_heap h 1, (Array.getElem?_eq_some_iff.1 h).1⟩ <;> rw [Lib.cell_of_heap h] <;> rfl

theorem sc_keep {w W w3 : World} {n u : ByteArray} (h : W.cell? ⟨w.heap.size, 0, none⟩ = some (.string n) ∧ W.cell? ⟨w.heap.size, 1, none⟩ = some (.string u) ∧ W.cell? ⟨w.heap.size + 1, 0, none⟩ = some (.string ⟨#[]⟩) ∧ W.cell? ⟨w.heap.size + 1, 1, none⟩ = some (.string ⟨#[]⟩) ∧ W.frozen? ⟨w.heap.size + 1, 0, none⟩ = false ∧ W.frozen? ⟨w.heap.size + 1, 1, none⟩ = false ∧ w.heap.size + 1 < W.heap.size ∧ Below w.heap.size w W) (hb : Below W.heap.size W w3) :
    w3.cell? ⟨w.heap.size, 0, none⟩ = some (.string n) ∧ w3.cell? ⟨w.heap.size, 1, none⟩ = some (.string u) ∧ w3.cell? ⟨w.heap.size + 1, 0, none⟩ = some (.string ⟨#[]⟩) ∧ w3.cell? ⟨w.heap.size + 1, 1, none⟩ = some (.string ⟨#[]⟩) ∧ w3.frozen? ⟨w.heap.size + 1, 0, none⟩ = false ∧ w3.frozen? ⟨w.heap.size + 1, 1, none⟩ = false ∧ w.heap.size + 1 < w3.heap.size ∧ Below w.heap.size w w3 := by
  obtain ⟨h1, h2, h3, h4, h5, h6, h7, h8⟩ := h
  have hs := hb.size
  exact ⟨(hb.cell (p := ⟨w.heap.size, 0, none⟩) (by show w.heap.size < _; omega)).trans h1, (hb.cell (p := ⟨w.heap.size, 1, none⟩) (by show w.heap.size < _; omega)).trans h2, (hb.cell (p := ⟨w.heap.size + 1, 0, none⟩) h7).trans h3, (hb.cell (p := ⟨w.heap.size + 1, 1, none⟩) h7).trans h4, (hb.frozen (p := ⟨w.heap.size + 1, 0, none⟩) h7).trans h5, (hb.frozen (p := ⟨w.heap.size + 1, 1, none⟩) h7).trans h6, by omega, h8.trans (hb.mono (by omega))⟩
theorem sc_start (w : World) (n u : ByteArray) (t : TypeId) : ((w.alloc (.cells #[.string n, .string u] t)).alloc (.cells #[.string ⟨#[]⟩, .string ⟨#[]⟩] t)).drew.cell? ⟨w.heap.size, 0, none⟩ = some (.string n) ∧ ((w.alloc (.cells #[.string n, .string u] t)).alloc (.cells #[.string ⟨#[]⟩, .string ⟨#[]⟩] t)).drew.cell? ⟨w.heap.size, 1, none⟩ = some (.string u) ∧ ((w.alloc (.cells #[.string n, .string u] t)).alloc (.cells #[.string ⟨#[]⟩, .string ⟨#[]⟩] t)).drew.cell? ⟨w.heap.size + 1, 0, none⟩ = some (.string ⟨#[]⟩) ∧ ((w.alloc (.cells #[.string n, .string u] t)).alloc (.cells #[.string ⟨#[]⟩, .string ⟨#[]⟩] t)).drew.cell? ⟨w.heap.size + 1, 1, none⟩ = some (.string ⟨#[]⟩) ∧ ((w.alloc (.cells #[.string n, .string u] t)).alloc (.cells #[.string ⟨#[]⟩, .string ⟨#[]⟩] t)).drew.frozen? ⟨w.heap.size + 1, 0, none⟩ = false ∧ ((w.alloc (.cells #[.string n, .string u] t)).alloc (.cells #[.string ⟨#[]⟩, .string ⟨#[]⟩] t)).drew.frozen? ⟨w.heap.size + 1, 1, none⟩ = false ∧ w.heap.size + 1 < ((w.alloc (.cells #[.string n, .string u] t)).alloc (.cells #[.string ⟨#[]⟩, .string ⟨#[]⟩] t)).drew.heap.size ∧ Below w.heap.size w ((w.alloc (.cells #[.string n, .string u] t)).alloc (.cells #[.string ⟨#[]⟩, .string ⟨#[]⟩] t)).drew := by
  have e : (w.alloc (.cells #[.string n, .string u] t)).heap.size = w.heap.size + 1 := by simp
  have f0 := new_free (w.alloc (.cells #[.string n, .string u] t)) #[.string ⟨#[]⟩, .string ⟨#[]⟩] t 0
  have f1 := new_free (w.alloc (.cells #[.string n, .string u] t)) #[.string ⟨#[]⟩, .string ⟨#[]⟩] t 1
  rw [e] at f0 f1
  exact ⟨by simp, by simp, by simp, by simp, f0, f1, by simp, (((Below.refl _ w).alloc (Nat.le_refl _) _).alloc (by simp) _).drew⟩

set_option maxHeartbeats 2000000 in
set_option maxRecDepth 100000 in
theorem fclone_any (n u : ByteArray) (w : World) (hn : n.size ≤ 281474976710656) (hu : u.size ≤ 281474976710656) :
    Calls Tryd.prog 60 #[.agg #[.string n, .string u]] w fun e w' => e = .returned (.agg #[.string n, .string u]) ∧ Below w.heap.size w w' := by
  go_enter Tryd.func60, Tryd.ntmps60
  go_wp2_with fail
  go_region_held3 (fun w' => w'.cell? ⟨w.heap.size, 0, none⟩ = some (.string n) ∧ w'.cell? ⟨w.heap.size, 1, none⟩ = some (.string u)) (go_keep) (first | (go_at_call 65; refine (clone_big _ _ (by omega)).mono ?_; rintro e w3 ⟨rfl, hb⟩; first | (have hx := sc_keep (by assumption) hb) | (have hx := sc_keep (sc_start w n u _) hb)))
  all_goals
    obtain ⟨_, _, h1, h2, h3, h4, h5, h6⟩ := hx
    go_wp2_with fail
    refine bodyPost_ret (v := .agg #[.string n, .string u]) (by simp [results, Tryd.results60, go_sem, h1, h2]) rfl ⟨rfl, ?_⟩
    exact (h6.setCell (p := ⟨w.heap.size + 1, 0, none⟩) (by simp) _).setCell (p := ⟨w.heap.size + 1, 1, none⟩) (by simp) _
end Go.Proofs.YtofafonppajfkaaDoor
