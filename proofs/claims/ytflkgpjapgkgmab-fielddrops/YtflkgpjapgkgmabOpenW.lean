/-
  What the form's own reach says of a list of fields that came in; no program is named here.
-/
import Derived.Test.YtflkgpjapgkgmabOpenF
import Derived.Test.YtflkgpjapgkgmabWPick
import Derived.SizedLaws
namespace Go.Proofs.Ytflkgpjapgkgmab
open Go.RowKit

theorem weights_fl {H : Type} {P : Program} {e : TypeId} {f0 f1 : Field} (he : P.underlying e = some (.struct #[f0, f1])) (y : Fld) : (fl1 (H := H) y).weights P e = [y.1.length, y.2.length] := by
  simp [fl1, DataW.weights, he, DataW.weightsEach]
theorem weights_all {H : Type} {P : Program} {e : TypeId} {f0 f1 : Field} (he : P.underlying e = some (.struct #[f0, f1])) (ls : List Fld) : ∀ y ∈ ls, y.1.length ∈ DataW.weightsAll P e (ls.map (fl1 (H := H))) ∧ y.2.length ∈ DataW.weightsAll P e (ls.map (fl1 (H := H))) := by
  induction ls with
  | nil => intro y hy; cases hy
  | cons a ls ih =>
    intro y hy
    rw [List.map_cons, DataW.weightsAll, weights_fl he]
    rcases List.mem_cons.1 hy with rfl | hy
    · simp
    · obtain ⟨h1, h2⟩ := ih y hy
      exact ⟨List.mem_append_right _ h1, List.mem_append_right _ h2⟩
theorem sized_fl {H : Type} {P : Program} {ts : List TypeId} {ds : List (DataW H)} (h : (DataW.weightsEach P ts ds).all (· ≤ reachBytes) = true) {j : Nat} {t e : TypeId} {f0 f1 : Field} {d : DataW H} {ls : List Fld} {sp : List (DataW H)}
    (ht : ts[j]? = some t) (hd : ds[j]? = some d) (hx : d = .nil ∧ ls = [] ∨ d = .slice (ls.map fl1) sp) (hu : P.underlying t = some (.slice e)) (he : P.underlying e = some (.struct #[f0, f1])) (hb : P.bytesOf e = 32) : Wide ls := by
  rcases hx with ⟨_, rfl⟩ | rfl
  · exact ⟨fun x hx => (by cases hx), by simp⟩
  · have hall : ∀ n ∈ (DataW.slice (ls.map fl1) sp).weights P t, n ≤ reachBytes := fun n hn => by
      have := List.all_eq_true.1 h n (DataW.weights_mem_each ht hd n hn)
      simpa using this
    have ew : (DataW.slice (ls.map fl1) sp).weights P t = ((ls.map (fl1 (H := H))).length + sp.length) * P.bytesOf e :: (DataW.weightsAll P e (ls.map (fl1 (H := H))) ++ DataW.weightsAll P e sp) := by
      simp [DataW.weights, hu]
    rw [ew] at hall
    refine ⟨fun x hx => ?_, ?_⟩
    · obtain ⟨h1, h2⟩ := weights_all (H := H) he ls x hx
      exact ⟨hall _ (List.mem_cons_of_mem _ (List.mem_append_left _ h1)), hall _ (List.mem_cons_of_mem _ (List.mem_append_left _ h2))⟩
    · have := hall _ (List.mem_cons_self ..)
      rw [hb, List.length_map] at this
      have hr : reachBytes = 140737488351232 := rfl
      rw [hr] at this
      omega
end Go.Proofs.Ytflkgpjapgkgmab
