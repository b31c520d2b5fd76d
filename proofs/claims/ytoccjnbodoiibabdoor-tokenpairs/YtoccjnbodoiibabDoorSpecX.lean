/-
  Plain lemmas: a value and parameters, printed, are read as they were; no program is named here.
-/
import Derived.Test.YtoccjnbodoiibabDoorSpecXp
import Derived.Test.YtoccjnbodoiibabDoorWPar
namespace Go.Proofs.YtoccjnbodoiibabDoor
open Go.RowKit

def seg (x : Pr) : List UInt8 := 32 :: (x.n ++ 61 :: x.q)
def value : List UInt8 := [118, 97, 108, 117, 101]
def text (xs : List Pr) : List UInt8 := value ++ (xs.map fun x => 59 :: seg x).flatten
def par (x : Pr) : Par := (lower x.n, x.v)

theorem text_join (xs : List Pr) : text xs = Lib.join (value :: xs.map seg) [59] := by
  rw [Lib.join_cons]
  unfold text Lib.joinTail
  rw [List.map_map]; rfl
theorem text_snoc (xs : List Pr) (x : Pr) : text (xs ++ [x]) = text xs ++ (59 :: seg x) := by simp [text]

theorem q_closed (x : Pr) (h : PrOk x) : closed 59 x.q := by
  rcases h.2 with ⟨e, ht⟩ | ⟨e, _, _⟩
  · rw [e]; exact tok_run 59 (.inr rfl) _ (token_parts _ ht).2
  · rw [e]; exact closed_quoted 59 (by decide) _
theorem seg_closed (x : Pr) (h : PrOk x) : closed 59 (seg x) := by
  have hn := tok_run 59 (.inr rfl) _ (token_parts _ h.1).2
  have hq := q_closed x h
  unfold closed at *
  unfold seg
  rw [run_cons, if_neg (by simp)]
  show run 59 (false, false) (x.n ++ 61 :: x.q) = _
  rw [run_app, hn, Option.bind_some, run_cons, if_neg (by simp)]
  exact hq
theorem trim_seg (x : Pr) (h : PrOk x) : trimL (seg x) = x.n ++ 61 :: x.q := by
  unfold seg
  rw [trimL_first _ 32 rfl]
  obtain ⟨h1, h2⟩ := token_parts _ h.1
  rw [List.all_eq_true] at h2
  apply trimL_stays
  · intro b hb
    cases hn : x.n with
    | nil => rw [hn] at h1; simp at h1
    | cons c r =>
      rw [hn] at hb
      simp at hb
      subst hb
      exact (tok_ne _ (h2 c (by rw [hn]; simp))).2.2.2.2.2
  · intro b hb
    obtain ⟨d, hd, hbl⟩ := q_last x h
    have hne : x.q ≠ [] := by intro e0; rw [e0] at hd; simp at hd
    rw [List.getLast?_append] at hb
    have e : (61 :: x.q).getLast? = some d := by
      rw [List.getLast?_cons, hd]; rfl
    rw [e] at hb
    simp at hb
    subst hb
    exact hbl

theorem rp_seg (x : Pr) (h : PrOk x) : rp (trimL (seg x)) = some (par x) := by
  rw [trim_seg x h, rp_val _ _ _ (cut_seg _ _ (token_parts _ h.1).2) h.1, rv_text x h]; rfl
theorem rps_segs (xs : List Pr) (h : ∀ x ∈ xs, PrOk x) : rps ((xs.map seg).map trimL) = some (xs.map par) := by
  have gen : ∀ (xs : List Pr) (a : List Par), (∀ x ∈ xs, PrOk x) → ((xs.map seg).map trimL).foldl rpstep (some a) = some (a ++ xs.map par) := by
    intro xs
    induction xs with
    | nil => intro a _; simp
    | cons x xs ih =>
      intro a h
      have hx := h x (by simp)
      have he : (trimL (seg x)).isEmpty = false := by rw [trim_seg x hx]; simp
      rw [List.map_cons, List.map_cons, List.foldl_cons, rpstep_ok _ _ (par x) he (rp_seg x hx), ih _ (fun y hy => h y (by simp [hy]))]
      simp
  exact gen xs [] h
theorem params_text (xs : List Pr) (h : ∀ x ∈ xs, PrOk x) (hl : (text xs).length ≤ 1000) (hn : xs.length ≤ 20) : paramsS (text xs) = (value, xs.map par, 0) := by
  have hcl : ∀ r ∈ value :: xs.map seg, closed 59 r := by
    intro r hr
    simp only [List.mem_cons, List.mem_map] at hr
    rcases hr with rfl | ⟨x, hx, rfl⟩
    · unfold closed; rfl
    · exact seg_closed x (h x hx)
  obtain ⟨e1, e2⟩ := pieces_join 59 value (xs.map seg) hcl
  rw [← text_join] at e1 e2
  have hv : trimL ((pieces 59 (text xs)).headD []) = value := by rw [e1]; rfl
  rw [ps_ok _ (xs.map par) (by omega) e2 (by rw [hv]; rfl) (by rw [e1]; exact rps_segs xs h) (by simp; omega), hv]
end Go.Proofs.YtoccjnbodoiibabDoor
