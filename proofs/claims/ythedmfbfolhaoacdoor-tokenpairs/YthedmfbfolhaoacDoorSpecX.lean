/-
  Plain lemmas: a value and parameters, printed, are read as they were; no program is named here.
-/
import Derived.Test.YthedmfbfolhaoacDoorSpecK
import Derived.Test.YthedmfbfolhaoacDoorSpecW
import Derived.Test.YthedmfbfolhaoacDoorWPar
namespace Go.Proofs.YthedmfbfolhaoacDoor
open Go.RowKit

/-- A parameter as it is printed: its name, its value, and the value's text. -/
structure Pr where
  n : List UInt8
  v : List UInt8
  q : List UInt8
def PrOk (x : Pr) : Prop := token x.n = true ∧ ((x.q = x.v ∧ token x.v = true) ∨ (x.q = 34 :: (esc x.v ++ [34]) ∧ allPlain x.v = true ∧ ¬ 1000 < x.v.length))
def seg (x : Pr) : List UInt8 := 32 :: (x.n ++ 61 :: x.q)
def value : List UInt8 := [118, 97, 108, 117, 101]
def text (xs : List Pr) : List UInt8 := value ++ (xs.map fun x => 59 :: seg x).flatten
def par (x : Pr) : Par := (lower x.n, x.v)

theorem text_join (xs : List Pr) : text xs = Lib.join (value :: xs.map seg) [59] := by
  rw [Lib.join_cons]
  unfold text Lib.joinTail
  rw [List.map_map]; rfl
theorem text_snoc (xs : List Pr) (x : Pr) : text (xs ++ [x]) = text xs ++ (59 :: seg x) := by simp [text]

theorem q_closed (x : Pr) (h : PrOk x) : closed 59 x.q := by
  rcases h.2 with ⟨e, ht⟩ | ⟨e, _, _⟩
  · rw [e]; exact tok_run 59 (.inr rfl) _ (token_parts _ ht).2
  · rw [e]; exact closed_quoted 59 (by decide) _
theorem seg_closed (x : Pr) (h : PrOk x) : closed 59 (seg x) := by
  have hn := tok_run 59 (.inr rfl) _ (token_parts _ h.1).2
  have hq := q_closed x h
  unfold closed at *
  unfold seg
  rw [run_cons, if_neg (by simp)]
  show run 59 (false, false) (x.n ++ 61 :: x.q) = _
  rw [run_app, hn, Option.bind_some, run_cons, if_neg (by simp)]
  exact hq
theorem q_last (x : Pr) (h : PrOk x) : ∃ b, x.q.getLast? = some b ∧ blank b = false := by
  rcases h.2 with ⟨e, ht⟩ | ⟨e, _, _⟩
  · obtain ⟨h1, h2⟩ := token_parts _ ht
    rw [e]
    have hne : x.v ≠ [] := by intro e0; rw [e0] at h1; simp at h1
    refine ⟨x.v.getLast hne, List.getLast?_eq_some_getLast hne, ?_⟩
    rw [List.all_eq_true] at h2
    exact (tok_ne _ (h2 _ (List.getLast_mem hne))).2.2.2.2.2
  · rw [e]
    refine ⟨34, ?_, rfl⟩
    rw [show (34 :: (esc x.v ++ [34])) = (34 :: esc x.v) ++ [34] from rfl, List.getLast?_append]; rfl
theorem trim_seg (x : Pr) (h : PrOk x) : trimL (seg x) = x.n ++ 61 :: x.q := by
  unfold seg
  rw [trimL_first _ 32 rfl]
  obtain ⟨h1, h2⟩ := token_parts _ h.1
  rw [List.all_eq_true] at h2
  apply trimL_stays
  · intro b hb
    cases hn : x.n with
    | nil => rw [hn] at h1; simp at h1
    | cons c r =>
      rw [hn] at hb
      simp at hb
      subst hb
      exact (tok_ne _ (h2 c (by rw [hn]; simp))).2.2.2.2.2
  · intro b hb
    obtain ⟨d, hd, hbl⟩ := q_last x h
    have hne : x.q ≠ [] := by intro e0; rw [e0] at hd; simp at hd
    rw [List.getLast?_append] at hb
    have e : (61 :: x.q).getLast? = some d := by
      rw [List.getLast?_cons, hd]; rfl
    rw [e] at hb
    simp at hb
    subst hb
    exact hbl

theorem cut_seg (n q : List UInt8) (h : n.all isTok = true) : Lib.cut (n ++ 61 :: q) [61] = (n, q, true) := by
  have hi : Lib.indexByte (n ++ 61 :: q) 61 = (n.length : Int) := by
    induction n with
    | nil => simp [Lib.indexByte]
    | cons c n ih =>
      rw [List.all_cons, Bool.and_eq_true] at h
      have h1 := (tok_ne c h.1).2.2.2.2.1
      have h2 := ih h.2
      rw [List.cons_append, Lib.indexByte]
      have e1 : (c == 61) = false := beq_eq_false_iff_ne.2 h1
      rw [e1, h2]
      simp
  rw [cut_one_yes _ _ hi]
  simp
theorem quote_notok (l : List UInt8) : token (34 :: l) = false := by
  unfold token
  rw [List.all_cons]
  have : isTok 34 = false := by decide
  rw [this]; rfl
theorem rv_text (x : Pr) (h : PrOk x) : rv x.q = some x.v := by
  rcases h.2 with ⟨e, ht⟩ | ⟨e, hp, hl⟩
  · rw [e]; exact rv_token _ ht
  · have hu := unq_wrap x.v hp hl
    rw [e, rv_ok _ (quote_notok _) (by rw [hu]), hu]
theorem rp_seg (x : Pr) (h : PrOk x) : rp (trimL (seg x)) = some (par x) := by
  rw [trim_seg x h, rp_val _ _ _ (cut_seg _ _ (token_parts _ h.1).2) h.1, rv_text x h]; rfl
theorem rps_segs (xs : List Pr) (h : ∀ x ∈ xs, PrOk x) : rps ((xs.map seg).map trimL) = some (xs.map par) := by
  have gen : ∀ (xs : List Pr) (a : List Par), (∀ x ∈ xs, PrOk x) → ((xs.map seg).map trimL).foldl rpstep (some a) = some (a ++ xs.map par) := by
    intro xs
    induction xs with
    | nil => intro a _; simp
    | cons x xs ih =>
      intro a h
      have hx := h x (by simp)
      have he : (trimL (seg x)).isEmpty = false := by rw [trim_seg x hx]; simp
      rw [List.map_cons, List.map_cons, List.foldl_cons, rpstep_ok _ _ (par x) he (rp_seg x hx), ih _ (fun y hy => h y (by simp [hy]))]
      simp
  exact gen xs [] h
theorem params_text (xs : List Pr) (h : ∀ x ∈ xs, PrOk x) (hl : (text xs).length ≤ 1000) (hn : xs.length ≤ 20) : paramsS (text xs) = (value, xs.map par, 0) := by
  have hcl : ∀ r ∈ value :: xs.map seg, closed 59 r := by
    intro r hr
    simp only [List.mem_cons, List.mem_map] at hr
    rcases hr with rfl | ⟨x, hx, rfl⟩
    · unfold closed; rfl
    · exact seg_closed x (h x hx)
  obtain ⟨e1, e2⟩ := pieces_join 59 value (xs.map seg) hcl
  rw [← text_join] at e1 e2
  have hv : trimL ((pieces 59 (text xs)).headD []) = value := by rw [e1]; rfl
  rw [ps_ok _ (xs.map par) (by omega) e2 (by rw [hv]; rfl) (by rw [e1]; exact rps_segs xs h) (by simp; omega), hv]
end Go.Proofs.YthedmfbfolhaoacDoor
