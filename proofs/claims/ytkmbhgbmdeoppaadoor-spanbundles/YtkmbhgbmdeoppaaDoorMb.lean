/-
  Lists of wants in plain lists: printed, and read; no program is named here.
-/
import Derived.Test.YtkmbhgbmdeoppaaDoorMa
import Derived.Lib.Join
import Derived.Test.YtkmbhgbmdeoppaaDoorShelf
import Derived.Test.YtkmbhgbmdeoppaaDoorRows
import Derived.Below
import Derived.Laws.Rows
import Derived.Lib.Buffer
import Derived.Laws.IdiomStrings
import Derived.Lib.ItoaLen
import Derived.Handy
import Derived.Deep.SlicePairs
import Derived.RangeFuncWrites
import Derived.RangeFuncBox
import Derived.RangeFuncBound
import Derived.RangeFuncCalls
import Derived.RangeFuncLeaves
import Derived.Lib.IndexLaws
namespace Go.Proofs.YtkmbhgbmdeoppaaDoor
open Go.RowKit

def bytesB : List UInt8 := [98, 121, 116, 101, 115, 61]
def prSp (l : List Wn) : List UInt8 × Int := if chkW l = 0 then (bytesB ++ Lib.join (l.map prW) [44], 0) else ([], chkW l)
theorem chkW_zero {l : List Wn} (h : chkW l = 0) : l.all okW = true ∧ 1 ≤ l.length ∧ l.length ≤ 20 := by
  unfold chkW at h
  split at h
  · cases h
  · split at h
    · cases h
    · split at h
      · cases h
      · rename_i h1 h2 h3
        exact ⟨by simpa using h1, by omega, by omega⟩
theorem chkW_of {l : List Wn} (h1 : l.all okW = true) (h2 : 1 ≤ l.length) (h3 : l.length ≤ 20) : chkW l = 0 := by
  unfold chkW
  rw [if_neg (by rw [h1]; simp), if_neg (by omega), if_neg (by omega)]
theorem chkW_two (l : List Wn) : chkW l = 0 ∨ chkW l = 1 ∨ chkW l = 2 := by
  unfold chkW
  split
  · exact .inr (.inl rfl)
  · split
    · exact .inr (.inl rfl)
    · split
      · exact .inr (.inr rfl)
      · exact .inl rfl
theorem prSp_ok {l : List Wn} (h : chkW l = 0) : prSp l = (bytesB ++ Lib.join (l.map prW) [44], 0) := by unfold prSp; rw [if_pos h]
theorem prSp_bad {l : List Wn} (h : chkW l ≠ 0) : prSp l = ([], chkW l) := by unfold prSp; rw [if_neg h]
theorem prSp_code (l : List Wn) : (prSp l).2 = chkW l := by
  by_cases h : chkW l = 0
  · rw [prSp_ok h, h]
  · rw [prSp_bad h]
/-- What stands between signs d. -/
def spl (d : UInt8) : List UInt8 → List (List UInt8)
  | [] => [[]]
  | c :: r => if c = d then [] :: spl d r else match spl d r with
    | [] => [[c]]
    | x :: xs => (c :: x) :: xs
theorem spl_form (d : UInt8) (l : List UInt8) : ∃ w ws, spl d l = w :: ws ∧ l = w ++ wordsB d ws ∧ (∀ b ∈ w, b ≠ d) ∧ ∀ x ∈ ws, ∀ b ∈ x, b ≠ d := by
  induction l with
  | nil => exact ⟨[], [], rfl, rfl, by simp, by simp⟩
  | cons c r ih =>
    obtain ⟨w, ws, h1, h2, h3, h4⟩ := ih
    rw [spl]
    by_cases hc : c = d
    · rw [if_pos hc]
      refine ⟨[], spl d r, rfl, ?_, by simp, ?_⟩
      · rw [h1, wordsB_cons, hc]
        simp [← h2]
      · intro x hx
        rw [h1] at hx
        rcases List.mem_cons.1 hx with rfl | hx
        · exact h3
        · exact h4 x hx
    · rw [if_neg hc, h1]
      refine ⟨c :: w, ws, rfl, by rw [h2]; rfl, ?_, h4⟩
      intro b hb
      rcases List.mem_cons.1 hb with rfl | hb
      · exact hc
      · exact h3 b hb
theorem spl_words (d : UInt8) (w : List UInt8) (hw : ∀ b ∈ w, b ≠ d) (ws : List (List UInt8)) (h : ∀ x ∈ ws, ∀ b ∈ x, b ≠ d) : spl d (w ++ wordsB d ws) = w :: ws := by
  induction ws generalizing w with
  | nil =>
    induction w with
    | nil => rfl
    | cons c r ih =>
      have hr := ih (fun b hb => hw b (List.mem_cons_of_mem _ hb))
      show spl d (c :: (r ++ wordsB d [])) = _
      rw [spl, if_neg (hw c (by simp)), hr]
  | cons x ws ih =>
    induction w with
    | nil =>
      rw [List.nil_append, wordsB_cons, spl, if_pos rfl, ih x (h x (by simp)) (fun y hy => h y (List.mem_cons_of_mem _ hy))]
    | cons c r ihr =>
      have hr := ihr (fun b hb => hw b (List.mem_cons_of_mem _ hb))
      show spl d (c :: (r ++ wordsB d (x :: ws))) = _
      rw [spl, if_neg (hw c (by simp)), hr]
theorem join_spl (w : List UInt8) (ws : List (List UInt8)) (d : UInt8) : Lib.join (w :: ws) [d] = w ++ wordsB d ws := by
  induction ws generalizing w with
  | nil => simp [Lib.join, wordsB]
  | cons x ws ih =>
    have e : Lib.join (w :: x :: ws) [d] = w ++ d :: Lib.join (x :: ws) [d] := by simp [Lib.join, List.intercalate]
    rw [e, ih x, wordsB_cons]
def wstep (acc : Option (List Wn)) (p : List UInt8) : Option (List Wn) :=
  match acc with
  | none => none
  | some ws => match paW p with
    | none => none
    | some w => some (ws ++ [w])
def wnE (P : List (List UInt8)) : Option (List Wn) := P.foldl wstep (some [])
def paSp (s : List UInt8) : List Wn × Int :=
  if Lib.hasPrefix s bytesB = false then ([], 3) else match wnE ((spl 44 (s.drop 6)).map trimL) with
    | none => ([], 3)
    | some ws => if 20 < ws.length then ([], 2) else (ws, 0)
theorem wstep_dead (P : List (List UInt8)) : P.foldl wstep none = none := by
  induction P with
  | nil => rfl
  | cons a P ih => rw [List.foldl_cons]; exact ih
theorem wn_snoc (P : List (List UInt8)) (p : List UInt8) : wnE (P ++ [p]) = wstep (wnE P) p := by simp [wnE]
theorem wn_take (P : List (List UInt8)) (k : Nat) (h : k < P.length) : wnE (P.take (k + 1)) = wstep (wnE (P.take k)) P[k] := by
  rw [List.take_succ_eq_append_getElem h, wn_snoc]
theorem wn_dead (P : List (List UInt8)) (k : Nat) (h : k < P.length) (hd : wstep (wnE (P.take k)) P[k] = none) : wnE P = none := by
  have e : P = P.take k ++ P[k] :: P.drop (k + 1) := by rw [← List.drop_eq_getElem_cons h, List.take_append_drop]
  rw [e]
  unfold wnE at hd ⊢
  rw [List.foldl_append, List.foldl_cons, hd, wstep_dead]
theorem wn_len : ∀ (P : List (List UInt8)) (ws : List Wn), wnE P = some ws → ws.length = P.length := by
  have gen : ∀ (P : List (List UInt8)) (a : List Wn) ws, P.foldl wstep (some a) = some ws → ws.length = a.length + P.length := by
    intro P
    induction P with
    | nil => intro a ws h; simp at h; subst h; simp
    | cons p P ih =>
      intro a ws h
      rw [List.foldl_cons] at h
      cases hu : paW p with
      | none =>
        have : wstep (some a) p = none := by unfold wstep; simp [hu]
        rw [this, wstep_dead] at h; cases h
      | some w =>
        have : wstep (some a) p = some (a ++ [w]) := by unfold wstep; simp [hu]
        rw [this] at h
        have := ih _ _ h
        rw [this]; simp; omega
  intro P ws h
  have := gen P [] ws h
  simpa using this
theorem wn_back (l : List Wn) (h : l.all okW = true) (P : List (List UInt8)) (hP : P.map trimL = l.map prW) : wnE (P.map trimL) = some l := by
  rw [hP]
  have gen : ∀ (l : List Wn) (a : List Wn), l.all okW = true → (l.map prW).foldl wstep (some a) = some (a ++ l) := by
    intro l
    induction l with
    | nil => intro a _; simp
    | cons w l ih =>
      intro a hl
      rw [List.all_cons, Bool.and_eq_true] at hl
      rw [List.map_cons, List.foldl_cons]
      have : wstep (some a) (prW w) = some (a ++ [w]) := by unfold wstep; simp [paW_back hl.1]
      rw [this, ih _ hl.2]; simp
  have := gen l [] h
  simpa [wnE] using this
theorem prW_no44 {w : Wn} : ∀ b ∈ prW w, b ≠ 44 := by
  intro b hb
  unfold prW at hb
  rcases List.mem_append.1 hb with hb | hb
  · exact sgn_no w.1 44 (by decide) b hb
  · rcases List.mem_cons.1 hb with rfl | hb
    · decide
    · exact sgn_no w.2 44 (by decide) b hb
theorem prW_no_blank {w : Wn} : ∀ b ∈ prW w, blank b = false := by
  intro b hb
  have hd : ∀ c : UInt8, isDig c = true → blank c = false := by
    intro c h
    have := byAll (fun c => !isDig c || !blank c) (by decide +kernel) c
    rw [h] at this
    simpa using this
  unfold prW at hb
  rcases List.mem_append.1 hb with hb | hb
  · exact hd b (List.all_eq_true.1 (sgn_dig w.1) b hb)
  · rcases List.mem_cons.1 hb with rfl | hb
    · decide
    · exact hd b (List.all_eq_true.1 (sgn_dig w.2) b hb)
theorem trim_prW (w : Wn) : trimL (prW w) = prW w := by
  apply trimL_stays
  · intro b hb; exact prW_no_blank b (List.mem_of_mem_head? hb)
  · intro b hb; exact prW_no_blank b (List.mem_of_mem_getLast? hb)
theorem pre_bytes (r : List UInt8) : Lib.hasPrefix (bytesB ++ r) bytesB = true := by
  unfold bytesB
  simp [Lib.hasPrefix]
theorem drop_bytes (r : List UInt8) : (bytesB ++ r).drop 6 = r := rfl
/-- What is printed is read as it was, with blanks about commas, too. -/
theorem paSp_gap (l : List Wn) (h : chkW l = 0) (P : List (List UInt8)) (hP : P.map trimL = l.map prW) (h44 : ∀ x ∈ P, ∀ b ∈ x, b ≠ 44) : paSp (bytesB ++ Lib.join P [44]) = (l, 0) := by
  obtain ⟨h1, h2, h3⟩ := chkW_zero h
  have hl : P.length = l.length := by have := congrArg List.length hP; simpa using this
  obtain ⟨w, ws, rfl⟩ : ∃ w ws, P = w :: ws := by
    cases P with
    | nil => rw [List.length_nil] at hl; omega
    | cons w ws => exact ⟨w, ws, rfl⟩
  have hs : spl 44 (Lib.join (w :: ws) [44]) = w :: ws := by
    rw [join_spl]
    exact spl_words 44 w (h44 w (by simp)) ws (fun x hx => h44 x (List.mem_cons_of_mem _ hx))
  unfold paSp
  rw [if_neg (by rw [pre_bytes]; simp), drop_bytes, hs, wn_back l h1 _ hP]
  simp only
  rw [if_neg (by omega)]
theorem paSp_back (l : List Wn) (h : chkW l = 0) : paSp (prSp l).1 = (l, 0) := by
  rw [prSp_ok h]
  refine paSp_gap l h (l.map prW) ?_ ?_
  · rw [List.map_map]
    apply List.map_congr_left
    intro w _
    exact trim_prW w
  · intro x hx
    obtain ⟨w, _, rfl⟩ := List.mem_map.1 hx
    exact prW_no44
theorem paSp_nil : paSp [] = ([], 3) := by
  unfold paSp
  rw [if_pos (by decide)]
theorem paSp_ok {s : List UInt8} {ws : List Wn} (h : paSp s = (ws, 0)) : chkW ws = 0 := by
  unfold paSp at h
  split at h
  · cases (Prod.mk.inj h).2
  · cases hq : wnE ((spl 44 (s.drop 6)).map trimL) with
    | none => rw [hq] at h; cases (Prod.mk.inj h).2
    | some us =>
      rw [hq] at h
      simp only at h
      split at h
      · cases (Prod.mk.inj h).2
      · rename_i hl
        cases (Prod.mk.inj h).1
        have hn := wn_len _ _ hq
        obtain ⟨w, rest, hs, _⟩ := spl_form 44 (s.drop 6)
        rw [hs] at hn
        refine chkW_of ?_ (by rw [hn]; simp) (by omega)
        have gen : ∀ (P : List (List UInt8)) (a ws : List Wn), a.all okW = true → P.foldl wstep (some a) = some ws → ws.all okW = true := by
          intro P
          induction P with
          | nil => intro a ws ha h; simp at h; subst h; exact ha
          | cons p P ih =>
            intro a ws ha h
            rw [List.foldl_cons] at h
            cases hu : paW p with
            | none =>
              have : wstep (some a) p = none := by unfold wstep; simp [hu]
              rw [this, wstep_dead] at h; cases h
            | some w =>
              have e : wstep (some a) p = some (a ++ [w]) := by unfold wstep; simp [hu]
              rw [e] at h
              refine ih _ _ ?_ h
              rw [List.all_append, ha, List.all_cons, (paW_some hu).1]; rfl
        exact gen _ [] _ rfl hq
end Go.Proofs.YtkmbhgbmdeoppaaDoor

/-
  A slice of pairs of numbers (wants, or slices of a body), as a plain list; no program is named here.
-/
namespace Go.Proofs.YtkmbhgbmdeoppaaDoor
open Go.RowKit

def Wl (w : World) (v : Value) (ts : List Wn) : Prop :=
  ∃ ad cap, v = .slice ad ts.length cap ∧ ts.length ≤ cap ∧ cap ≤ maxLen ∧ (0 < ts.length → ∃ g off, ad = some ⟨g, off, none⟩ ∧ g < w.heap.size ∧
    ∀ (k : Nat) (h : k < ts.length), w.cell? ⟨g, off + k * 2, none⟩ = some (.int .i64 (ts[k]).1) ∧ w.cell? ⟨g, off + k * 2 + 1, none⟩ = some (.int .i64 (ts[k]).2))
theorem Wl.below {w w' : World} {v : Value} {ts : List Wn} (h : Wl w v ts) (hb : Below w.heap.size w w') : Wl w' v ts := by
  obtain ⟨ad, cap, hv, h1, h2, h3⟩ := h
  refine ⟨ad, cap, hv, h1, h2, fun h0 => ?_⟩
  obtain ⟨g, off, ha, hg, hc⟩ := h3 h0
  refine ⟨g, off, ha, Nat.lt_of_lt_of_le hg hb.size, fun k hk => ?_⟩
  obtain ⟨c1, c2⟩ := hc k hk
  exact ⟨(hb.cell (p := ⟨g, off + k * 2, none⟩) hg).trans c1, (hb.cell (p := ⟨g, off + k * 2 + 1, none⟩) hg).trans c2⟩
theorem Wl.nil (w : World) : Wl w (.slice none 0 0) [] := ⟨none, 0, rfl, Nat.le_refl _, by unfold maxLen; omega, fun h => absurd h (by simp)⟩
theorem Wl.own {w : World} {B : Nat} {e : TypeId} {v : Value} {ts : List Wn} (h : w.ownsRow B e 2 v ts.length (wns ts)) : Wl w v ts := by
  obtain ⟨ad, cap, hv, hcm, hnc, hc⟩ := own_form2 h
  refine ⟨ad, cap, hv, hnc, hcm, fun h0 => ?_⟩
  obtain ⟨g, ha, _, hg, hce⟩ := hc h0
  refine ⟨g, 0, ha, hg, fun k hk => ?_⟩
  obtain ⟨p1, p2⟩ := wns_get ts k hk
  rw [Nat.zero_add, hce _ (by omega), hce _ (by omega)]
  exact ⟨p1, p2⟩
theorem Wl.one (a b : Int) (w : World) (t : TypeId) : Wl (w.alloc (.cells #[.int .i64 a, .int .i64 b] t)) (.slice (some ⟨w.heap.size, 0, none⟩) 1 1) [(a, b)] := by
  refine ⟨_, 1, rfl, by simp, by unfold maxLen; omega, fun _ => ⟨w.heap.size, 0, rfl, by simp, fun k hk => ?_⟩⟩
  have hk0 : k = 0 := by simp at hk; omega
  subst hk0
  exact ⟨by simp, by simp⟩
/-- All numbers fit. -/
def WfW (ts : List Wn) : Prop := ∀ x ∈ ts, (Lit.int .i64 x.1).wf = true ∧ (Lit.int .i64 x.2).wf = true
theorem wf_int {n : Int} (h : (Lit.int .i64 n).wf = true) : -9223372036854775808 ≤ n ∧ n ≤ 9223372036854775807 := by
  simpa [Lit.wf, IntKind.min, IntKind.max, IntKind.signed, IntKind.bits] using h
end Go.Proofs.YtkmbhgbmdeoppaaDoor

/-
  What isWant, checkWants and hasBytes of package span compute; all numbers fit.
-/
namespace Go.Proofs.YtkmbhgbmdeoppaaDoor
open Go.RowKit

set_option maxHeartbeats 1000000 in
set_option maxRecDepth 100000 in
theorem swant_any (a b : Int) (w : World) :
    Calls Tryd.prog 43 #[.agg #[.int .i64 a, .int .i64 b]] w fun e w' => e = .returned (.bool (okW (a, b))) ∧ Below w.heap.size w w' := by
  have hw0 : Below w.heap.size w (w.alloc (.cells #[.int .i64 a, .int .i64 b] 31)) := (Below.refl _ w).alloc (Nat.le_refl _) _
  by_cases h1 : 99999 < a
  · have HO : Hid (false = okW (a, b)) := by
      show _ = _
      symm; unfold okW; rw [if_neg (show ¬ a = -1 by omega)]; simp; omega
    go_enter Tryd.func43, Tryd.ntmps43
    go_wp2_with fail
    go_ret
    exact ⟨ret_bool HO.out, hw0⟩
  · by_cases h2 : 99999 < b
    · have HO : Hid (false = okW (a, b)) := by
        show _ = _
        symm; unfold okW
        by_cases h : a = -1
        · rw [if_pos (show (a, b).1 = -1 from h)]; simp; omega
        · rw [if_neg (show ¬ (a, b).1 = -1 from h)]; simp; omega
      go_enter Tryd.func43, Tryd.ntmps43
      go_wp2_with fail
      go_ret
      exact ⟨ret_bool HO.out, hw0⟩
    · by_cases h3 : a = -1
      · have HO : Hid (decide (0 ≤ b) = okW (a, b)) := by
          show _ = _
          unfold okW
          rw [if_pos (show (a, b).1 = -1 from h3)]
          exact decide_eq_decide.2 ⟨fun h => ⟨h, by omega⟩, fun h => h.1⟩
        subst h3
        go_enter Tryd.func43, Tryd.ntmps43
        go_wp2_with fail
        go_ret
        exact ⟨ret_bool HO.out, hw0⟩
      · have h3b : (a == -1) = false := beq_eq_false_iff_ne.2 h3
        by_cases h4 : b = -1
        · have HO : Hid (decide (0 ≤ a) = okW (a, b)) := by
            show _ = _
            unfold okW
            rw [if_neg (show ¬ (a, b).1 = -1 from h3)]
            rw [decide_eq_true (show (a, b).2 = -1 from h4), Bool.true_or, Bool.and_true]
            exact decide_eq_decide.2 ⟨fun h => ⟨h, by omega⟩, fun h => h.1⟩
          subst h4
          clear h3
          go_enter Tryd.func43, Tryd.ntmps43
          go_wp2_with fail
          go_ret
          exact ⟨ret_bool HO.out, hw0⟩
        · have h4b : (b == -1) = false := beq_eq_false_iff_ne.2 h4
          have HO : Hid ((decide (0 ≤ a) && decide (a ≤ b)) = okW (a, b)) := by
            show _ = _
            unfold okW
            rw [if_neg (show ¬ (a, b).1 = -1 from h3), decide_eq_false (show ¬ (a, b).2 = -1 from h4), Bool.false_or]
            rw [Bool.eq_iff_iff]; simp; omega
          clear h3 h4
          by_cases h5 : 0 ≤ a
          · go_enter Tryd.func43, Tryd.ntmps43
            go_wp2_with fail
            go_ret
            exact ⟨ret_bool (by rw [← HO.out, decide_eq_true h5]; first | rfl | simp), hw0⟩
          · go_enter Tryd.func43, Tryd.ntmps43
            go_wp2_with fail
            go_ret
            exact ⟨ret_bool (by rw [← HO.out, decide_eq_false (show ¬ 0 ≤ a by omega)]; first | rfl | simp), hw0⟩
theorem alls_take (ls : List Wn) (k : Nat) (h : k < ls.length) (h0 : (ls.take k).all okW = true) (h1 : okW ls[k] = true) : (ls.take (k + 1)).all okW = true := by
  rw [List.take_succ_eq_append_getElem h, List.all_append, h0, List.all_cons, h1]; rfl
theorem alls_dead (ls : List Wn) (k : Nat) (h : k < ls.length) (h1 : okW ls[k] = false) : ls.all okW = false := by
  rw [List.all_eq_false]
  exact ⟨ls[k], List.getElem_mem h, by rw [h1]; simp⟩
set_option maxHeartbeats 1000000 in
set_option maxRecDepth 100000 in
theorem scheck_any (v : Value) (ls : List Wn) (w : World) (hf : Wl w v ls) :
    Calls Tryd.prog 18 #[v] w fun e w' => e = .returned (.int .i64 (chkW ls)) ∧ Below w.heap.size w w' := by
  have HF : Hid (Wl w v ls) := hf
  obtain ⟨ad, cap, rfl, hcap, hcm, _⟩ := id hf
  unfold maxLen at hcm
  clear hf
  go_enter Tryd.func18, Tryd.ntmps18
  go_wp2_with fail
  go_loopw [7] (fun i wr => ∃ k : Nat, k ≤ ls.length ∧ i = .int .i64 k ∧ (ls.take k).all okW = true ∧ Below w.heap.size w wr) (fun i _ => ls.length - (intOf i).toNat)
  case atStart => exact ⟨0, Nat.zero_le _, rfl, rfl, Below.refl _ _⟩
  case round =>
    obtain ⟨k, hk, rfl, hall, hw⟩ := hrel
    have HA : Hid ((ls.take k).all okW = true) := hall
    have hsz := hw.size
    clear hall
    by_cases hlt : k < ls.length
    · obtain ⟨ad', cap', hv', _, _, hc'⟩ := HF.out
      simp only [Value.slice.injEq] at hv'
      obtain ⟨rfl, _, rfl⟩ := hv'
      obtain ⟨g, off, rfl, hgs, hce⟩ := hc' (by omega)
      obtain ⟨c1, c2⟩ := hce k hlt
      obtain ⟨a, ha⟩ : ∃ a, a = (ls[k]).1 := ⟨_, rfl⟩
      obtain ⟨b, hb⟩ : ∃ b, b = (ls[k]).2 := ⟨_, rfl⟩
      have HE : Hid (ls[k] = (a, b)) := by show _ = _; rw [ha, hb]
      have d1 : wr.cell? ⟨g, off + k * 2, none⟩ = some (.int .i64 a) := by rw [hw.cell (p := ⟨g, off + k * 2, none⟩) hgs, ha]; exact c1
      have d2 : wr.cell? ⟨g, off + k * 2 + 1, none⟩ = some (.int .i64 b) := by rw [hw.cell (p := ⟨g, off + k * 2 + 1, none⟩) hgs, hb]; exact c2
      have hgr : g < wr.heap.size := by omega
      have hki : (k : Int) < (ls.length : Int) := by omega
      have hk0 : (0 : Int) ≤ (k : Int) := by omega
      clear hce c1 c2 ha hb hc'
      obtain ⟨r, hr⟩ : ∃ r, okW (a, b) = r := ⟨_, rfl⟩
      have HR : Hid (okW (a, b) = r) := hr
      clear hr
      have hw0 := hw.alloc hsz (.cells #[.int .i64 a, .int .i64 b] 31)
      cases r
      · have HD : Hid (chkW ls = 1) := by
          show _ = _
          unfold chkW
          rw [if_pos (alls_dead ls k hlt (by rw [HE.out, HR.out]))]
        go_wp2_with fail
        refine (swant_any a b _).mono ?_
        rintro e w1 ⟨rfl, hb1⟩
        rw [HR.out]
        have hw1 := hw0.trans (hb1.mono hw0.size)
        go_wp2_with fail
        go_ret
        exact ⟨ret_int HD.out.symm, hw1⟩
      · have HN : Hid ((ls.take (k + 1)).all okW = true) := alls_take ls k hlt HA.out (by rw [HE.out, HR.out])
        go_wp2_with fail
        refine (swant_any a b _).mono ?_
        rintro e w1 ⟨rfl, hb1⟩
        rw [HR.out]
        have hw1 := hw0.trans (hb1.mono hw0.size)
        go_wp2_with fail
        go_roundw
        case rel => exact ⟨k + 1, by omega, by go_num, HN.out, hw1⟩
        case measure => simp [intOf]; omega
    · have HAL : Hid (ls.all okW = true) := by
        show _ = _
        have := HA.out
        rwa [List.take_of_length_le (by omega)] at this
      by_cases h0 : ls.length = 0
      · have h0i : ((ls.length : Int) == 0) = true := by simp [h0]
        have HD : Hid (chkW ls = 1) := by
          show _ = _
          unfold chkW
          rw [if_neg (by rw [HAL.out]; simp), if_pos h0]
        clear h0
        go_wp2_with fail
        go_ret
        exact ⟨ret_int HD.out.symm, hw⟩
      · have h0i : ((ls.length : Int) == 0) = false := beq_eq_false_iff_ne.2 (by omega)
        by_cases h20 : 20 < ls.length
        · have h20i : (20 : Int) < (ls.length : Int) := by omega
          have HD : Hid (chkW ls = 2) := by
            show _ = _
            unfold chkW
            rw [if_neg (by rw [HAL.out]; simp), if_neg h0, if_pos h20]
          go_wp2_with fail
          go_ret
          exact ⟨ret_int HD.out.symm, hw⟩
        · have h20i : ¬ (20 : Int) < (ls.length : Int) := by omega
          have HD : Hid (chkW ls = 0) := by
            show _ = _
            unfold chkW
            rw [if_neg (by rw [HAL.out]; simp), if_neg h0, if_neg h20]
          go_wp2_with fail
          go_ret
          exact ⟨ret_int HD.out.symm, hw⟩
end Go.Proofs.YtkmbhgbmdeoppaaDoor

/-
  Small laws on rows of memory that a call made itself; no program is named here.
-/
namespace Go.Proofs.YtkmbhgbmdeoppaaDoor
open Go.RowKit

theorem own_nil {w : World} {B : Nat} {e : TypeId} {v : Value} {xs : List Value} (h : w.ownsRow B e 1 v 0 xs) : xs = [] := by
  have := h.1
  simpa using this

theorem own_cell {w : World} {B : Nat} {v : Value} {n : Nat} {ps : List (List UInt8)} (h : w.ownsRow B 9 1 v n (strs ps)) : n = ps.length := by
  have := h.1
  rw [strs_length] at this
  omega

theorem own_slice {w : World} {B : Nat} {e : TypeId} {v : Value} {n : Nat} {xs : List Value} (h : w.ownsRow B e 1 v n xs) : ∃ ad cap, v = .slice ad n cap ∧ cap ≤ maxLen ∧ n ≤ cap ∧ (0 < n → ∃ g, ad = some ⟨g, 0, none⟩ ∧ B ≤ g ∧ g < w.heap.size ∧ ∀ j, j < n → w.cell? ⟨g, j, none⟩ = xs[j]?) := by
  rcases h.2 with ⟨rfl, rfl⟩ | ⟨g, cap, cur, hv, hb, hg, hnc, hcm, _, _⟩
  · exact ⟨none, 0, rfl, by unfold maxLen; omega, Nat.le_refl _, fun h => absurd h (by omega)⟩
  · refine ⟨some ⟨g, 0, none⟩, cap, hv, hcm, hnc, fun _ => ⟨g, rfl, hb, (Array.getElem?_eq_some_iff.1 hg).1, fun j hj => ?_⟩⟩
    subst hv
    exact h.cellAt j (by omega)

theorem own_below2 {w w1 : World} {B : Nat} {e : TypeId} {v : Value} {n : Nat} {xs : List Value} (h : w.ownsRow B e 1 v n xs) (hb : Below w.heap.size w w1) : w1.ownsRow B e 1 v n xs := by
  refine ⟨h.1, ?_⟩
  rcases h.2 with h0 | ⟨g, cap, cur, hv, hB, hg, h3⟩
  · exact .inl h0
  · exact .inr ⟨g, cap, cur, hv, hB, (hb.block g (Array.getElem?_eq_some_iff.1 hg).1).trans hg, h3⟩
theorem ownsRow_le' {w : World} {B B' : Nat} {e : TypeId} {v : Value} {n : Nat} {xs : List Value} (h : w.ownsRow B e 1 v n xs) (hb : B' ≤ B) : w.ownsRow B' e 1 v n xs := by
  refine ⟨h.1, ?_⟩
  rcases h.2 with h0 | ⟨g, cap, cur, hv, hB, h3⟩
  · exact .inl h0
  · exact .inr ⟨g, cap, cur, hv, Nat.le_trans hb hB, h3⟩
end Go.Proofs.YtkmbhgbmdeoppaaDoor

/-
  What strings.Join computes, of a row of texts of the call's own.
-/
namespace Go.Proofs.YtkmbhgbmdeoppaaDoor
open Go.RowKit

def bas (ps : List (List UInt8)) : List ByteArray := ps.map fun p => ⟨p.toArray⟩
theorem bas_len (ps : List (List UInt8)) : (bas ps).length = ps.length := by simp [bas]
theorem bas_map (ps : List (List UInt8)) : (bas ps).map (·.data.toList) = ps := by
  induction ps with
  | nil => rfl
  | cons p ps ih => simp [bas] at ih ⊢; exact ih
theorem bas_get (ps : List (List UInt8)) (j : Nat) (x : ByteArray) (h : (bas ps)[j]? = some x) : (strs ps)[j]? = some (.string x) := by
  unfold bas at h
  unfold strs
  rw [List.getElem?_map] at h ⊢
  cases hp : ps[j]? with
  | none => rw [hp] at h; cases h
  | some p => rw [hp] at h; simp at h ⊢; exact h

theorem join_at (v : Value) (ps : List (List UInt8)) (B : Nat) (sep t : ByteArray) (ht : t.data.toList = Lib.join ps sep.data.toList) (w : World) (hown : w.ownsRow B 9 1 v ps.length (strs ps)) (hl : ps.length ≤ 140737488355328) (hj : t.size ≤ 140737488355328) :
    Calls Tryd.prog 20 #[v, .string sep] w fun e w' => e = .returned (.string t) ∧ Below w.heap.size w w' := by
  obtain ⟨ad, cap, hv, hcm, hnc, hc⟩ := own_slice hown
  subst hv
  by_cases h0 : ps.length = 0
  · have hp := List.eq_nil_of_length_eq_zero h0
    subst hp
    refine (Tryd.strings_Join_none ad cap sep w).mono ?_
    rintro e w' ⟨rfl, rfl⟩
    refine ⟨ret_str ?_, Below.refl _ _⟩
    apply ByteArray.ext; apply Array.ext'
    rw [ht]; rfl
  · obtain ⟨g, rfl, hgB, hgs, hce⟩ := hc (by omega)
    have c := Tryd.strings_Join g 0 cap (bas ps) sep w (fun j x hx => by
      have hjl : j < ps.length := by
        rw [← bas_len]
        rcases Nat.lt_or_ge j (bas ps).length with h | h
        · exact h
        · rw [List.getElem?_eq_none h] at hx; cases hx
      rw [Nat.zero_add, hce j hjl]
      exact bas_get ps j x hx) hgs (by rw [bas_len]; omega) (by rw [bas_len]; exact hnc) (by rw [bas_map, ← ht, size_list]; omega)
    rw [bas_len, bas_map] at c
    refine c.mono ?_
    rintro e w' ⟨rfl, hb⟩
    refine ⟨ret_str ?_, hb⟩
    apply ByteArray.ext; apply Array.ext'
    rw [ht]
end Go.Proofs.YtkmbhgbmdeoppaaDoor

/-
  The row of the type of texts, and the cells of a block of one; over the program's table of types.
-/
namespace Go.Proofs.YtkmbhgbmdeoppaaDoor
open Go.RowKit

theorem info9 : (Tryd.prog.info? 9).map (fun i => (i.zero, i.size, i.bytes)) = some (some (.string ⟨#[]⟩), 1, 16) := by kernel_rfl
theorem one_cell (w : World) (v : Value) (t : TypeId) : ∀ (j : Nat) u, [v][j]? = some u → (w.alloc (.cells #[v] t)).cell? ((⟨w.heap.size, 0, none⟩ : Addr).add j) = some u := by
  intro j u h
  match j, h with
  | 0, h => simp at h; subst h; simp [Addr.add]
end Go.Proofs.YtkmbhgbmdeoppaaDoor

/-
  What Print of package span answers; the listed variables of package strconv hold what their text lays.
-/
namespace Go.Proofs.YtkmbhgbmdeoppaaDoor
open Go.RowKit

theorem sjoin_small (ls : List Wn) (h : ls.all okW = true) : (Lib.join (ls.map prW) [44]).length ≤ 12 * ls.length := by
  induction ls with
  | nil => simp [Lib.join]
  | cons w ls ih =>
    rw [List.all_cons, Bool.and_eq_true] at h
    have h1 := ih h.2
    have h2 := prW_len h.1
    rw [List.map_cons]
    cases ls with
    | nil => rw [List.map_nil, Lib.join_one]; simp; omega
    | cons x xs =>
      have e : Lib.join (prW w :: (x :: xs).map prW) [44] = prW w ++ 44 :: Lib.join ((x :: xs).map prW) [44] := by
        simp [Lib.join, List.intercalate]
      rw [e, List.length_append, List.length_cons]
      simp only [List.length_cons] at h1 ⊢
      omega
set_option maxHeartbeats 2000000 in
set_option maxRecDepth 100000 in
theorem sprint_at (v : Value) (ls : List Wn) (t : ByteArray) (c : Int) (h : prSp ls = (t.data.toList, c)) (w : World) (hf : Wl w v ls) (hT : PowT w) :
    Calls Tryd.prog 7 #[v] w fun e w' => e = .returned (.tuple #[.string t, .int .i64 c]) ∧ Below w.heap.size w w' := by
  obtain ⟨i0, hi, hz0, hz1, hz2⟩ := info_parts info9
  have HF : Hid (Wl w v ls) := hf
  have HP : Hid (prSp ls = (t.data.toList, c)) := h
  have HT : Hid (PowT w) := hT
  have hcc : chkW ls = c := by rw [← prSp_code, h]
  have HC : Hid (chkW ls = c) := hcc
  clear hf h hT
  by_cases hc : c = 0
  · subst hc
    obtain ⟨hall, hl1, hl20⟩ := chkW_zero hcc
    have HAL : Hid (ls.all okW = true) := hall
    obtain ⟨u, hu⟩ : ∃ u : ByteArray, u.data.toList = Lib.join (ls.map prW) [44] := ⟨⟨(Lib.join (ls.map prW) [44]).toArray⟩, rfl⟩
    have HU : Hid (u.data.toList = Lib.join (ls.map prW) (⟨#[44]⟩ : ByteArray).data.toList) := hu
    have hus : u.size ≤ 240 := by rw [← size_list, hu]; have := sjoin_small ls hall; omega
    have HTT : Hid ((⟨#[98, 121, 116, 101, 115, 61]⟩ : ByteArray) ++ u = t) := by
      have := HP.out
      rw [prSp_ok hcc] at this
      show _ = _
      apply ByteArray.ext; apply Array.ext'
      rw [← (Prod.mk.inj this).1]
      simp [hu, bytesB]
    obtain ⟨ad, cap, hv, hcap, hcm, _⟩ := HF.out
    subst hv
    unfold maxLen at hcm
    obtain ⟨P, hP⟩ : ∃ P, ls.map prW = P := ⟨_, rfl⟩
    have HPL : Hid (P.length = ls.length) := by show _ = _; rw [← hP, List.length_map]
    have HPG : Hid (∀ (k : Nat) (h : k < ls.length) (h2 : k < P.length), P[k] = prW ls[k]) := by intro k h h2; subst hP; rw [List.getElem_map]
    rw [hP] at HU
    clear hcc hall hu hP
    go_enter Tryd.func7, Tryd.ntmps7
    go_wp2_with fail
    refine (scheck_any _ ls _ HF.out).mono ?_
    rintro e w1 ⟨rfl, hb1⟩
    have HF1 : Hid (Wl w1 (.slice ad ls.length cap) ls) := HF.out.below hb1
    have HT1 : Hid (PowT w1) := HT.out.below hb1
    have HB1 : Hid (Below w.heap.size w w1) := hb1
    have hsz1 := hb1.size
    rw [HC.out]
    clear hb1
    go_wp2_with fail
    go_loopw [5, 15] (fun o i wr => ∃ k : Nat, k ≤ ls.length ∧ i = .int .i64 k ∧ wr.ownsRow w1.heap.size 9 1 o (P.take k).length (strs (P.take k)) ∧ Below w1.heap.size w1 wr) (fun _ i _ => ls.length - (intOf i).toNat)
    case atStart => exact ⟨0, Nat.zero_le _, rfl, World.ownsRow_nil _ _ _ _, Below.refl _ _⟩
    case round =>
      obtain ⟨k, hk, rfl, hown, hw1⟩ := hrel
      have hszr := hw1.size
      have hrl : (P.take k).length ≤ 20 := by
        have h2 := List.length_take_le' k P
        have := HPL.out
        omega
      by_cases hlt : k < ls.length
      · obtain ⟨ad', cap', hv', _, _, hc'⟩ := HF1.out
        simp only [Value.slice.injEq] at hv'
        obtain ⟨rfl, hx, rfl⟩ := hv'
        clear hx
        obtain ⟨g, off, rfl, hgs, hce⟩ := hc' (by omega)
        obtain ⟨c1, c2⟩ := hce k hlt
        have hok := List.all_eq_true.1 HAL.out ls[k] (List.getElem_mem hlt)
        obtain ⟨a, ha⟩ : ∃ a, a = (ls[k]).1 := ⟨_, rfl⟩
        obtain ⟨b, hb⟩ : ∃ b, b = (ls[k]).2 := ⟨_, rfl⟩
        have he : ls[k] = (a, b) := by rw [ha, hb]
        rw [he] at hok
        rw [← ha] at c1
        rw [← hb] at c2
        obtain ⟨x, hx⟩ : ∃ x : ByteArray, x.data.toList = prW (a, b) := ⟨⟨(prW (a, b)).toArray⟩, rfl⟩
        have HX : Hid (x.data.toList = prW (a, b)) := hx
        have HOK : Hid (okW (a, b) = true) := hok
        have HXA : Hid (x = ⟨(prW (a, b)).toArray⟩) := by show _ = _; apply ByteArray.ext; apply Array.ext'; exact hx
        have d1 : wr.cell? ⟨g, off + k * 2, none⟩ = some (.int .i64 a) := (hw1.cell (p := ⟨g, off + k * 2, none⟩) hgs).trans c1
        have d2 : wr.cell? ⟨g, off + k * 2 + 1, none⟩ = some (.int .i64 b) := (hw1.cell (p := ⟨g, off + k * 2 + 1, none⟩) hgs).trans c2
        have hgr : g < wr.heap.size := by omega
        have hki : (k : Int) < (ls.length : Int) := by omega
        have hk0 : (0 : Int) ≤ (k : Int) := by omega
        have hw10 := hw1.alloc hszr (.cells #[.int .i64 a, .int .i64 b] 31)
        have hown0 := hown.alloc (.cells #[.int .i64 a, .int .i64 b] 31)
        have HTW : Hid (PowT (wr.alloc (.cells #[.int .i64 a, .int .i64 b] 31))) := HT1.out.below hw10
        have HN : Hid (P.take (k + 1) = P.take k ++ [prW (a, b)]) := by
          show _ = _
          rw [List.take_succ_eq_append_getElem (by rw [HPL.out]; exact hlt), HPG.out k hlt, he]
        clear hce c1 c2 ha hb hc' hown hw1 hok he hx
        go_wp2_with fail
        refine (spwant_at a b HOK.out x HX.out _ HTW.out).mono ?_
        rintro e w4 ⟨rfl, hb4⟩
        have hown := own_below3 hown0 hb4
        have hw1 := hw10.trans (hb4.mono hw10.size)
        have hszq1 := hw1.size
        clear hown0 hw10 hb4
        go_wp2_with (at_builtin; refine wpList_append_own _ rfl _ _ 43 rfl w1.heap.size 9 i0 (.string ⟨#[]⟩) 1 16 Tryd.underlying43 hi hz0 hz1 hz2 rfl (by decide) _ _ _ rfl (hown.alloc _) ⟨w4.heap.size, 0, none⟩ 1 1 [.string x] rfl rfl ?c1 ?c2 ?c3 ?c4 ?c5 ?_)
        case c1 => exact one_cell _ _ _
        case c2 => intro z hx; simp at hx; subst hx; rfl
        case c3 => unfold maxLen; omega
        case c4 => omega
        case c5 => simp; omega
        · intro v' w5 hown' hgrow _
          have hB1 : Below w1.heap.size w1 w5 := (hw1.alloc hszq1 _).grown hgrow (by simp; omega) (fun bb hb => ((hown.alloc (.cells #[.string x] 9)).lt bb hb).1)
          have HOWN : Hid (w5.ownsRow w1.heap.size 9 1 v' (P.take (k + 1)).length (strs (P.take (k + 1)))) := by
            show World.ownsRow _ _ _ _ _ _ _
            rw [HN.out, List.length_append, List.length_singleton, List.length_take, ← strs_snoc, ← HXA.out]; exact hown'
          clear hown' hgrow
          go_wp2_with fail
          go_roundw
          case rel => exact ⟨k + 1, by omega, by go_num, HOWN.out, hB1⟩
          case measure => simp [intOf]; omega
      · rw [List.take_of_length_le (by rw [HPL.out]; omega)] at hown hrl
        have HBF : Hid (Below w.heap.size w wr) := HB1.out.trans (hw1.mono hsz1)
        have HOWN : Hid (wr.ownsRow w1.heap.size 9 1 _ P.length (strs P)) := hown
        clear hown hw1
        go_wp2_with fail
        refine (join_at _ P w1.heap.size ⟨#[44]⟩ u HU.out _ HOWN.out (by omega) (by omega)).mono ?_
        rintro e w6 ⟨rfl, hb6⟩
        have hbf := HBF.out.trans (hb6.mono HBF.out.size)
        go_wp2_with fail
        go_ret2
        exact ⟨by rw [← HTT.out]; try rfl, hbf⟩
  · have hcb : (c != 0) = true := by simpa using hc
    have HE : Hid (t = ⟨#[]⟩) := by
      have := HP.out
      rw [prSp_bad (by rw [hcc]; exact hc)] at this
      apply ByteArray.ext; apply Array.ext'; exact (Prod.mk.inj this).1.symm
    clear hcc
    go_enter Tryd.func7, Tryd.ntmps7
    go_wp2_with fail
    refine (scheck_any _ ls _ HF.out).mono ?_
    rintro e w1 ⟨rfl, hb1⟩
    rw [HC.out]
    go_wp2_with fail
    go_ret2
    exact ⟨by rw [HE.out]; try rfl, hb1⟩
end Go.Proofs.YtkmbhgbmdeoppaaDoor

/-
  What the function outside of the document's answers computes.
-/
namespace Go.Proofs.YtkmbhgbmdeoppaaDoor
open Go.RowKit

set_option maxHeartbeats 400000 in
set_option maxRecDepth 100000 in
theorem outside_any (a b c : Int) (w : World) :
    Calls Tryd.prog 42 #[.int .i64 a, .int .i64 b, .int .i64 c] w fun e w' => e = .returned (.bool (decide (a < b ∨ c < a))) ∧ w' = w := by
  by_cases h : a < b
  · rw [decide_eq_true (Or.inl h)]
    go_enter Tryd.func42, Tryd.ntmps42
    go_wp2
    go_ret
    exact ⟨rfl, rfl⟩
  · have hd : decide (a < b) = false := decide_eq_false h
    by_cases h2 : c < a
    · rw [decide_eq_true (Or.inr h2)]
      go_enter Tryd.func42, Tryd.ntmps42
      go_wp2
      go_ret
      exact ⟨ret_bool (by simp), rfl⟩
    · rw [decide_eq_false (by omega)]
      have hd2 : decide (c < a) = false := decide_eq_false h2
      go_enter Tryd.func42, Tryd.ntmps42
      go_wp2
      go_ret
      exact ⟨ret_bool (by simp), rfl⟩
end Go.Proofs.YtkmbhgbmdeoppaaDoor

/-
  What the function outside of the document's answers computes, as a letter.
-/
namespace Go.Proofs.YtkmbhgbmdeoppaaDoor
open Go.RowKit

theorem out_is (a b c : Int) : decide (a < b ∨ c < a) = !decide (b ≤ a ∧ a ≤ c) := by
  by_cases h : b ≤ a ∧ a ≤ c
  · rw [decide_eq_true h, decide_eq_false (by omega)]; rfl
  · rw [decide_eq_false h, decide_eq_true (by omega)]; rfl
theorem rout_at (a b c : Int) (r : Bool) (h : (!decide (b ≤ a ∧ a ≤ c)) = r) (w : World) :
    Calls Tryd.prog 42 #[.int .i64 a, .int .i64 b, .int .i64 c] w fun e w' => e = .returned (.bool r) ∧ Below w.heap.size w w' := by
  refine (outside_any a b c w).mono ?_
  rintro e w' ⟨rfl, rfl⟩
  exact ⟨ret_bool ((out_is a b c).trans h), Below.refl _ _⟩
end Go.Proofs.YtkmbhgbmdeoppaaDoor

/-
  What the document's answers wanted and SpanCheck compute; all numbers fit.
-/
namespace Go.Proofs.YtkmbhgbmdeoppaaDoor
open Go.RowKit

set_option maxHeartbeats 1000000 in
set_option maxRecDepth 100000 in
theorem rwanted_any (a b : Int) (w : World) :
    Calls Tryd.prog 46 #[.agg #[.int .i64 a, .int .i64 b]] w fun e w' => e = .returned (.bool (okW (a, b))) ∧ Below w.heap.size w w' := by
  have hw0 : Below w.heap.size w (w.alloc (.cells #[.int .i64 a, .int .i64 b] 31)) := (Below.refl _ w).alloc (Nat.le_refl _) _
  have hsz : (w.alloc (.cells #[.int .i64 a, .int .i64 b] 31)).heap.size = w.heap.size + 1 := by simp
  by_cases h : a = -1
  · obtain ⟨r, hr⟩ : ∃ r, (!decide (0 ≤ b ∧ b ≤ 99999)) = r := ⟨_, rfl⟩
    have HR : Hid ((!decide (0 ≤ b ∧ b ≤ 99999)) = r) := hr
    have HO : Hid ((!r) = okW (a, b)) := by
      show _ = _
      rw [← hr, Bool.not_not]
      unfold okW
      rw [if_pos (show (a, b).1 = -1 from h)]
    subst h
    clear hr
    go_enter Tryd.func46, Tryd.ntmps46
    go_wp2_with fail
    refine (rout_at b 0 99999 r HR.out _).mono ?_
    rintro e w1 ⟨rfl, hb1⟩
    have hw1 := hw0.trans (hb1.mono (by rw [hsz]; omega))
    go_wp2_with fail
    go_ret
    exact ⟨ret_bool HO.out, hw1⟩
  · have hne : (a == -1) = false := beq_eq_false_iff_ne.2 h
    obtain ⟨r, hr⟩ : ∃ r, (!decide (0 ≤ a ∧ a ≤ 99999)) = r := ⟨_, rfl⟩
    obtain ⟨q, hq⟩ : ∃ q, (!decide (a ≤ b ∧ b ≤ 99999)) = q := ⟨_, rfl⟩
    have HR : Hid ((!decide (0 ≤ a ∧ a ≤ 99999)) = r) := hr
    have HQ : Hid ((!decide (a ≤ b ∧ b ≤ 99999)) = q) := hq
    have HO : Hid ((!r && (decide (b = -1) || !q)) = okW (a, b)) := by
      show _ = _
      rw [← hr, ← hq, Bool.not_not, Bool.not_not]
      unfold okW
      rw [if_neg (show ¬ (a, b).1 = -1 from h)]
    have k0 : (w.alloc (.cells #[.int .i64 a, .int .i64 b] 31)).cell? ⟨w.heap.size, 0, none⟩ = some (.int .i64 a) := by simp
    have k1 : (w.alloc (.cells #[.int .i64 a, .int .i64 b] 31)).cell? ⟨w.heap.size, 1, none⟩ = some (.int .i64 b) := by simp
    have HK0 : Hid ((w.alloc (.cells #[.int .i64 a, .int .i64 b] 31)).cell? ⟨w.heap.size, 0, none⟩ = some (.int .i64 a)) := k0
    have HK1 : Hid ((w.alloc (.cells #[.int .i64 a, .int .i64 b] 31)).cell? ⟨w.heap.size, 1, none⟩ = some (.int .i64 b)) := k1
    clear hr hq h k0 k1
    cases r
    · by_cases hb : b = -1
      · have hbe : (b == -1) = true := beq_iff_eq.2 hb
        have HBD : Hid (decide (b = -1) = true) := decide_eq_true hb
        clear hb
        go_enter Tryd.func46, Tryd.ntmps46
        go_wp2_with fail
        refine (rout_at a 0 99999 false HR.out _).mono ?_
        rintro e w1 ⟨rfl, hb1⟩
        have hw1 := hw0.trans (hb1.mono (by rw [hsz]; omega))
        have c0 := cell_keep hb1 HK0.out
        have c1 := cell_keep hb1 HK1.out
        go_wp2_with fail
        go_ret
        exact ⟨ret_bool (by rw [← HO.out, HBD.out]; rfl), hw1⟩
      · have hbe : (b == -1) = false := beq_eq_false_iff_ne.2 hb
        have HBD : Hid (decide (b = -1) = false) := decide_eq_false hb
        clear hb
        go_enter Tryd.func46, Tryd.ntmps46
        go_wp2_with fail
        refine (rout_at a 0 99999 false HR.out _).mono ?_
        rintro e w1 ⟨rfl, hb1⟩
        have hw1 := hw0.trans (hb1.mono (by rw [hsz]; omega))
        have c0 := cell_keep hb1 HK0.out
        have c1 := cell_keep hb1 HK1.out
        go_wp2_with fail
        refine (rout_at b a 99999 q HQ.out _).mono ?_
        rintro e w2 ⟨rfl, hb2⟩
        have hw2 := hw1.trans (hb2.mono hw1.size)
        go_wp2_with fail
        go_ret
        exact ⟨ret_bool (by rw [← HO.out, HBD.out]; cases q <;> rfl), hw2⟩
    · go_enter Tryd.func46, Tryd.ntmps46
      go_wp2_with fail
      refine (rout_at a 0 99999 true HR.out _).mono ?_
      rintro e w1 ⟨rfl, hb1⟩
      have hw1 := hw0.trans (hb1.mono (by rw [hsz]; omega))
      go_wp2_with fail
      go_ret
      exact ⟨ret_bool (by rw [← HO.out]; rfl), hw1⟩
theorem all_take (ls : List Wn) (k : Nat) (h : k < ls.length) (h0 : (ls.take k).all okW = true) (h1 : okW ls[k] = true) : (ls.take (k + 1)).all okW = true := by
  rw [List.take_succ_eq_append_getElem h, List.all_append, h0, List.all_cons, h1]; rfl
theorem all_dead (ls : List Wn) (k : Nat) (h : k < ls.length) (h1 : okW ls[k] = false) : ls.all okW = false := by
  rw [List.all_eq_false]
  exact ⟨ls[k], List.getElem_mem h, by rw [h1]; simp⟩
set_option maxHeartbeats 1000000 in
set_option maxRecDepth 100000 in
theorem rscheck_any (v : Value) (ls : List Wn) (w : World) (hf : Wl w v ls) :
    Calls Tryd.prog 21 #[v] w fun e w' => e = .returned (.int .i64 (chkW ls)) ∧ Below w.heap.size w w' := by
  have HF : Hid (Wl w v ls) := hf
  obtain ⟨ad, cap, rfl, hcap, hcm, _⟩ := id hf
  unfold maxLen at hcm
  clear hf
  go_enter Tryd.func21, Tryd.ntmps21
  go_wp2_with fail
  go_loopw [7] (fun i wr => ∃ k : Nat, k ≤ ls.length ∧ i = .int .i64 k ∧ (ls.take k).all okW = true ∧ Below w.heap.size w wr) (fun i _ => ls.length - (intOf i).toNat)
  case atStart => exact ⟨0, Nat.zero_le _, rfl, rfl, Below.refl _ _⟩
  case round =>
    obtain ⟨k, hk, rfl, hall, hw⟩ := hrel
    have HA : Hid ((ls.take k).all okW = true) := hall
    have hsz := hw.size
    clear hall
    by_cases hlt : k < ls.length
    · obtain ⟨ad', cap', hv', _, _, hc'⟩ := HF.out
      simp only [Value.slice.injEq] at hv'
      obtain ⟨rfl, _, rfl⟩ := hv'
      obtain ⟨g, off, rfl, hgs, hce⟩ := hc' (by omega)
      obtain ⟨c1, c2⟩ := hce k hlt
      obtain ⟨a, ha⟩ : ∃ a, a = (ls[k]).1 := ⟨_, rfl⟩
      obtain ⟨b, hb⟩ : ∃ b, b = (ls[k]).2 := ⟨_, rfl⟩
      have HE : Hid (ls[k] = (a, b)) := by show _ = _; rw [ha, hb]
      have d1 : wr.cell? ⟨g, off + k * 2, none⟩ = some (.int .i64 a) := by rw [hw.cell (p := ⟨g, off + k * 2, none⟩) hgs, ha]; exact c1
      have d2 : wr.cell? ⟨g, off + k * 2 + 1, none⟩ = some (.int .i64 b) := by rw [hw.cell (p := ⟨g, off + k * 2 + 1, none⟩) hgs, hb]; exact c2
      have hgr : g < wr.heap.size := by omega
      have hki : (k : Int) < (ls.length : Int) := by omega
      have hk0 : (0 : Int) ≤ (k : Int) := by omega
      clear hce c1 c2 ha hb hc'
      obtain ⟨r, hr⟩ : ∃ r, okW (a, b) = r := ⟨_, rfl⟩
      have HR : Hid (okW (a, b) = r) := hr
      clear hr
      have hw0 := hw.alloc hsz (.cells #[.int .i64 a, .int .i64 b] 31)
      cases r
      · have HD : Hid (chkW ls = 1) := by
          show _ = _
          unfold chkW
          rw [if_pos (all_dead ls k hlt (by rw [HE.out, HR.out]))]
        go_wp2_with fail
        refine (rwanted_any a b _).mono ?_
        rintro e w1 ⟨rfl, hb1⟩
        rw [HR.out]
        have hw1 := hw0.trans (hb1.mono hw0.size)
        go_wp2_with fail
        go_ret
        exact ⟨ret_int HD.out.symm, hw1⟩
      · have HN : Hid ((ls.take (k + 1)).all okW = true) := all_take ls k hlt HA.out (by rw [HE.out, HR.out])
        go_wp2_with fail
        refine (rwanted_any a b _).mono ?_
        rintro e w1 ⟨rfl, hb1⟩
        rw [HR.out]
        have hw1 := hw0.trans (hb1.mono hw0.size)
        go_wp2_with fail
        go_roundw
        case rel => exact ⟨k + 1, by omega, by go_num, HN.out, hw1⟩
        case measure => simp [intOf]; omega
    · have HAL : Hid (ls.all okW = true) := by
        show _ = _
        have := HA.out
        rwa [List.take_of_length_le (by omega)] at this
      by_cases h0 : ls.length = 0
      · have h0i : ((ls.length : Int) == 0) = true := by simp [h0]
        have HD : Hid (chkW ls = 1) := by
          show _ = _
          unfold chkW
          rw [if_neg (by rw [HAL.out]; simp), if_pos h0]
        clear h0
        go_wp2_with fail
        go_ret
        exact ⟨ret_int HD.out.symm, hw⟩
      · have h0i : ((ls.length : Int) == 0) = false := beq_eq_false_iff_ne.2 (by omega)
        by_cases h20 : 20 < ls.length
        · have h20i : (20 : Int) < (ls.length : Int) := by omega
          have HD : Hid (chkW ls = 2) := by
            show _ = _
            unfold chkW
            rw [if_neg (by rw [HAL.out]; simp), if_neg h0, if_pos h20]
          go_wp2_with fail
          go_ret
          exact ⟨ret_int HD.out.symm, hw⟩
        · have h20i : ¬ (20 : Int) < (ls.length : Int) := by omega
          have HD : Hid (chkW ls = 0) := by
            show _ = _
            unfold chkW
            rw [if_neg (by rw [HAL.out]; simp), if_neg h0, if_neg h20]
          go_wp2_with fail
          go_ret
          exact ⟨ret_int HD.out.symm, hw⟩
end Go.Proofs.YtkmbhgbmdeoppaaDoor

/-
  What chr of the document's answers computes, a contract over the program's text.
-/
namespace Go.Proofs.YtkmbhgbmdeoppaaDoor
open Go.RowKit

theorem mk_data (s : ByteArray) (l : List UInt8) (h : s.data.toList = l) : s = ⟨l.toArray⟩ := by
  apply ByteArray.ext
  rw [← h, Array.toArray_toList]
theorem app_list (a b : ByteArray) : (a ++ b).data.toList = a.data.toList ++ b.data.toList := by
  rw [ByteArray.data_append, Array.toList_append]

set_option maxHeartbeats 1000000 in
set_option maxRecDepth 100000 in
theorem rchr_any (u : Nat) (h : u < 256) (w : World) :
    Calls Tryd.prog 55 #[.int .i64 (u : Int)] w fun e w' => e = .returned (.string ⟨#[UInt8.ofNat u]⟩) ∧ Below w.heap.size w w' := by
  have h1 : (u : Int) < 256 := by omega
  have h0 : (0 : Int) ≤ (u : Int) := by omega
  have hcv := run_convert_bytes_back (P := Tryd.prog) (w.alloc (.cells #[.int .u8 (u : Int)] 5)) 65 9 5 ⟨w.heap.size, 0, none⟩ 1 [UInt8.ofNat u] Tryd.underlying65 Tryd.underlying5 Tryd.underlying9 (fun j hj => by
    have hj' : j < 1 := hj
    obtain rfl : j = 0 := by omega
    rw [show (⟨w.heap.size, 0, none⟩ : Addr).add 0 = ⟨w.heap.size, 0, none⟩ from rfl, World.cell?_alloc_at _ _ _ _ (by simp)]
    simp [Nat.mod_eq_of_lt h])
  rw [show ([UInt8.ofNat u] : List UInt8).length = 1 from rfl] at hcv
  go_enter Tryd.func55, Tryd.ntmps55
  go_wp2_with fail
  go_ret
  exact ⟨rfl, (Below.refl _ w).alloc (Nat.le_refl _) _⟩
end Go.Proofs.YtkmbhgbmdeoppaaDoor

/-
  What chr and Digits of the document's answers compute, each a contract over the program's text.
-/
namespace Go.Proofs.YtkmbhgbmdeoppaaDoor
open Go.RowKit

theorem dec_len (u : Nat) (h : u ≤ 9223372036854775807) : (Lib.decDigits u).length ≤ 21 := by
  have := Lib.itoa_length_le (u : Int) (by omega) (by omega)
  rw [Lib.itoa, if_neg (by omega)] at this
  simpa using this

set_option maxHeartbeats 1000000 in
set_option maxRecDepth 100000 in
theorem rdigits_any (N : Nat) : ∀ (u : Nat) (_ : u ≤ N) (_ : u ≤ 9223372036854775807) (w : World),
    Calls Tryd.prog 34 #[.int .i64 (u : Int)] w fun e w' => e = .returned (.string ⟨(Lib.decDigits u).toArray⟩) ∧ Below w.heap.size w w' := by
  induction N with
  | zero =>
    intro u h1 h2 w
    obtain rfl : u = 0 := by omega
    have c := rchr_any 48 (by omega) w
    go_enter Tryd.func34, Tryd.ntmps34
    go_wp2_with fail
    refine c.mono ?_
    rintro e w1 ⟨rfl, hb⟩
    go_wp2_with fail
    go_ret
    exact ⟨ret_str (by rw [Lib.decDigits_one (by omega)]; rfl), hb⟩
  | succ N ih =>
    intro u h1 h2 w
    by_cases h10 : u < 10
    · have c := rchr_any (48 + u) (by omega) w
      have hi : (u : Int) < 10 := by omega
      have HL : Hid (Lib.decDigits u = [UInt8.ofNat (48 + u)]) := Lib.decDigits_one h10
      rw [Int.natCast_add] at c
      clear ih
      go_enter Tryd.func34, Tryd.ntmps34
      go_wp2_with fail
      refine c.mono ?_
      rintro e w1 ⟨rfl, hb⟩
      go_wp2_with fail
      go_ret
      exact ⟨ret_str (by rw [HL.out, UInt8.ofNat_add]; rfl), hb⟩
    · have c1 := ih (u / 10) (by omega) (by omega) w
      have c2 := rchr_any (48 + u % 10) (by omega)
      have hlen := dec_len (u / 10) (by omega)
      obtain ⟨t, ht⟩ : ∃ t : ByteArray, t = ⟨(Lib.decDigits (u / 10)).toArray⟩ := ⟨_, rfl⟩
      rw [← ht] at c1
      have hts : t.size ≤ 21 := by rw [← size_list, ht]; exact hlen
      have HL : Hid (Lib.decDigits u = t.data.toList ++ [UInt8.ofNat (48 + u % 10)]) := by
        show Lib.decDigits u = _
        rw [Lib.decDigits, dif_neg h10, ht]
      have hi : ¬ (u : Int) < 10 := by omega
      have hmx : (u : Int) ≤ 9223372036854775807 := by omega
      rw [Int.natCast_ediv] at c1
      clear ih ht hlen
      go_enter Tryd.func34, Tryd.ntmps34
      go_wp2_with fail
      refine c1.mono ?_
      rintro e w1 ⟨rfl, hb1⟩
      have c3 := c2 w1
      rw [Int.natCast_add, Int.natCast_emod] at c3
      clear c2
      go_wp2_with fail
      refine c3.mono ?_
      rintro e w2 ⟨rfl, hb2⟩
      have HB : Hid (Below w.heap.size w w2) := hb1.trans (hb2.mono hb1.size)
      clear hb1 hb2 c3
      go_wp2_with fail
      go_ret
      exact ⟨ret_str (mk_data _ _ (by rw [app_list, HL.out, UInt8.ofNat_add]; rfl)), HB.out⟩
end Go.Proofs.YtkmbhgbmdeoppaaDoor

/-
  What the document's signed computes.
-/
namespace Go.Proofs.YtkmbhgbmdeoppaaDoor
open Go.RowKit

set_option maxRecDepth 100000 in
theorem rsigned_at (n : Int) (hn : n ≤ 99999) (t : ByteArray) (ht : t.data.toList = sgn n) (w : World) :
    Calls Tryd.prog 22 #[.int .i64 n] w fun e w' => e = .returned (.string t) ∧ Below w.heap.size w w' := by
  by_cases h : n < 0
  · have HT : Hid (t = ⟨#[]⟩) := by
      rw [sgn_neg h] at ht
      apply ByteArray.ext; apply Array.ext'; exact ht
    clear ht
    go_enter Tryd.func22, Tryd.ntmps22
    go_wp2_with fail
    go_ret
    exact ⟨ret_str HT.out.symm, Below.refl _ _⟩
  · obtain ⟨u, hu⟩ : ∃ u : Nat, n = u := ⟨n.toNat, by omega⟩
    have HT : Hid (t = ⟨(Lib.decDigits u).toArray⟩) := by
      rw [sgn_pos (by omega)] at ht
      have e : n.toNat = u := by omega
      rw [e] at ht
      apply ByteArray.ext; apply Array.ext'; exact ht
    clear ht
    subst hu
    go_enter Tryd.func22, Tryd.ntmps22
    go_wp2_with fail
    refine (rdigits_any u u (Nat.le_refl _) (by omega) _).mono ?_
    rintro e w1 ⟨rfl, hb⟩
    go_wp2_with fail
    go_ret
    exact ⟨ret_str HT.out.symm, hb⟩
end Go.Proofs.YtkmbhgbmdeoppaaDoor

/-
  What is asked for of a body, resolved; no program is named here.
-/
namespace Go.Proofs.YtkmbhgbmdeoppaaDoor
open Go.RowKit

def rvF (size : Int) (w : Wn) : Int := if w.1 = -1 then max (size - w.2) 0 else w.1
def rvT (size : Int) (w : Wn) : Int := min (if w.1 = -1 then size else if w.2 = -1 then size else w.2 + 1) size
def rvW (size : Int) (w : Wn) : List Wn := if rvF size w < rvT size w then [(rvF size w, rvT size w)] else []
def rvL (size : Int) (l : List Wn) : List Wn := l.flatMap (rvW size)
def rsSp (l : List Wn) (size : Int) : List Wn × Int :=
  if chkW l = 1 ∨ size < 0 then ([], 1) else if chkW l ≠ 0 then ([], chkW l) else if (rvL size l).length = 0 then ([], 11) else (rvL size l, 0)
theorem rvL_take (size : Int) (l : List Wn) (k : Nat) (h : k < l.length) : rvL size (l.take (k + 1)) = rvL size (l.take k) ++ rvW size l[k] := by
  unfold rvL
  rw [List.take_succ_eq_append_getElem h, List.flatMap_append, List.flatMap_cons, List.flatMap_nil, List.append_nil]
theorem rvW_len (size : Int) (w : Wn) : (rvW size w).length ≤ 1 := by unfold rvW; split <;> simp
theorem rvL_len (size : Int) (l : List Wn) : (rvL size l).length ≤ l.length := by
  induction l with
  | nil => simp [rvL]
  | cons w l ih =>
    have e : rvL size (w :: l) = rvW size w ++ rvL size l := by simp [rvL]
    have := rvW_len size w
    rw [e, List.length_append, List.length_cons]; omega
theorem rsSp_arg {l : List Wn} {size : Int} (h : chkW l = 1 ∨ size < 0) : rsSp l size = ([], 1) := by unfold rsSp; rw [if_pos h]
theorem rsSp_bad {l : List Wn} {size : Int} (h : ¬ (chkW l = 1 ∨ size < 0)) (h2 : chkW l ≠ 0) : rsSp l size = ([], chkW l) := by unfold rsSp; rw [if_neg h, if_pos h2]
theorem rsSp_none {l : List Wn} {size : Int} (h : 0 ≤ size) (h2 : chkW l = 0) (h3 : (rvL size l).length = 0) : rsSp l size = ([], 11) := by
  unfold rsSp; rw [if_neg (by omega), if_neg (by omega), if_pos h3]
theorem rsSp_ok {l : List Wn} {size : Int} (h : 0 ≤ size) (h2 : chkW l = 0) (h3 : (rvL size l).length ≠ 0) : rsSp l size = (rvL size l, 0) := by
  unfold rsSp; rw [if_neg (by omega), if_neg (by omega), if_neg h3]
theorem rsSp_code (l : List Wn) (size : Int) : (rsSp l size).2 = 0 ∨ (rsSp l size).1 = [] := by
  unfold rsSp
  split
  · exact .inr rfl
  · split
    · exact .inr rfl
    · split
      · exact .inr rfl
      · exact .inl rfl
/-- What is resolved lies within, and has bytes. -/
theorem rvL_in {l : List Wn} {size : Int} (hl : l.all okW = true) : ∀ s ∈ rvL size l, 0 ≤ s.1 ∧ s.1 < s.2 ∧ s.2 ≤ size := by
  intro s hs
  unfold rvL at hs
  obtain ⟨w, hw, hs⟩ := List.mem_flatMap.1 hs
  have ho := okW_is (List.all_eq_true.1 hl w hw)
  unfold rvW at hs
  split at hs
  · rename_i h
    rw [List.mem_singleton.1 hs]
    unfold rvF rvT at *
    refine ⟨?_, h, by simp only; omega⟩
    simp only
    split
    · omega
    · have := ho.2.2.2.2.2 (by assumption); omega
  · simp at hs
theorem rsSp_in {l : List Wn} {size : Int} {m : List Wn} (h : rsSp l size = (m, 0)) : (∀ s ∈ m, 0 ≤ s.1 ∧ s.1 < s.2 ∧ s.2 ≤ size) ∧ 1 ≤ m.length ∧ m.length ≤ l.length := by
  by_cases h1 : chkW l = 1 ∨ size < 0
  · rw [rsSp_arg h1] at h; cases (Prod.mk.inj h).2
  · by_cases h2 : chkW l = 0
    · by_cases h3 : (rvL size l).length = 0
      · rw [rsSp_none (by omega) h2 h3] at h; cases (Prod.mk.inj h).2
      · rw [rsSp_ok (by omega) h2 h3] at h
        cases (Prod.mk.inj h).1
        exact ⟨rvL_in (chkW_zero h2).1, by omega, rvL_len size l⟩
    · rw [rsSp_bad h1 h2] at h
      exact absurd (Prod.mk.inj h).2 h2
end Go.Proofs.YtkmbhgbmdeoppaaDoor

/-
  Two cells of a block that are written one behind the other, and pairs; no program is named here.
-/
namespace Go.Proofs.YtkmbhgbmdeoppaaDoor
open Go.RowKit

theorem two_set {w : World} {B : Nat} {u0 u1 : Value} (a b : Value) (h0 : w.cell? ⟨B, 0, none⟩ = some u0) (h1 : w.cell? ⟨B, 1, none⟩ = some u1) :
    ((w.setCell ⟨B, 0, none⟩ a).setCell ⟨B, 1, none⟩ b).cell? ⟨B, 0, none⟩ = some a ∧ ((w.setCell ⟨B, 0, none⟩ a).setCell ⟨B, 1, none⟩ b).cell? ⟨B, 1, none⟩ = some b := by
  have e : (w.setCell ⟨B, 0, none⟩ a).cell? ⟨B, 1, none⟩ = some u1 := (World.cell?_setCell_other _ _ _ _ (by simp)).trans h1
  exact ⟨(World.cell?_setCell_other _ _ _ _ (by simp)).trans (World.cell?_setCell_same' _ _ _ (by rw [h0]; rfl)), World.cell?_setCell_same' _ _ _ (by rw [e]; rfl)⟩
theorem pair_bi (p : List UInt8 × Int) : ∃ (t : ByteArray) (c : Int), p = (t.data.toList, c) := ⟨⟨p.1.toArray⟩, p.2, rfl⟩
theorem et_two {a b : ByteArray} {c d : Int} (h : a.data.toList = b.data.toList) (h' : c = d) : Ending.returned (.tuple #[.string a, .int .i64 c]) = .returned (.tuple #[.string b, .int .i64 d]) := by
  rw [h', show a = b from by apply ByteArray.ext; apply Array.ext'; exact h]
end Go.Proofs.YtkmbhgbmdeoppaaDoor

/-
  What the document's SpanPrint and SpanResolve answer; all numbers fit.
-/
namespace Go.Proofs.YtkmbhgbmdeoppaaDoor
open Go.RowKit

theorem join_take (ls : List Wn) (k : Nat) (h : k < ls.length) : Lib.join ((ls.take (k + 1)).map prW) [44] = (if 0 < k then Lib.join ((ls.take k).map prW) [44] ++ [44] else []) ++ prW ls[k] := by
  rw [List.take_succ_eq_append_getElem h, List.map_append]
  cases hq : ls.take k with
  | nil =>
    have hk0 : k = 0 := by
      have := congrArg List.length hq
      rw [List.length_take, List.length_nil] at this; omega
    subst hk0
    simp [Lib.join_one]
  | cons a r =>
    have hk0 : 0 < k := by
      have := congrArg List.length hq
      rw [List.length_take, List.length_cons] at this; omega
    rw [if_pos hk0]
    simp only [List.map_cons, List.map_nil]
    rw [List.cons_append, Lib.join_cons, Lib.join_cons]
    simp [Lib.joinTail]
theorem join_small (ls : List Wn) (h : ls.all okW = true) : (Lib.join (ls.map prW) [44]).length ≤ 12 * ls.length := by
  induction ls with
  | nil => simp [Lib.join]
  | cons w ls ih =>
    rw [List.all_cons, Bool.and_eq_true] at h
    have h1 := ih h.2
    have h2 := prW_len h.1
    rw [List.map_cons]
    cases ls with
    | nil => rw [List.map_nil, Lib.join_one]; simp; omega
    | cons x xs =>
      have e : Lib.join (prW w :: (x :: xs).map prW) [44] = prW w ++ 44 :: Lib.join ((x :: xs).map prW) [44] := by
        simp [Lib.join, List.intercalate]
      rw [e, List.length_append, List.length_cons]
      simp only [List.length_cons] at h1 ⊢
      omega
theorem all_part (ls : List Wn) (k : Nat) (h : ls.all okW = true) : (ls.take k).all okW = true := by
  rw [List.all_eq_true] at h ⊢
  exact fun x hx => h x (List.mem_of_mem_take hx)
set_option maxHeartbeats 2000000 in
set_option maxRecDepth 100000 in
theorem rsprint_at (v : Value) (ls : List Wn) (t : ByteArray) (c : Int) (h : prSp ls = (t.data.toList, c)) (w : World) (hf : Wl w v ls) :
    Calls Tryd.prog 8 #[v] w fun e w' => e = .returned (.tuple #[.string t, .int .i64 c]) ∧ Below w.heap.size w w' := by
  have HF : Hid (Wl w v ls) := hf
  have HP : Hid (prSp ls = (t.data.toList, c)) := h
  have hcc : chkW ls = c := by rw [← prSp_code, h]
  have HC : Hid (chkW ls = c) := hcc
  clear hf h
  by_cases hc : c = 0
  · subst hc
    have HAL : Hid (ls.all okW = true) := (chkW_zero hcc).1
    have hl20 := (chkW_zero hcc).2.2
    have HTT : Hid (t = ⟨(bytesB ++ Lib.join (ls.map prW) [44]).toArray⟩) := by
      have := HP.out
      rw [prSp_ok hcc] at this
      apply ByteArray.ext; apply Array.ext'; exact ((Prod.mk.inj this).1).symm
    obtain ⟨ad, cap, hv, hcap, hcm, _⟩ := HF.out
    subst hv
    unfold maxLen at hcm
    clear hcc
    go_enter Tryd.func8, Tryd.ntmps8
    go_wp2_with fail
    refine (rscheck_any _ ls _ HF.out).mono ?_
    rintro e w1 ⟨rfl, hb1⟩
    have HF1 : Hid (Wl w1 (.slice ad ls.length cap) ls) := HF.out.below hb1
    have hsz1 := hb1.size
    rw [HC.out]
    go_wp2_with fail
    go_loopw [5, 15] (fun o i wr => ∃ (k : Nat) (u : ByteArray), k ≤ ls.length ∧ i = .int .i64 k ∧ o = .string u ∧ u = ⟨(bytesB ++ Lib.join ((ls.take k).map prW) [44]).toArray⟩ ∧ Below w1.heap.size w1 wr) (fun _ i _ => ls.length - (intOf i).toNat)
    case atStart => exact ⟨0, _, Nat.zero_le _, rfl, rfl, rfl, Below.refl _ _⟩
    case round =>
      obtain ⟨k, u, hk, rfl, rfl, hu, hw⟩ := hrel
      have hsz := hw.size
      have HU : Hid (u = ⟨(bytesB ++ Lib.join ((ls.take k).map prW) [44]).toArray⟩) := hu
      have hus : u.size ≤ 300 := by
        have h1 := join_small (ls.take k) (all_part ls k HAL.out)
        have h2 := List.length_take_le k ls
        rw [hu, ← size_list, List.length_append]
        have e : bytesB.length = 6 := rfl
        omega
      clear hu
      by_cases hlt : k < ls.length
      · obtain ⟨ad', cap', hv', _, _, hc'⟩ := HF1.out
        simp only [Value.slice.injEq] at hv'
        obtain ⟨rfl, _, rfl⟩ := hv'
        obtain ⟨g, off, rfl, hgs, hce⟩ := hc' (by omega)
        obtain ⟨c1, c2⟩ := hce k hlt
        have hok := okW_is (List.all_eq_true.1 HAL.out ls[k] (List.getElem_mem hlt))
        have h2a := hok.2.1
        have h2b := hok.2.2.2.1
        obtain ⟨a, ha⟩ : ∃ a, a = (ls[k]).1 := ⟨_, rfl⟩
        obtain ⟨b, hb⟩ : ∃ b, b = (ls[k]).2 := ⟨_, rfl⟩
        rw [← ha] at h2a c1
        rw [← hb] at h2b c2
        obtain ⟨x, hx⟩ : ∃ x : ByteArray, x.data.toList = sgn a := ⟨⟨(sgn a).toArray⟩, rfl⟩
        obtain ⟨y, hy⟩ : ∃ y : ByteArray, y.data.toList = sgn b := ⟨⟨(sgn b).toArray⟩, rfl⟩
        have HX : Hid (x.data.toList = sgn a) := hx
        have HY : Hid (y.data.toList = sgn b) := hy
        have hxs : x.size ≤ 5 := by rw [← size_list, hx]; exact sgn_len h2a
        have hys : y.size ≤ 5 := by rw [← size_list, hy]; exact sgn_len h2b
        have HE : Hid (bytesB ++ Lib.join ((ls.take (k + 1)).map prW) [44] = bytesB ++ ((if 0 < k then Lib.join ((ls.take k).map prW) [44] ++ [44] else []) ++ (x.data.toList ++ 45 :: y.data.toList))) := by
          show _ = _
          rw [join_take ls k hlt, hx, hy, ha, hb]; rfl
        have d1 : wr.cell? ⟨g, off + k * 2, none⟩ = some (.int .i64 a) := (hw.cell (p := ⟨g, off + k * 2, none⟩) hgs).trans c1
        have d2 : wr.cell? ⟨g, off + k * 2 + 1, none⟩ = some (.int .i64 b) := (hw.cell (p := ⟨g, off + k * 2 + 1, none⟩) hgs).trans c2
        have hgr : g < wr.heap.size := by omega
        clear hce c1 c2 hok ha hb hc' hx hy
        have hki : (k : Int) < (ls.length : Int) := by omega
        have hk0 : (0 : Int) ≤ (k : Int) := by omega
        have hw0 := hw.alloc hsz (.cells #[.int .i64 a, .int .i64 b] 31)
        obtain ⟨T, G, x0, hG, HG1, HG2, HG3⟩ := below_class (wr.alloc (.cells #[.int .i64 a, .int .i64 b] 31))
        haveI : Nonempty T := ⟨x0⟩
        have HWK : Hid (wr.alloc (.cells #[.int .i64 a, .int .i64 b] 31) = G x0) := hG
        have hall : ∀ x, (G x).cell? ⟨wr.heap.size, 0, none⟩ = some (.int .i64 a) ∧ (G x).cell? ⟨wr.heap.size, 1, none⟩ = some (.int .i64 b) ∧ Below w1.heap.size w1 (G x) := by
          intro x
          have h1 := HG1.out x
          rw [← hG] at h1
          exact ⟨new_cell h1 0, new_cell h1 1, hw0.trans (h1.mono hw0.size)⟩
        have hc0 : ∀ x, (G x).cell? ⟨wr.heap.size, 0, none⟩ = some (.int .i64 a) := fun x => (hall x).1
        have hc1 : ∀ x, (G x).cell? ⟨wr.heap.size, 1, none⟩ = some (.int .i64 b) := fun x => (hall x).2.1
        have HBW : Hid (∀ x, Below w1.heap.size w1 (G x)) := fun x => (hall x).2.2
        have HCA : Hid (∀ W, Calls Tryd.prog 22 #[.int .i64 a] W fun e w' => e = .returned (.string x) ∧ Below W.heap.size W w') := fun W => rsigned_at a h2a x HX.out W
        have HCB : Hid (∀ W, Calls Tryd.prog 22 #[.int .i64 b] W fun e w' => e = .returned (.string y) ∧ Below W.heap.size W w') := fun W => rsigned_at b h2b y HY.out W
        clear hall hG hw0 h2a h2b
        by_cases hkp : 0 < k
        · have hkpi : (0 : Int) < (k : Int) := by omega
          have HE2 : Hid (u ++ ⟨#[44]⟩ ++ (x ++ ⟨#[45]⟩ ++ y) = (⟨(bytesB ++ Lib.join ((ls.take (k + 1)).map prW) [44]).toArray⟩ : ByteArray)) := by
            show _ = _
            rw [HE.out, if_pos hkp, HU.out]
            apply ByteArray.ext; apply Array.ext'
            simp [ByteArray.data_append]
          go_wp2_with fail
          rw [HWK.out]
          refine region_in G (by kernel_rfl) (by kernel_rfl) (HG3.out _) ?_
          repeat (go_big_quiet_step (first | (go_at_call 22; with_reducible first | exact (HCA.out _).mono fun e W h => ⟨h.1, HG2.out _ W h.2⟩ | exact (HCB.out _).mono fun e W h => ⟨h.1, HG2.out _ W h.2⟩)))
          refine wpQuiet_nil ?_
          rintro _ ⟨x1, rfl⟩
          go_wp2_with fail
          go_roundw
          case rel => exact ⟨k + 1, _, by omega, by go_num, rfl, HE2.out, HBW.out _⟩
          case measure => simp [intOf]; omega
        · have hkpi : ¬ (0 : Int) < (k : Int) := by omega
          have HE2 : Hid (u ++ (x ++ ⟨#[45]⟩ ++ y) = (⟨(bytesB ++ Lib.join ((ls.take (k + 1)).map prW) [44]).toArray⟩ : ByteArray)) := by
            show _ = _
            have hk0' : k = 0 := by omega
            rw [HE.out, if_neg hkp, HU.out, hk0', List.take_zero]
            apply ByteArray.ext; apply Array.ext'
            simp [ByteArray.data_append, Lib.join]
          go_wp2_with fail
          rw [HWK.out]
          refine region_in G (by kernel_rfl) (by kernel_rfl) (HG3.out _) ?_
          repeat (go_big_quiet_step (first | (go_at_call 22; with_reducible first | exact (HCA.out _).mono fun e W h => ⟨h.1, HG2.out _ W h.2⟩ | exact (HCB.out _).mono fun e W h => ⟨h.1, HG2.out _ W h.2⟩)))
          refine wpQuiet_nil ?_
          rintro _ ⟨x1, rfl⟩
          go_wp2_with fail
          go_roundw
          case rel => exact ⟨k + 1, _, by omega, by go_num, rfl, HE2.out, HBW.out _⟩
          case measure => simp [intOf]; omega
      · have HEnd : Hid (ls.take k = ls) := List.take_of_length_le (by omega)
        go_wp2_with fail
        go_ret2
        exact ⟨et_two (by rw [HU.out, HEnd.out, HTT.out]) rfl, hb1.trans (hw.mono hsz1)⟩
  · have hcb : (c != 0) = true := by simpa using hc
    have HTT : Hid (t = ⟨#[]⟩) := by
      have := HP.out
      rw [prSp_bad (by rw [hcc]; exact hc)] at this
      apply ByteArray.ext; apply Array.ext'; exact ((Prod.mk.inj this).1).symm
    clear hc hcc
    go_enter Tryd.func8, Tryd.ntmps8
    go_wp2_with fail
    refine (rscheck_any _ ls _ HF.out).mono ?_
    rintro e w1 ⟨rfl, hb1⟩
    rw [HC.out]
    go_wp2_with fail
    go_ret2
    exact ⟨by rw [HTT.out]; rfl, hb1⟩
end Go.Proofs.YtkmbhgbmdeoppaaDoor

/-
  The walk through SpanPrints: it answers true and turns nothing that was there.
-/
namespace Go.Proofs.YtkmbhgbmdeoppaaDoor
open Go.RowKit

set_option maxHeartbeats 2000000 in
set_option maxRecDepth 100000 in
theorem walkSpanPrints (a0 : Value) (l0 : List Wn) (w : World) (z0 : Wl w a0 l0) (_m0 : WfW l0) (_b0 : l0.length ≤ 8796093021952) (hp : PowT w) :
    Calls Tryd.prog 3 #[a0] w fun e w' => e = .returned (.bool true) ∧ Below w.heap.size w w' := by
  have HF : Hid (Wl w a0 l0) := z0
  have HT : Hid (PowT w) := hp
  obtain ⟨t, c, hm⟩ := pair_bi (prSp l0)
  have HM : Hid (prSp l0 = (t.data.toList, c)) := hm
  clear z0 hp hm
  go_enter Tryd.func3, Tryd.ntmps3
  go_wp2_with fail
  refine (sprint_at _ l0 t c HM.out _ HF.out HT.out).mono ?_
  rintro e w1 ⟨rfl, hb1⟩
  have HF1 : Hid (Wl w1 a0 l0) := HF.out.below hb1
  go_wp2_with fail
  refine (rsprint_at _ l0 t c HM.out _ HF1.out).mono ?_
  rintro e w2 ⟨rfl, hb2⟩
  have hb := hb1.trans (hb2.mono hb1.size)
  clear hb1 hb2
  go_wp2_with fail
  go_ret
  exact ⟨by first | rfl | simp, hb⟩
end Go.Proofs.YtkmbhgbmdeoppaaDoor

/-
  A list of fields that came in, opened as a plain list of names and values; no program is named here.
-/
namespace Go.Proofs.YtkmbhgbmdeoppaaDoor
open Go.RowKit Go.ChangeShapes Go.WideShapes Go.Deep

def bytesOfV : Value → List UInt8
  | .string s => s.data.toList
  | _ => []
theorem add_form (b off n : Nat) : (⟨b, off, none⟩ : Addr).add n = ⟨b, off + n, none⟩ := by
  by_cases h0 : n = 0
  · subst h0; simp [Addr.add]
  · simp [Addr.add, h0]
def fl1 {H : Type} (y : Fld) : DataW H := .agg [.lit (.string y.1), .lit (.string y.2)]

theorem open_fl {H : Type} {enc : TypeId × Value → H} {P : Program} {w : World} {base : Nat} {spare : Nat → Bool} {held : Bool} {t e : TypeId} {f0 f1 : Field} {fuel : Nat} {v : Value} {x : DataW H × List MemPlace}
    (ht : P.underlying t = some (.slice e)) (he : P.underlying e = some (.struct #[f0, f1])) (ce : P.cellsOf e = 2) (o0 : f0.offset = 0) (o1 : f1.offset = 1) (c0 : P.cellsOf f0.type = 1) (c1 : P.cellsOf f1.type = 1)
    (s0 : P.underlying f0.type = some .string) (s1 : P.underlying f1.type = some .string) (h : DataW.trod enc P w base spare held fuel t [v] = some x) :
    ∃ (ls : List Fld) (sp : List (DataW H)), Fl w v ls ∧ Most maxLen ls ∧ (x.1 = .nil ∧ ls = [] ∨ x.1 = .slice (ls.map fl1) sp) := by
  rcases open_slice_pairs ht he ce o0 o1 c0 c1 h with ⟨hcs, hx⟩ | ⟨a, len, cap, m, n, V0, V1, D0, D1, P0, P1, hcs, _, hl, hm, hmm, hx, hi⟩
  · simp only [List.cons.injEq, and_true] at hcs
    subst hcs
    have hM : Most maxLen [] := fun y hy => by cases hy
    exact ⟨[], [], Fl.nil w, hM, Or.inl ⟨by rw [hx], rfl⟩⟩
  · simp only [List.cons.injEq, and_true] at hcs
    subst hcs
    have hlm : len ≤ m := by rw [hmm]; split <;> omega
    have each : ∀ i, i < len → V0 i = .string ⟨(bytesOfV (V0 i)).toArray⟩ ∧ V1 i = .string ⟨(bytesOfV (V1 i)).toArray⟩ ∧ D0 i = .lit (.string (bytesOfV (V0 i))) ∧ D1 i = .lit (.string (bytesOfV (V1 i))) ∧ (bytesOfV (V0 i)).length ≤ maxLen ∧ (bytesOfV (V1 i)).length ≤ maxLen := by
      intro i hil
      obtain ⟨_, _, t0, t1⟩ := hi i (by omega)
      obtain ⟨a0, ha0, hd0, hz0⟩ := DataW.trod_string s0 t0
      obtain ⟨a1, ha1, hd1, hz1⟩ := DataW.trod_string s1 t1
      simp only [List.cons.injEq, and_true] at ha0 ha1
      simp only [Prod.mk.injEq] at hd0 hd1
      rw [ha0, ha1, hd0.1, hd1.1]
      refine ⟨rfl, rfl, rfl, rfl, ?_, ?_⟩
      · show a0.data.toList.length ≤ maxLen; rw [size_list]; exact hz0
      · show a1.data.toList.length ≤ maxLen; rw [size_list]; exact hz1
    refine ⟨(List.range len).map fun i => (bytesOfV (V0 i), bytesOfV (V1 i)), (List.range (m - len)).map fun j => .agg [D0 (len + j), D1 (len + j)], ⟨some a, cap, by simp, by simpa using hl, hm, fun h0 => ?_⟩, ?_, .inr ?_⟩
    rotate_left
    · intro y hy
      obtain ⟨i, hir, rfl⟩ := List.mem_map.1 hy
      obtain ⟨_, _, _, _, h5, h6⟩ := each i (List.mem_range.1 hir)
      exact ⟨h5, h6⟩
    · rw [hx]
      show DataW.slice _ _ = DataW.slice _ _
      congr 1
      rw [List.map_map]
      refine List.map_congr_left fun i hir => ?_
      obtain ⟨_, _, h3, h4, _⟩ := each i (List.mem_range.1 hir)
      show DataW.agg [D0 i, D1 i] = DataW.agg _
      rw [h3, h4]
    · simp only [List.length_map, List.length_range] at h0 ⊢
      obtain ⟨b, off, spot⟩ := a
      have hc0 := (hi 0 (by omega)).1
      have hspot : spot = none := by simpa [Addr.add] using World.cell?_spot hc0
      subst hspot
      refine ⟨b, off, rfl, ?_, fun k hk => ?_⟩
      · rw [add_form] at hc0
        exact cell_in hc0
      · obtain ⟨q0, q1, _⟩ := hi k (by omega)
        obtain ⟨h1, h2, _⟩ := each k hk
        rw [add_form] at q0 q1
        rw [List.getElem_map, List.getElem_range]
        refine ⟨?_, ?_⟩
        · rw [q0, h1]; rfl
        · rw [Nat.add_assoc, q1, h2]; rfl
end Go.Proofs.YtkmbhgbmdeoppaaDoor

/-
  Pairs of numbers that came in, opened as plain data; no program is named here.
-/
namespace Go.Proofs.YtkmbhgbmdeoppaaDoor
open Go.RowKit Go.ChangeShapes Go.WideShapes Go.Deep

def intOfW : Value → Int
  | .int _ n => n
  | _ => 0
def wn1 {H : Type} (y : Wn) : DataW H := .agg [.lit (.int .i64 y.1), .lit (.int .i64 y.2)]

theorem open_wl {H : Type} {enc : TypeId × Value → H} {P : Program} {w : World} {base : Nat} {spare : Nat → Bool} {held : Bool} {t e : TypeId} {f0 f1 : Field} {fuel : Nat} {v : Value} {x : DataW H × List MemPlace}
    (ht : P.underlying t = some (.slice e)) (he : P.underlying e = some (.struct #[f0, f1])) (ce : P.cellsOf e = 2) (o0 : f0.offset = 0) (o1 : f1.offset = 1) (c0 : P.cellsOf f0.type = 1) (c1 : P.cellsOf f1.type = 1)
    (s0 : P.underlying f0.type = some (.int .i64)) (s1 : P.underlying f1.type = some (.int .i64)) (h : DataW.trod enc P w base spare held fuel t [v] = some x) :
    ∃ (ts : List Wn) (sp : List (DataW H)), Wl w v ts ∧ WfW ts ∧ (x.1 = .nil ∧ ts = [] ∨ x.1 = .slice (ts.map wn1) sp) := by
  rcases open_slice_pairs ht he ce o0 o1 c0 c1 h with ⟨hcs, hx⟩ | ⟨a, len, cap, m, n, V0, V1, D0, D1, P0, P1, hcs, _, hl, hm, hmm, hx, hi⟩
  · simp only [List.cons.injEq, and_true] at hcs
    subst hcs
    have hM : WfW [] := fun y hy => by cases hy
    exact ⟨[], [], Wl.nil w, hM, Or.inl ⟨by rw [hx], rfl⟩⟩
  · simp only [List.cons.injEq, and_true] at hcs
    subst hcs
    have hlm : len ≤ m := by rw [hmm]; split <;> omega
    have each : ∀ i, i < len → V0 i = .int .i64 (intOfW (V0 i)) ∧ V1 i = .int .i64 (intOfW (V1 i)) ∧ D0 i = .lit (.int .i64 (intOfW (V0 i))) ∧ D1 i = .lit (.int .i64 (intOfW (V1 i))) ∧ (Lit.int .i64 (intOfW (V0 i))).wf = true ∧ (Lit.int .i64 (intOfW (V1 i))).wf = true := by
      intro i hil
      obtain ⟨_, _, t0, t1⟩ := hi i (by omega)
      obtain ⟨a0, ha0, hd0, hz0⟩ := DataW.trod_int s0 t0
      obtain ⟨a1, ha1, hd1, hz1⟩ := DataW.trod_int s1 t1
      simp only [List.cons.injEq, and_true] at ha0 ha1
      simp only [Prod.mk.injEq] at hd0 hd1
      rw [ha0, ha1, hd0.1, hd1.1]
      exact ⟨rfl, rfl, rfl, rfl, hz0, hz1⟩
    refine ⟨(List.range len).map fun i => (intOfW (V0 i), intOfW (V1 i)), (List.range (m - len)).map fun j => .agg [D0 (len + j), D1 (len + j)], ⟨some a, cap, by simp, by simpa using hl, hm, fun h0 => ?_⟩, ?_, .inr ?_⟩
    rotate_left
    · intro y hy
      obtain ⟨i, hir, rfl⟩ := List.mem_map.1 hy
      obtain ⟨_, _, _, _, h5, h6⟩ := each i (List.mem_range.1 hir)
      exact ⟨h5, h6⟩
    · rw [hx]
      show DataW.slice _ _ = DataW.slice _ _
      congr 1
      rw [List.map_map]
      refine List.map_congr_left fun i hir => ?_
      obtain ⟨_, _, h3, h4, _⟩ := each i (List.mem_range.1 hir)
      show DataW.agg [D0 i, D1 i] = DataW.agg _
      rw [h3, h4]
    · simp only [List.length_map, List.length_range] at h0 ⊢
      obtain ⟨b, off, spot⟩ := a
      have hc0 := (hi 0 (by omega)).1
      have hspot : spot = none := by simpa [Addr.add] using World.cell?_spot hc0
      subst hspot
      refine ⟨b, off, rfl, ?_, fun k hk => ?_⟩
      · rw [add_form] at hc0
        exact cell_in hc0
      · obtain ⟨q0, q1, _⟩ := hi k (by omega)
        obtain ⟨h1, h2, _⟩ := each k hk
        rw [add_form] at q0 q1
        rw [List.getElem_map, List.getElem_range]
        refine ⟨?_, ?_⟩
        · rw [q0, h1]; rfl
        · rw [Nat.add_assoc, q1, h2]; rfl
end Go.Proofs.YtkmbhgbmdeoppaaDoor

/-
  A loop over a function that keeps what it does next in a cell of its own: the law of the walk, for an iterator that writes that one cell between two rounds and reads some blocks that the loop's body leaves alone; no program is named here.
-/
namespace Go.Proofs.YtkmbhgbmdeoppaaDoor
open Go.RowKit

/-- These blocks are as they were. -/
def KeepB (bs : List Nat) (W W' : World) : Prop := ∀ b ∈ bs, W'.heap[b]? = W.heap[b]?
theorem KeepB.refl (bs : List Nat) (W : World) : KeepB bs W W := fun _ _ => rfl
theorem KeepB.trans {bs : List Nat} {A B C : World} (h : KeepB bs A B) (k : KeepB bs B C) : KeepB bs A C := fun b hb => (k b hb).trans (h b hb)
theorem KeepB.put {bs : List Nat} {W : World} {l : Nat} (o : Obj) (h : ∀ b ∈ bs, b < l) : KeepB bs W (W.putObj l o) := fun b hb => World.putObj_heap_other (by have := h b hb; omega)
theorem KeepB.below {bs : List Nat} {n : Nat} {A B : World} (hb : Below n A B) (h : ∀ b ∈ bs, b < n) : KeepB bs A B := fun b hbm => hb.block b (h b hbm)
/-- What does not hang on one cell. -/
def Spared {β : Type} (b : Nat) (I : β → World → Prop) : Prop := ∀ s W v, I s W → I s (W.setCell ⟨b, 0, none⟩ v)
/-- What is asked of an iterator that writes the cell b0 alone and hands out the values xs, one behind the other. -/
def Hands {α : Type} (F : Fence) (m : Nat) (P : Program) (gf : Nat) (lb : Array Value) (encs : α → Array Value) (b0 : Nat) (keep : List Nat) (xs : List α) (w : World) : Prop :=
  ∀ (l : Nat) (J Jx : List α → World → Prop) (W : World), Below w.heap.size w W → Spared b0 J → Spared b0 Jx →
    (∀ pre x rest W1, xs = pre ++ x :: rest → J pre W1 → YieldAt F (m - 1) P l (encs x) W1 fun e W' =>
      (e = .returned (.bool true) ∧ J (pre ++ [x]) W' ∧ KeepB keep W1 W') ∨ (e = .returned (.bool false) ∧ Jx (pre ++ [x]) W')) →
    J [] W →
    CallsIn F m P gf (#[.func (.yield l) #[] #[]] ++ lb) W fun e W' => (∃ v, e = .returned v) ∧ (J xs W' ∨ ∃ pre rest, xs = pre ++ rest ∧ Jx pre W')

theorem range_hands {F : Fence} {n : Nat} {P : Program} {α : Type} {g : Operand} {ps : Array Tmp} {assign body : Code} {Q : Exit → Act → World → Prop} {a : Act} {w : World}
    (hro : F.round = none) (h1 : 1 ≤ n) {gf : Nat} {lb : Array Value} (hg : a.eval g = .func (.func gf) #[] lb) (hF : F.fn gf) (eg : ∀ args w, (callFunc gf args).run P w = .ok (.enter gf args) w)
    {encs : α → Array Value} (hps : ∀ x, (encs x).size = ps.size) {b0 : Nat} {keep : List Nat} {xs : List α} (hb0 : b0 < w.heap.size) (hkp : ∀ b ∈ keep, b < w.heap.size)
    (hit : Hands F (n - 1) P gf lb encs b0 keep xs w)
    (I : List α → World → Prop) (Ix : Code → List α → World → Prop) (hI : OwnFrom w.heap.size I) (hIx : ∀ c, OwnFrom w.heap.size (Ix c)) (sI : Spared b0 I) (sIx : ∀ c, Spared b0 (Ix c)) (h0 : I [] w) (a₁ : α → Act)
    (hassign : ∀ (l : Nat) (x : α) (W : World) (K : Act → World → Prop), K (a₁ x) W →
      assign.wpIn (F.inRound l) (n - 1 - 1) P (Exit.then K (fun _ _ _ => False)) { tmps := (ps.zip (encs x)).foldl (fun t (p, v) => t.setIfInBounds p v) a.tmps, defers := [] } W)
    (hbody : ∀ (l : Nat) (pre : List α) (x : α) (rest : List α) (W : World), xs = pre ++ x :: rest → w.heap.size ≤ W.heap.size → I pre W → body.wpIn (F.inRound l) (n - 1 - 1) P (ownPostG w.heap.size (KeepB keep) I Ix (pre ++ [x]) W) (a₁ x) W)
    (hdone : ∀ (D : Nat) (W : World), w.heap.size ≤ D → I xs W → W.heap[D]? = some (.deferred (some [])) → Q .normal { a with defers := { target := .collected D, args := #[] } :: a.defers } W)
    (hstop : ∀ (D : Nat) (c : Code) (pre rest : List α) (W : World), w.heap.size ≤ D → xs = pre ++ rest → Ix c pre W → W.heap[D]? = some (.deferred (some [])) → c.wpIn F n P Q { a with defers := { target := .collected D, args := #[] } :: a.defers } W) :
    (Code.rangeFunc g ps assign body).wpIn F n P Q a w := by
  refine wpIn_rangeFunc fun fn hfn => ?_
  rw [hro]
  obtain ⟨D, hD⟩ : ∃ D, D = w.heap.size := ⟨_, rfl⟩
  obtain ⟨R, hR⟩ : ∃ R : LoopState → Option Code → Obj, R = fun st pe => .loop { state := st, pending := pe, fn, tmps := a.tmps, params := ps, assign, body, defers := D } := ⟨_, rfl⟩
  have hnc : ∀ st pe, (R st pe).isCells = false := fun st pe => by rw [hR]; rfl
  have hw1 : Below w.heap.size w ((w.alloc (.deferred (some []))).alloc (R .ready none)) := ((Below.refl _ w).alloc (Nat.le_refl _) _).alloc (by simp) _
  have hat : ((w.alloc (.deferred (some []))).alloc (R .ready none)).heap[D]? = some (.deferred (some [])) ∧ ((w.alloc (.deferred (some []))).alloc (R .ready none)).heap[D + 1]? = some (R .ready none) := by
    subst hD
    refine ⟨(Below.heap_alloc _ _ _ (by simp)).trans (World.alloc_heap_new w _), ?_⟩
    have := World.alloc_heap_new (w.alloc (.deferred (some []))) (R .ready none)
    rwa [World.size_alloc] at this
  have hi1 : I [] ((w.alloc (.deferred (some []))).alloc (R .ready none)) := hI.alloc _ (hI.alloc _ h0)
  refine ⟨D + 1, [{ target := .collected D, args := #[] }], (w.alloc (.deferred (some []))).alloc (R .ready none), { target := .fn (.func gf) lb, args := #[.func (.yield (D + 1)) #[] #[]] }, (w.alloc (.deferred (some []))).alloc (R .ready none), gf,
    #[.func (.yield (D + 1)) #[] #[]] ++ lb, (w.alloc (.deferred (some []))).alloc (R .ready none), ?_, ?_, ?_, ?_, fun _ => h1, ?_⟩
  · subst hD; rw [hR]; exact run_enterLoop_outer _ _ _ _ _
  · simp only [resolve, hg]
    simp [go_sem]
  · intro f' hf'; simp [Target.leads] at hf'; subst hf'; exact hF
  · simp [invoke, go_sem, eg]
  -- what holds between two rounds: the caller's word, and the two blocks of book-keeping
  have set_at : ∀ (W : World) (v : Value) (k : Nat), D ≤ k → (W.setCell ⟨b0, 0, none⟩ v).heap[k]? = W.heap[k]? := fun W v k hk => Below.heap_setCell W ⟨b0, 0, none⟩ v k (by show k ≠ b0; omega)
  refine (hit (D + 1) (fun pre W => I pre W ∧ W.heap[D + 1]? = some (R .ready none) ∧ W.heap[D]? = some (.deferred (some [])))
    (fun pre W => ∃ c, Ix c pre W ∧ W.heap[D + 1]? = some (R .done (some c)) ∧ W.heap[D]? = some (.deferred (some []))) _ hw1
    (fun s W v h => ⟨sI s W v h.1, (set_at W v _ (by omega)).trans h.2.1, (set_at W v _ (by omega)).trans h.2.2⟩)
    (fun s W v h => h.elim fun c h => ⟨c, sIx c s W v h.1, (set_at W v _ (by omega)).trans h.2.1, (set_at W v _ (by omega)).trans h.2.2⟩) ?_ ⟨hi1, hat.2, hat.1⟩).mono ?_
  · -- one round
    rintro pre x rest W hxs ⟨hi, hl, hk⟩
    have hlt : D + 1 < W.heap.size := (Array.getElem?_eq_some_iff.1 hl).1
    have hy := run_yield (P := P) (args := encs x) (by rw [hR] at hl; exact hl) (hps x)
    refine ⟨fn, _, assign, body, hy, roundIn_of_wpIn hfn (hassign _ x W _ ⟨W.putObj (D + 1) (R .busy none), ?_, ?_⟩)⟩
    · rw [hR] at hl ⊢; exact run_beginRound hl rfl
    have kb : ∀ b ∈ keep, b < D + 1 := fun b hb => by have := hkp b hb; omega
    refine wpIn_mono (hbody _ pre x rest _ hxs (by simp; omega) (hI.putObj _ hi (by omega) hl (hnc _ _))) ?_
    -- however the body was left, the record is there, and is closed
    have fin : ∀ (jump : Option Code) (st : LoopState) (W3 : World), (st = if jump.isNone then .ready else .done) → KeepsFrom w.heap.size (W.putObj (D + 1) (R .busy none)) W3 →
        (Instr.endRound (D + 1) jump).run P W3 = .ok (.bool jump.isNone) (W3.putObj (D + 1) (R st jump)) ∧ W3.heap[D + 1]? = some (R .busy none) ∧
        (W3.putObj (D + 1) (R st jump)).heap[D + 1]? = some (R st jump) ∧ (W3.putObj (D + 1) (R st jump)).heap[D]? = some (.deferred (some [])) := by
      intro jump st W3 hst hk3
      have l3 := hk3.same (D + 1) _ (by omega) (World.putObj_heap_same hlt) (hnc _ _)
      have d3 := hk3.same D _ (by omega) ((World.putObj_heap_other (by omega)).trans hk) rfl
      refine ⟨?_, l3, World.putObj_heap_same (Array.getElem?_eq_some_iff.1 l3).1, (World.putObj_heap_other (by omega)).trans d3⟩
      rw [hR] at l3 ⊢
      rw [run_endRound jump l3, hst]
    rintro e a3 W3 hp
    cases e with
    | normal =>
      obtain ⟨hk3, hkp3, hi3⟩ := hp
      obtain ⟨f1, f2, f3, f4⟩ := fin none .ready W3 rfl hk3
      exact ⟨_, _, f1, .inl ⟨rfl, ⟨hI.putObj _ hi3 (by omega) f2 (hnc _ _), f3, f4⟩, ((KeepB.put _ kb).trans hkp3).trans (KeepB.put _ kb)⟩⟩
    | ret =>
      obtain ⟨f1, f2, f3, f4⟩ := fin (some .ret) .done W3 rfl hp.1
      exact ⟨_, _, f1, .inr ⟨rfl, _, (hIx _).putObj _ hp.2 (by omega) f2 (hnc _ _), f3, f4⟩⟩
    | exit id =>
      obtain ⟨f1, f2, f3, f4⟩ := fin (some (.exit id)) .done W3 rfl hp.1
      exact ⟨_, _, f1, .inr ⟨rfl, _, (hIx _).putObj _ hp.2 (by omega) f2 (hnc _ _), f3, f4⟩⟩
    | goto t =>
      obtain ⟨f1, f2, f3, f4⟩ := fin (some (.goto t)) .done W3 rfl hp.1
      exact ⟨_, _, f1, .inr ⟨rfl, _, (hIx _).putObj _ hp.2 (by omega) f2 (hnc _ _), f3, f4⟩⟩
    | panic ch => exact hp.elim
    | outgrown => exact hp.elim
  · -- behind the iterator
    rintro e W2 ⟨⟨v, rfl⟩, ⟨hi, hl, hk⟩ | ⟨pre, rest, hx, c, hi, hl, hk⟩⟩
    · refine ⟨none, W2.putObj (D + 1) (R .exhausted none), ?_, hdone D _ (by omega) (hI.putObj _ hi (by omega) hl (hnc _ _)) ((World.putObj_heap_other (by omega)).trans hk)⟩
      rw [hR] at hl ⊢; exact run_endLoop hl (by simp)
    · refine ⟨some c, W2.putObj (D + 1) (R .exhausted (some c)), ?_, hstop D c pre rest _ (by omega) hx ((hIx c).putObj _ hi (by omega) hl (hnc _ _)) ((World.putObj_heap_other (by omega)).trans hk)⟩
      rw [hR] at hl ⊢; exact run_endLoop hl (by simp)
end Go.Proofs.YtkmbhgbmdeoppaaDoor

/-
  Pieces of a text, by where the sign between them first stands; no program is named here.
-/
namespace Go.Proofs.YtkmbhgbmdeoppaaDoor
open Go.RowKit

theorem spl_alone (d : UInt8) (a : List UInt8) (h : ∀ b ∈ a, b ≠ d) : spl d a = [a] := by
  have := spl_words d a h [] (by simp)
  simpa [wordsB] using this
theorem spl_app (d : UInt8) (a r : List UInt8) (h : ∀ b ∈ a, b ≠ d) : spl d (a ++ d :: r) = a :: spl d r := by
  induction a with
  | nil => rw [List.nil_append, spl, if_pos rfl]
  | cons c a ih =>
    rw [List.cons_append, spl, if_neg (h c (by simp)), ih (fun b hb => h b (by simp [hb]))]
theorem spl_miss (d : UInt8) (l : List UInt8) (h : Lib.indexByte l d = -1) : spl d l = [l] := by
  apply spl_alone
  intro b hb e
  obtain ⟨k, hk⟩ := List.getElem?_of_mem hb
  exact Lib.indexByte_none h k (by rw [hk, e])
theorem spl_hit (d : UInt8) (l : List UInt8) (k : Nat) (h : Lib.indexByte l d = k) : spl d l = l.take k :: spl d (l.drop (k + 1)) := by
  obtain ⟨h1, h2⟩ := Lib.indexByte_some h
  have hk : k < l.length := (List.getElem?_eq_some_iff.1 h1).1
  have e : l = l.take k ++ d :: l.drop (k + 1) := by
    have : l[k] = d := (List.getElem?_eq_some_iff.1 h1).2
    rw [← this, ← List.drop_eq_getElem_cons hk, List.take_append_drop]
  have hno : ∀ b ∈ l.take k, b ≠ d := by
    intro b hb eb
    obtain ⟨j, hj⟩ := List.getElem?_of_mem hb
    have hjk : j < k := by
      have := (List.getElem?_eq_some_iff.1 hj).1
      rw [List.length_take] at this; omega
    rw [List.getElem?_take_of_lt hjk] at hj
    exact h2 j hjk (by rw [hj, eb])
  have := spl_app d (l.take k) (l.drop (k + 1)) hno
  rw [← e] at this
  exact this
/-- The pieces as texts. -/
def tx (l : List UInt8) : ByteArray := ⟨l.toArray⟩
theorem tx_list (l : List UInt8) : (tx l).data.toList = l := rfl
theorem tx_self (s : ByteArray) : tx s.data.toList = s := by apply ByteArray.ext; rfl
end Go.Proofs.YtkmbhgbmdeoppaaDoor
