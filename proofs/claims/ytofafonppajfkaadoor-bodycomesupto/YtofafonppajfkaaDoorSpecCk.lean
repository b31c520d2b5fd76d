/-
  A body in chunks, chunk by chunk and byte by byte, in plain lists; no program is named here.
-/
import Derived.Test.YtofafonppajfkaaDoorSpecRn
namespace Go.Proofs.YtofafonppajfkaaDoor
open Go.RowKit

abbrev D (st : St) (o : List UInt8) : Ds := ⟨st, o, [], false⟩
theorem run_on {x y : Ds} {c : UInt8} (r : List UInt8) (a : Nat) (h : stepD x c = (0, y)) (hy : y.done = false) : runD x (c :: r) a = runD y r (a + 1) := by
  rw [runD, h, if_neg (by simp), if_neg (by simp [hy])]
theorem run_err {x y : Ds} {c : UInt8} {e : Int} (r : List UInt8) (a : Nat) (h : stepD x c = (e, y)) (he : e ≠ 0) : runD x (c :: r) a = (e, 0, x) := by
  rw [runD, h, if_pos (by simpa using he)]
theorem drop_at {l : List UInt8} {k : Nat} {c : UInt8} (h : l[k]? = some c) : l.drop k = c :: l.drop (k + 1) ∧ k < l.length := by
  obtain ⟨hk, hc⟩ := List.getElem?_eq_some_iff.1 h
  exact ⟨by rw [List.drop_eq_getElem_cons hk, hc], hk⟩

/-- What stands behind a chunk's line. -/
def aft (o : List UInt8) (n : Nat) (r : List UInt8) (a : Nat) : Int × Nat × Ds :=
  if 5000 < o.length + n then (2, 0, D (.endn n) o) else if n = 0 then runD (D (.fld 0) o) r a else runD (D (.byt n) o) r a
theorem run_endn (o : List UInt8) (n : Nat) (r : List UInt8) (a : Nat) : runD (D (.endn n) o) (10 :: r) a = aft o n r (a + 1) := by
  unfold aft
  by_cases h1 : 5000 < o.length + n
  · rw [if_pos h1]
    exact run_err (e := 2) (y := D (.endn n) o) r a (by simp only [stepD]; rw [if_neg (by simp), if_pos h1]) (by decide)
  · rw [if_neg h1]
    by_cases h2 : n = 0
    · rw [if_pos h2]
      exact run_on r a (by simp only [stepD]; rw [if_neg (by simp), if_neg h1, if_pos h2]) rfl
    · rw [if_neg h2]
      exact run_on r a (by simp only [stepD]; rw [if_neg (by simp), if_neg h1, if_neg h2]) rfl
theorem run_endn_bad (o : List UInt8) (n : Nat) (c : UInt8) (r : List UInt8) (a : Nat) (h : c ≠ 10) : runD (D (.endn n) o) (c :: r) a = (3, 0, D (.endn n) o) :=
  run_err (y := D (.endn n) o) r a (by simp only [stepD]; rw [if_pos h]) (by decide)
def ShortR (l : List UInt8) : Prop := ∀ o a, (runD (D (.num 0 0) o) l a).1 = 0 ∧ (runD (D (.num 0 0) o) l a).2.2.done = false
def BadR (l : List UInt8) : Prop := ∀ o a, (runD (D (.num 0 0) o) l a).1 = 3
def HeadR (l : List UInt8) (n k : Nat) : Prop := k ≤ l.length ∧ n < 65536 ∧ ∀ o a, runD (D (.num 0 0) o) l a = aft o n (l.drop k) (a + k)
def NumS (l : List UInt8) (k n : Nat) : Prop := k ≤ 4 ∧ k ≤ l.length ∧ n < 16 ^ k ∧ ∀ o a, runD (D (.num 0 0) o) l a = runD (D (.num k n) o) (l.drop k) (a + k)
def ExtS (l : List UInt8) (m n k : Nat) : Prop := m ≤ 50 ∧ k ≤ l.length ∧ n < 65536 ∧ ∀ o a, runD (D (.num 0 0) o) l a = runD (D (.ext m n) o) (l.drop k) (a + k)
theorem nm_zero (l : List UInt8) : NumS l 0 0 := ⟨by omega, by omega, by simp, fun _ _ => rfl⟩
theorem nm_next {l : List UInt8} {k n v : Nat} {c : UInt8} (h : NumS l k n) (hk : k < 4) (hc : l[k]? = some c) (hv1 : hv c = some v) : NumS l (k + 1) (n * 16 + v) := by
  obtain ⟨h1, h2, h3, h4⟩ := h
  obtain ⟨hd, hl⟩ := drop_at hc
  have hv2 := hv_lt c v hv1
  refine ⟨by omega, by omega, by rw [Nat.pow_succ]; omega, fun o a => ?_⟩
  rw [h4, hd, ← Nat.add_assoc]
  exact run_on _ _ (by simp only [stepD, hv1]; rw [if_pos hk]) rfl
theorem nm_short {l : List UInt8} {k n : Nat} (h : NumS l k n) (hk : k = l.length) : ShortR l := by
  obtain ⟨h1, h2, h3, h4⟩ := h
  intro o a
  rw [h4, hk, List.drop_length]; exact ⟨rfl, rfl⟩
theorem nm_none {l : List UInt8} {n : Nat} {c : UInt8} (h : NumS l 0 n) (hc : l[0]? = some c) (hv1 : hv c = none) : BadR l := by
  obtain ⟨h1, h2, h3, h4⟩ := h
  obtain ⟨hd, hl⟩ := drop_at hc
  intro o a
  rw [h4, hd, run_err (e := 3) (y := D (.num 0 n) o) _ _ (by simp only [stepD, hv1]; rw [if_neg (by simp), if_neg (by simp)]) (by decide)]
theorem nm_semi {l : List UInt8} {k n : Nat} (h : NumS l k n) (hk : 0 < k) (hc : l[k]? = some 59) : ExtS l 0 n (k + 1) := by
  obtain ⟨h1, h2, h3, h4⟩ := h
  obtain ⟨hd, hl⟩ := drop_at hc
  refine ⟨by omega, by omega, dig_lt h1 h3, fun o a => ?_⟩
  rw [h4, hd, ← Nat.add_assoc]
  exact run_on _ _ (by simp only [stepD, show hv 59 = none by decide]; rw [if_pos ⟨hk, trivial⟩]) rfl
theorem run_num13 {k n : Nat} (o r : List UInt8) (a : Nat) (hk : 0 < k) : runD (D (.num k n) o) (13 :: r) a = runD (D (.endn n) o) r (a + 1) :=
  run_on r a (by simp only [stepD, show hv 13 = none by decide]; rw [if_neg (by simp), if_pos ⟨hk, trivial⟩]) rfl
theorem run_ext13 {m n : Nat} (o r : List UInt8) (a : Nat) : runD (D (.ext m n) o) (13 :: r) a = runD (D (.endn n) o) r (a + 1) :=
  run_on r a (by simp only [stepD]; rw [if_pos trivial]) rfl
theorem drop_two {l r : List UInt8} {k : Nat} {b c : UInt8} (h : l.drop k = b :: c :: r) : k + 2 ≤ l.length ∧ l.drop (k + 2) = r := by
  have hl := congrArg List.length h
  simp only [List.length_drop, List.length_cons] at hl
  refine ⟨by omega, ?_⟩
  rw [← List.drop_drop, h]; rfl
theorem nm_end {l r : List UInt8} {k n : Nat} (h : NumS l k n) (hk : 0 < k) (hc : l.drop k = 13 :: 10 :: r) : HeadR l n (k + 2) := by
  obtain ⟨h1, h2, h3, h4⟩ := h
  obtain ⟨hl, hd⟩ := drop_two hc
  refine ⟨hl, dig_lt h1 h3, fun o a => ?_⟩
  rw [h4, hc, hd, run_num13 o _ _ hk, run_endn, show a + k + 1 + 1 = a + (k + 2) by omega]
theorem nm_cr {l : List UInt8} {k n : Nat} (h : NumS l k n) (hk : 0 < k) (hc : l.drop k = [13]) : ShortR l := by
  obtain ⟨h1, h2, h3, h4⟩ := h
  intro o a
  rw [h4, hc, run_num13 o _ _ hk]; exact ⟨rfl, rfl⟩
theorem nm_cr_bad {l r : List UInt8} {k n : Nat} {c : UInt8} (h : NumS l k n) (hk : 0 < k) (hc : l.drop k = 13 :: c :: r) (h10 : c ≠ 10) : BadR l := by
  obtain ⟨h1, h2, h3, h4⟩ := h
  intro o a
  rw [h4, hc, run_num13 o _ _ hk, run_endn_bad _ _ _ _ _ h10]
theorem nm_bad {l r : List UInt8} {k n : Nat} {c : UInt8} (h : NumS l k n) (hc : l.drop k = c :: r) (h4k : 4 ≤ k ∨ hv c = none) (h59 : c ≠ 59) (h13 : c ≠ 13) : BadR l := by
  obtain ⟨h1, h2, h3, h4⟩ := h
  intro o a
  rw [h4, hc, run_err (e := 3) (y := D (.num k n) o) _ _ ?_ (by decide)]
  simp only [stepD]
  cases hv1 : hv c with
  | some v => simp only; rw [if_neg (by rcases h4k with h | h; omega; rw [hv1] at h; cases h)]
  | none => simp only; rw [if_neg (fun x => h59 x.2), if_neg (fun x => h13 x.2)]
theorem plain13 : plainB 13 = false := by decide
theorem ext_next {l : List UInt8} {m n k : Nat} {c : UInt8} (h : ExtS l m n k) (hm : m < 50) (hc : l[k]? = some c) (hp : plainB c = true) : ExtS l (m + 1) n (k + 1) := by
  obtain ⟨h1, h2, h3, h4⟩ := h
  obtain ⟨hd, hl⟩ := drop_at hc
  refine ⟨by omega, by omega, h3, fun o a => ?_⟩
  rw [h4, hd, ← Nat.add_assoc]
  refine run_on _ _ ?_ rfl
  simp only [stepD]
  rw [if_neg (by rintro rfl; rw [plain13] at hp; cases hp), if_pos ⟨hm, hp⟩]
theorem ext_short {l : List UInt8} {m n k : Nat} (h : ExtS l m n k) (hc : l.drop k = [] ∨ l.drop k = [13]) : ShortR l := by
  obtain ⟨h1, h2, h3, h4⟩ := h
  intro o a
  rcases hc with hc | hc
  · rw [h4, hc]; exact ⟨rfl, rfl⟩
  · rw [h4, hc, run_ext13]; exact ⟨rfl, rfl⟩
theorem ext_end {l r : List UInt8} {m n k : Nat} (h : ExtS l m n k) (hc : l.drop k = 13 :: 10 :: r) : HeadR l n (k + 2) := by
  obtain ⟨h1, h2, h3, h4⟩ := h
  obtain ⟨hl, hd⟩ := drop_two hc
  refine ⟨hl, h3, fun o a => ?_⟩
  rw [h4, hc, hd, run_ext13, run_endn, show a + k + 1 + 1 = a + (k + 2) by omega]
theorem ext_cr_bad {l r : List UInt8} {m n k : Nat} {c : UInt8} (h : ExtS l m n k) (hc : l.drop k = 13 :: c :: r) (h10 : c ≠ 10) : BadR l := by
  obtain ⟨h1, h2, h3, h4⟩ := h
  intro o a
  rw [h4, hc, run_ext13, run_endn_bad _ _ _ _ _ h10]
theorem ext_bad {l r : List UInt8} {m n k : Nat} {c : UInt8} (h : ExtS l m n k) (hc : l.drop k = c :: r) (hm : 50 ≤ m ∨ plainB c = false) (h13 : c ≠ 13) : BadR l := by
  obtain ⟨h1, h2, h3, h4⟩ := h
  intro o a
  rw [h4, hc, run_err (e := 3) (y := D (.ext m n) o) _ _ ?_ (by decide)]
  simp only [stepD]
  rw [if_neg h13, if_neg]
  rintro ⟨x, y⟩
  rcases hm with h | h
  · omega
  · rw [h] at y; cases y

theorem byt_run : ∀ (p o r : List UInt8) (a : Nat), p.length ≠ 0 → runD (D (.byt p.length) o) (p ++ r) a = runD (D .crlf (o ++ p)) r (a + p.length)
  | [], _, _, _, h => absurd rfl h
  | c :: p, o, r, a, _ => by
    rw [List.cons_append, run_on (y := D (if 1 < p.length + 1 then .byt p.length else .crlf) (o ++ [c])) (p ++ r) a rfl rfl]
    cases p with
    | nil => rfl
    | cons b p =>
      rw [if_pos (by simp), byt_run (b :: p) (o ++ [c]) r (a + 1) (by simp)]
      simp only [List.append_assoc, List.cons_append, List.nil_append, List.length_cons]
      rw [show a + 1 + (p.length + 1) = a + (p.length + 1 + 1) by omega]
theorem byt_short : ∀ (r o : List UInt8) (n a : Nat), r.length < n → (runD (D (.byt n) o) r a).1 = 0 ∧ (runD (D (.byt n) o) r a).2.2.done = false
  | [], _, _, _, _ => ⟨rfl, rfl⟩
  | c :: r, o, n, a, h => by
    simp only [List.length_cons] at h
    rw [run_on (y := D (.byt (n - 1)) (o ++ [c])) r a (by simp only [stepD]; rw [if_pos (by omega)]) rfl]
    exact byt_short r _ _ _ (by omega)
theorem run_crlf (o r : List UInt8) (a : Nat) : runD (D .crlf o) (13 :: 10 :: r) a = runD (D (.num 0 0) o) r (a + 2) := by
  rw [run_on (y := D .lf o) _ a (by simp only [stepD]; rw [if_pos trivial]) rfl]
  exact run_on (y := D (.num 0 0) o) r (a + 1) (by simp only [stepD]; rw [if_pos trivial]) rfl
/-- A chunk's bytes: they aren't all there. -/
theorem byt_no (o r : List UInt8) (n a : Nat) (hn : n ≠ 0) (h : r.length ≤ n ∨ r.drop n = [13]) : (runD (D (.byt n) o) r a).1 = 0 ∧ (runD (D (.byt n) o) r a).2.2.done = false := by
  by_cases h1 : r.length < n
  · exact byt_short r o n a h1
  · have hl : (r.take n).length = n := by rw [List.length_take]; omega
    have := byt_run (r.take n) o (r.drop n) a (by omega)
    rw [hl, List.take_append_drop] at this
    rw [this]
    rcases h with h | h
    · rw [List.drop_eq_nil_of_le h]; exact ⟨rfl, rfl⟩
    · rw [h, run_on (y := D .lf (o ++ r.take n)) _ _ (by simp only [stepD]; rw [if_pos trivial]) rfl]; exact ⟨rfl, rfl⟩
theorem byt_ok (o r q : List UInt8) (n a : Nat) (hn : n ≠ 0) (h : r.drop n = 13 :: 10 :: q) : runD (D (.byt n) o) r a = runD (D (.num 0 0) (o ++ r.take n)) q (a + n + 2) := by
  have hl0 := congrArg List.length h
  simp only [List.length_drop, List.length_cons] at hl0
  have hl : (r.take n).length = n := by rw [List.length_take]; omega
  have := byt_run (r.take n) o (r.drop n) a (by omega)
  rw [hl, List.take_append_drop] at this
  rw [this, h, run_crlf]
theorem byt_bad (o r : List UInt8) (n a : Nat) (hn : n ≠ 0) (h1 : n < r.length) (h2 : r.drop n ≠ [13]) (h3 : ∀ q, r.drop n ≠ 13 :: 10 :: q) : (runD (D (.byt n) o) r a).1 = 3 := by
  have hl : (r.take n).length = n := by rw [List.length_take]; omega
  have := byt_run (r.take n) o (r.drop n) a (by omega)
  rw [hl, List.take_append_drop] at this
  rw [this]
  have hd : (r.drop n).length ≠ 0 := by rw [List.length_drop]; omega
  generalize r.drop n = z at *
  cases z with
  | nil => exact absurd rfl hd
  | cons b z =>
    by_cases hb : b = 13
    · subst hb
      rw [run_on (y := D .lf (o ++ r.take n)) _ _ (by simp only [stepD]; rw [if_pos trivial]) rfl]
      cases z with
      | nil => exact absurd rfl h2
      | cons c z =>
        have hc : c ≠ 10 := by rintro rfl; exact h3 z rfl
        rw [run_err (e := 3) (y := D .lf (o ++ r.take n)) _ _ (by simp only [stepD]; rw [if_neg hc]) (by decide)]
    · rw [run_err (e := 3) (y := D .crlf (o ++ r.take n)) _ _ (by simp only [stepD]; rw [if_neg hb]) (by decide)]
/-- The last chunk's fields, byte by byte and all at once. -/
theorem fld_run : ∀ (r f o : List UInt8) (k a : Nat), FInv f k →
    ((parS (f ++ r) []).2.2 = 0 → (runD ⟨.fld k, o, f, false⟩ r a).1 = 0 ∧ (runD ⟨.fld k, o, f, false⟩ r a).2.2.done = true ∧ (runD ⟨.fld k, o, f, false⟩ r a).2.2.body = o ∧ (runD ⟨.fld k, o, f, false⟩ r a).2.1 + (parS (f ++ r) []).2.1.length = a + r.length) ∧
    ((parS (f ++ r) []).2.2 = 8 → (runD ⟨.fld k, o, f, false⟩ r a).1 = 0 ∧ (runD ⟨.fld k, o, f, false⟩ r a).2.2.done = false) ∧
    ((parS (f ++ r) []).2.2 ≠ 0 → (parS (f ++ r) []).2.2 ≠ 8 → (runD ⟨.fld k, o, f, false⟩ r a).1 = (parS (f ++ r) []).2.2)
  | [], f, o, k, a, h => by
    have := finv_short h
    rw [List.append_nil, this]
    exact ⟨fun h => absurd h (by decide), fun _ => ⟨rfl, rfl⟩, fun _ h => absurd rfl h⟩
  | c :: r, f, o, k, a, h => by
    have happ : f ++ c :: r = f ++ [c] ++ r := by simp
    have hlen : a + (c :: r).length = a + 1 + r.length := by simp only [List.length_cons]; omega
    rcases finv_step h c with ⟨e1, e2, e3⟩ | ⟨e1, e2⟩
    · have hs : stepD ⟨.fld k, o, f, false⟩ c = (0, ⟨.fld (k + 1), o, f ++ [c], false⟩) := by simp only [stepD]; rw [if_pos ⟨e1, e2⟩]
      rw [run_on r a hs rfl, happ, hlen]
      exact fld_run r (f ++ [c]) o (k + 1) (a + 1) e3
    · rcases e2 with ⟨e2, e3⟩ | ⟨e2, e3, e4⟩ | ⟨e2, e3⟩
      · have hs : stepD ⟨.fld k, o, f, false⟩ c = (0, ⟨.fld k, o, [], true⟩) := by simp only [stepD]; rw [if_neg e1, if_pos e2]
        rw [runD, hs, if_neg (by simp), if_pos rfl, e3 r, hlen]
        exact ⟨fun _ => ⟨rfl, rfl, rfl, rfl⟩, fun h => absurd h (by simp), fun h => absurd rfl h⟩
      · have hs : stepD ⟨.fld k, o, f, false⟩ c = ((parS (f ++ [c]) []).2.2, ⟨.fld k, o, f, false⟩) := by simp only [stepD]; rw [if_neg e1, if_neg e2, if_pos e3]
        rw [run_err r a hs e2, e4 r]
        exact ⟨fun h => absurd h e2, fun h => absurd h e3, fun _ _ => rfl⟩
      · have hs : stepD ⟨.fld k, o, f, false⟩ c = (0, ⟨.fld (if ended (f ++ [c]) = true then 0 else k + 1), o, f ++ [c], false⟩) := by
          simp only [stepD]
          rw [if_neg e1, if_neg (by rw [e2]; decide), if_neg (by rw [e2]; decide)]
          by_cases e6 : ended (f ++ [c]) = true
          · rw [if_pos e6, if_pos e6]
          · rw [if_neg e6, if_neg e6]
        rw [run_on r a hs rfl, happ, hlen]
        exact fld_run r (f ++ [c]) o _ (a + 1) e3
/-- Where a chunk begins, so many bytes into what has come. -/
def At (s : List UInt8) (a : Nat) (o : List UInt8) : Prop := a ≤ s.length ∧ o.length ≤ 5000 ∧ runD start s 0 = runD (D (.num 0 0) o) (s.drop a) a
theorem at_start (s : List UInt8) : At s 0 [] := ⟨by omega, by simp, rfl⟩
theorem at_short {s o : List UInt8} {a : Nat} (h : At s a o) (hs : ShortR (s.drop a)) : ans (runD start s 0) = ([], 0, 8) := by
  rw [h.2.2]; exact ans_short (hs o a).1 (hs o a).2
theorem at_bad {s o : List UInt8} {a : Nat} (h : At s a o) (hs : BadR (s.drop a)) : ans (runD start s 0) = ([], 0, 3) := by
  rw [h.2.2, ans_bad (by rw [hs o a]; decide), hs o a]
theorem at_head {s o : List UInt8} {a n k : Nat} (h : At s a o) (hs : HeadR (s.drop a) n k) : a + k ≤ s.length ∧ runD start s 0 = aft o n (s.drop (a + k)) (a + k) := by
  obtain ⟨h1, h2, h3⟩ := hs
  rw [List.length_drop] at h1
  have := h.1
  exact ⟨by omega, by rw [h.2.2, h3, List.drop_drop]⟩
theorem aft_large {s o : List UInt8} {n a : Nat} (h : runD start s 0 = aft o n (s.drop a) a) (hn : 5000 < o.length + n) : ans (runD start s 0) = ([], 0, 2) := by
  rw [h]; unfold aft; rw [if_pos hn]; rfl
theorem aft_short {s o : List UInt8} {n a : Nat} (h : runD start s 0 = aft o n (s.drop a) a) (hl : ¬ 5000 < o.length + n) (hn : n ≠ 0) (hr : s.length ≤ a + n ∨ s.drop (a + n) = [13]) : ans (runD start s 0) = ([], 0, 8) := by
  have hb := byt_no o (s.drop a) n a hn (by rw [List.length_drop, List.drop_drop]; exact hr.imp (fun h => by omega) id)
  rw [h]; unfold aft; rw [if_neg hl, if_neg hn]
  exact ans_short hb.1 hb.2
theorem aft_bad {s o : List UInt8} {n a : Nat} (h : runD start s 0 = aft o n (s.drop a) a) (hl : ¬ 5000 < o.length + n) (hn : n ≠ 0) (h1 : a + n < s.length) (h2 : s.drop (a + n) ≠ [13]) (h3 : ∀ q, s.drop (a + n) ≠ 13 :: 10 :: q) : ans (runD start s 0) = ([], 0, 3) := by
  have hb := byt_bad o (s.drop a) n a hn (by rw [List.length_drop]; omega) (by rw [List.drop_drop]; exact h2) (by rw [List.drop_drop]; exact h3)
  rw [h]; unfold aft; rw [if_neg hl, if_neg hn]
  rw [ans_bad (by rw [hb]; decide), hb]
theorem aft_next {s o q : List UInt8} {n a : Nat} (h : runD start s 0 = aft o n (s.drop a) a) (hl : ¬ 5000 < o.length + n) (hn : n ≠ 0) (h3 : s.drop (a + n) = 13 :: 10 :: q) : At s (a + n + 2) (o ++ (s.drop a).take n) := by
  have hb := byt_ok o (s.drop a) q n a hn (by rw [List.drop_drop]; exact h3)
  obtain ⟨hl2, hq⟩ := drop_two h3
  refine ⟨hl2, ?_, ?_⟩
  · rw [List.length_append, List.length_take, List.length_drop]; omega
  · rw [h]; unfold aft; rw [if_neg hl, if_neg hn, hb, hq]
theorem aft_fields {s o : List UInt8} {a : Nat} (h : runD start s 0 = aft o 0 (s.drop a) a) (hl : ¬ 5000 < o.length + 0) (ha : a ≤ s.length) :
    ans (runD start s 0) = if (parS (s.drop a) []).2.2 = 0 then (o, s.length - (parS (s.drop a) []).2.1.length, 0) else ([], 0, (parS (s.drop a) []).2.2) := by
  have hf := fld_run (s.drop a) [] o 0 a finv_nil
  rw [List.nil_append] at hf
  obtain ⟨f1, f2, f3⟩ := hf
  rw [h]; unfold aft; rw [if_neg hl, if_pos rfl]
  by_cases h0 : (parS (s.drop a) []).2.2 = 0
  · obtain ⟨g1, g2, g3, g4⟩ := f1 h0
    rw [if_pos h0, ans_ok g1 g2, g3]
    have g5 : (runD (D (.fld 0) o) (s.drop a) a).2.1 + (parS (s.drop a) []).2.1.length = a + (s.drop a).length := g4
    have g6 : (s.drop a).length = s.length - a := List.length_drop
    rw [show (runD (D (.fld 0) o) (s.drop a) a).2.1 = s.length - (parS (s.drop a) []).2.1.length by omega]
  · rw [if_neg h0]
    by_cases h8 : (parS (s.drop a) []).2.2 = 8
    · obtain ⟨g1, g2⟩ := f2 h8
      rw [ans_short g1 g2, h8]
    · have := f3 h0 h8
      rw [ans_bad (by rw [this]; exact h0), this]
end Go.Proofs.YtofafonppajfkaaDoor
