/-
  Requests and responses in plain lists: how they are written and read, and that what is written is read as it was; K tells how the end of a body is known; no program is named here.
-/
import Derived.Test.YtipfjpihciiikaaGreatDoorMb
import Derived.Lib.Join
import Derived.Test.YtipfjpihciiikaaGreatDoorShelf
import Derived.Test.YtipfjpihciiikaaGreatDoorRows
import Derived.Lib.AtoiTie
import Derived.Lib.ItoaNum
import Derived.Lib.LaidTab
import Derived.Lib.LaidU8
import Derived.MakeChecks
import Derived.Lib.AtoiErrMem
import Derived.Deep.RegionHeld3
namespace Go.Proofs.YtipfjpihciiikaaGreatDoor
open Go.RowKit

def wrQ (K : Kd) (m t : List UInt8) (ls : List Fld) (b : List UInt8) : List UInt8 × Int :=
  if (prR m t).2 ≠ 0 then ([], (prR m t).2) else if (wrB K ls b).2 ≠ 0 then ([], (wrB K ls b).2) else ((prR m t).1 ++ (wrB K ls b).1, 0)
def wrP (K : Kd) (c : Int) (r : List UInt8) (ls : List Fld) (b : List UInt8) : List UInt8 × Int :=
  if (prS c r).2 ≠ 0 then ([], (prS c r).2) else if (wrB K ls b).2 ≠ 0 then ([], (wrB K ls b).2) else ((prS c r).1 ++ (wrB K ls b).1, 0)
abbrev RdQ := (List UInt8 × List UInt8) × RdB
abbrev RdP := (Int × List UInt8) × RdB
/-- K hangs on the method that was read. -/
def rdQ (K : List UInt8 → Kd) (s : List UInt8) : RdQ :=
  if (paR s).2.2 ≠ 0 then (([], []), [], [], 0, (paR s).2.2)
  else if (rdB (K (paR s).1.1) (s.drop (paR s).2.1.toNat)).2.2.2 ≠ 0 then (([], []), [], [], 0, (rdB (K (paR s).1.1) (s.drop (paR s).2.1.toNat)).2.2.2)
  else ((paR s).1, (rdB (K (paR s).1.1) (s.drop (paR s).2.1.toNat)).1, (rdB (K (paR s).1.1) (s.drop (paR s).2.1.toNat)).2.1, (paR s).2.1.toNat + (rdB (K (paR s).1.1) (s.drop (paR s).2.1.toNat)).2.2.1, 0)
/-- K hangs on the code that was read. -/
def rdP (K : Int → Kd) (s : List UInt8) : RdP :=
  if (paS s).2.2 ≠ 0 then ((0, []), [], [], 0, (paS s).2.2)
  else if (rdB (K (paS s).1.1) (s.drop (paS s).2.1.toNat)).2.2.2 ≠ 0 then ((0, []), [], [], 0, (rdB (K (paS s).1.1) (s.drop (paS s).2.1.toNat)).2.2.2)
  else ((paS s).1, (rdB (K (paS s).1.1) (s.drop (paS s).2.1.toNat)).1, (rdB (K (paS s).1.1) (s.drop (paS s).2.1.toNat)).2.1, (paS s).2.1.toNat + (rdB (K (paS s).1.1) (s.drop (paS s).2.1.toNat)).2.2.1, 0)
theorem wrQ_is {K : Kd} {m t : List UInt8} {ls : List Fld} {b s : List UInt8} (h : wrQ K m t ls b = (s, 0)) : meth m = true ∧ targ t = true ∧ ∃ w, wrB K ls b = (w, 0) ∧ s = reqB m t ++ [13, 10] ++ w := by
  unfold wrQ at h
  cases hok : meth m && targ t
  · rw [prR_no m t hok] at h; simp at h
  · rw [Bool.and_eq_true] at hok
    rw [prR_ok m t hok.1 hok.2, if_neg (by simp)] at h
    by_cases h2 : (wrB K ls b).2 = 0
    · rw [if_neg (by simpa using h2)] at h
      simp only [Prod.mk.injEq, and_true] at h
      exact ⟨hok.1, hok.2, (wrB K ls b).1, by rw [← h2], h.symm⟩
    · rw [if_pos h2] at h; simp only [Prod.mk.injEq] at h; exact absurd h.2 h2
theorem wrQ_ok {K : Kd} {m t : List UInt8} {ls : List Fld} {b w : List UInt8} (hm : meth m = true) (ht : targ t = true) (h : wrB K ls b = (w, 0)) : wrQ K m t ls b = (reqB m t ++ [13, 10] ++ w, 0) := by
  unfold wrQ
  rw [prR_ok m t hm ht, if_neg (by simp), h, if_neg (by simp)]
theorem wrQ_two (K : Kd) (m t : List UInt8) (ls : List Fld) (b : List UInt8) : (∃ c, c ≠ 0 ∧ wrQ K m t ls b = ([], c)) ∨ ∃ s, wrQ K m t ls b = (s, 0) ∧ s ≠ [] := by
  by_cases h : (wrQ K m t ls b).2 = 0
  · right
    have e : wrQ K m t ls b = ((wrQ K m t ls b).1, 0) := by rw [← h]
    obtain ⟨_, _, w, _, hs⟩ := wrQ_is e
    exact ⟨_, e, by rw [hs]; simp⟩
  · left
    unfold wrQ at h ⊢
    by_cases h1 : (prR m t).2 ≠ 0
    · rw [if_pos h1]; exact ⟨_, h1, rfl⟩
    · rw [if_neg h1] at h ⊢
      by_cases h2 : (wrB K ls b).2 ≠ 0
      · rw [if_pos h2]; exact ⟨_, h2, rfl⟩
      · rw [if_neg h2] at h; exact absurd rfl h
theorem line_drop (l w : List UInt8) : (l ++ [13, 10] ++ w).drop ((l.length : Int) + 2).toNat = w := by
  rw [show ((l.length : Int) + 2).toNat = (l ++ [13, 10] : List UInt8).length by simp; omega]
  exact List.drop_left' rfl
theorem rdQ_line (K : List UInt8 → Kd) (m t w : List UInt8) (hm : meth m = true) (ht : targ t = true) : rdQ K (reqB m t ++ [13, 10] ++ w) =
    if (rdB (K m) w).2.2.2 ≠ 0 then (([], []), [], [], 0, (rdB (K m) w).2.2.2) else ((m, t), (rdB (K m) w).1, (rdB (K m) w).2.1, (reqB m t).length + 2 + (rdB (K m) w).2.2.1, 0) := by
  have hp : paR (reqB m t ++ [13, 10] ++ w) = ((m, t), ((reqB m t).length : Int) + 2, 0) := by
    have := paR_back m t w hm ht
    rw [List.append_assoc]; exact this
  unfold rdQ
  rw [hp]
  simp only [line_drop]
  rw [if_neg (by simp), show (((reqB m t).length : Int) + 2).toNat = (reqB m t).length + 2 by omega]
theorem q_back {K : List UInt8 → Kd} {m t : List UInt8} {ls : List Fld} {b s : List UInt8} (hK : KdOk (K m)) (h4 : ∀ ls, (K m ls).1 ≠ 4) (rest : List UInt8) (h : wrQ (K m) m t ls b = (s, 0)) : rdQ K (s ++ rest) = ((m, t), ls, b, s.length, 0) := by
  obtain ⟨hm, ht, w, hw, hs⟩ := wrQ_is h
  have hb := rdB_back hK rest hw (fun h => absurd h (h4 ls))
  rw [hs, List.append_assoc, rdQ_line K m t (w ++ rest) hm ht, hb, if_neg (by simp)]
  simp only [List.length_append, List.length_cons, List.length_nil]
theorem q_short {K : List UInt8 → Kd} {m t : List UInt8} {ls : List Fld} {b s : List UInt8} (hK : KdOk (K m)) (h4 : ∀ ls, (K m ls).1 ≠ 4) (h : wrQ (K m) m t ls b = (s, 0)) (n : Nat) (hn : n < s.length) : rdQ K (s.take n) = (([], []), [], [], 0, 8) := by
  obtain ⟨hm, ht, w, hw, hs⟩ := wrQ_is h
  by_cases h1 : n < (reqB m t).length + 2
  · have e : s.take n = (reqB m t ++ [13, 10]).take n := by rw [hs, List.take_append_of_le_length (by simp; omega)]
    have := paR_part m t hm ht n h1
    unfold rdQ
    rw [e, this, if_pos (by simp)]
  · obtain ⟨j, hj⟩ : ∃ j, n = (reqB m t ++ [13, 10]).length + j := ⟨n - (reqB m t ++ [13, 10]).length, by simp; omega⟩
    have e : s.take n = reqB m t ++ [13, 10] ++ w.take j := by rw [hs, hj, List.take_length_add_append]
    have hl : s.length = (reqB m t ++ [13, 10]).length + w.length := by rw [hs, List.length_append]
    have hb := rdB_short hK hw (h4 ls) j (by omega)
    rw [e, rdQ_line K m t _ hm ht, hb, if_pos (by simp)]
theorem q_more {K : List UInt8 → Kd} (hK : ∀ m, KdOk (K m)) (h4 : ∀ m ls, (K m ls).1 ≠ 4) (s z : List UInt8) (h : (rdQ K s).2.2.2.2 ≠ 8) : rdQ K (s ++ z) = rdQ K s := by
  have hp : (paR s).2.2 ≠ 8 := by
    intro hc
    apply h
    unfold rdQ
    rw [if_pos (by rw [hc]; decide), hc]
  have hm := paR_more s z hp
  by_cases h0 : (paR s).2.2 = 0
  · rcases paR_two s with ⟨c, hc, he⟩ | ⟨m, t, r, hme, hta, hs, he⟩
    · rw [he] at h0; exact absurd h0 hc
    · have hs : s = reqB m t ++ [13, 10] ++ r := by rw [hs]; simp
      rw [hs, List.append_assoc, rdQ_line K m t (r ++ z) hme hta, rdQ_line K m t r hme hta]
      rw [hs, rdQ_line K m t r hme hta] at h
      rw [rdB_more (hK m) r z (h4 m)]
      intro hc
      rw [if_pos (by rw [hc]; decide)] at h
      exact h hc
  · unfold rdQ
    rw [hm, if_pos h0, if_pos h0]
theorem q_is {K : List UInt8 → Kd} (hK : ∀ m, KdOk (K m)) (h4 : ∀ m ls, (K m ls).1 ≠ 4) (s : List UInt8) : (∃ c, c ≠ 0 ∧ rdQ K s = (([], []), [], [], 0, c)) ∨
    ∃ m t fs b n u, rdQ K s = ((m, t), fs, b, n, 0) ∧ wrQ (K m) m t fs b = (u, 0) ∧ n ≤ s.length ∧ meth m = true ∧ targ t = true ∧ chk fs = 0 ∧ b.length ≤ 5000 := by
  rcases paR_two s with ⟨c, hc, he⟩ | ⟨m, t, r, hme, hta, hs, he⟩
  · left
    refine ⟨c, hc, ?_⟩
    unfold rdQ
    rw [he, if_pos (by simpa using hc)]
  · have hs : s = reqB m t ++ [13, 10] ++ r := by rw [hs]; simp
    rw [hs, rdQ_line K m t r hme hta]
    obtain ⟨b1, b2⟩ := rdB_is (hK m) r (h4 m)
    by_cases h0 : (rdB (K m) r).2.2.2 = 0
    · right
      rw [if_neg (by simpa using h0)]
      obtain ⟨b3, b4⟩ := b2 h0
      refine ⟨m, t, _, _, _, _, rfl, wrQ_ok hme hta b3, by simp only [List.length_append, List.length_cons, List.length_nil]; omega, hme, hta, ?_, ?_⟩
      · exact (wrB_is b3).1
      · obtain ⟨_, _, w3, w5, w6, _⟩ := wrB_is b3
        rcases hK m (rdB (K m) r).1 with ⟨e, hk, he⟩ | hk | hk | hk | ⟨n, hk, hn0, hn⟩
        · have := (wrB_is b3).2.1; rw [hk] at this; exact absurd this he
        · rw [hk] at w3; rw [w3 rfl]; simp
        · rw [hk] at w6; exact w6 (by simp)
        · exact absurd (by rw [hk]) (h4 m (rdB (K m) r).1)
        · rw [hk] at w5; have h5 : (((rdB (K m) r).2.1.length : Nat) : Int) = n := w5 rfl; omega
    · left
      rw [if_pos h0]
      exact ⟨_, h0, rfl⟩
theorem wrP_is {K : Kd} {c : Int} {r : List UInt8} {ls : List Fld} {b s : List UInt8} (h : wrP K c r ls b = (s, 0)) : codeB c = true ∧ reas r = true ∧ ∃ w, wrB K ls b = (w, 0) ∧ s = stB c r ++ [13, 10] ++ w := by
  unfold wrP at h
  cases hc : codeB c
  · rw [prS_arg c r hc] at h; simp at h
  · cases hr : reas r
    · rw [prS_syn c r hc hr] at h; simp at h
    · rw [prS_ok c r hc hr, if_neg (by simp)] at h
      by_cases h2 : (wrB K ls b).2 = 0
      · rw [if_neg (by simpa using h2)] at h
        simp only [Prod.mk.injEq, and_true] at h
        exact ⟨rfl, rfl, (wrB K ls b).1, by rw [← h2], h.symm⟩
      · rw [if_pos h2] at h; simp only [Prod.mk.injEq] at h; exact absurd h.2 h2
theorem p_back {K : Int → Kd} {c : Int} {r : List UInt8} {ls : List Fld} {b s : List UInt8} (hK : KdOk (K c)) (rest : List UInt8) (h : wrP (K c) c r ls b = (s, 0)) (h4 : (K c ls).1 = 4 → rest = []) : rdP K (s ++ rest) = ((c, r), ls, b, s.length, 0) := by
  obtain ⟨hc, hr, w, hw, hs⟩ := wrP_is h
  have hb := rdB_back hK rest hw h4
  have hp : paS (stB c r ++ [13, 10] ++ (w ++ rest)) = ((c, r), ((stB c r).length : Int) + 2, 0) := by
    have := paS_back c r (w ++ rest) hc hr
    rw [List.append_assoc]; exact this
  rw [hs, List.append_assoc]
  unfold rdP
  rw [hp]
  simp only [line_drop]
  rw [if_neg (by simp), hb, if_neg (by simp)]
  simp only [List.length_append, List.length_cons, List.length_nil]
  rw [show (((stB c r).length : Int) + 2).toNat = (stB c r).length + 2 by omega]
end Go.Proofs.YtipfjpihciiikaaGreatDoor

/-
  Plain functions on fields: those of a name, their values as one list, one set in the place of the first, all but those of a name; no program is named here.
-/
namespace Go.Proofs.YtipfjpihciiikaaGreatDoor
open Go.RowKit

/-- Is a field of that name? -/
def nm (s : List UInt8) (x : Fld) : Bool := lower x.1 == lower s
def vals (ls : List Fld) (s : List UInt8) : List (List UInt8) := (ls.filter (nm s)).map (·.2)
def jn (P : List (List UInt8)) : List UInt8 := Lib.join P [44, 32]
def rest1 (s : List UInt8) (ls : List Fld) : List Fld := ls.filter fun x => !nm s x
def setS (s v : List UInt8) : List Fld → List Fld
  | [] => [(s, v)]
  | x :: r => if nm s x then (s, v) :: rest1 s r else x :: setS s v r

theorem tail_app (sep : List UInt8) (a b : List (List UInt8)) : Lib.joinTail sep (a ++ b) = Lib.joinTail sep a ++ Lib.joinTail sep b := by simp [Lib.joinTail]
theorem jn_app (a : List UInt8) (r b : List (List UInt8)) : jn (a :: r ++ b) = jn (a :: r) ++ Lib.joinTail [44, 32] b := by
  unfold jn
  rw [List.cons_append, Lib.join_cons, Lib.join_cons, tail_app, List.append_assoc]
theorem tail_one (sep x : List UInt8) : Lib.joinTail sep [x] = sep ++ x := by simp [Lib.joinTail]
theorem jn_snoc (P : List (List UInt8)) (x : List UInt8) : jn (P ++ [x]) = if P = [] then x else jn P ++ [44, 32] ++ x := by
  cases P with
  | nil => simp [jn, Lib.join_one]
  | cons a r =>
    rw [jn_app, tail_one]
    simp
theorem jn_both (P Q : List (List UInt8)) (hp : P ≠ []) (hq : Q ≠ []) : jn (P ++ Q) = jn P ++ [44, 32] ++ jn Q := by
  cases P with
  | nil => exact absurd rfl hp
  | cons a r =>
    cases Q with
    | nil => exact absurd rfl hq
    | cons b q =>
      rw [jn_app]
      unfold jn
      rw [Lib.join_cons b q]
      simp [Lib.joinTail]
theorem vals_app (a b : List Fld) (s : List UInt8) : vals (a ++ b) s = vals a s ++ vals b s := by simp [vals]
theorem vals_take (ls : List Fld) (s : List UInt8) (k : Nat) (h : k < ls.length) : vals (ls.take (k + 1)) s = vals (ls.take k) s ++ (if nm s ls[k] then [ls[k].2] else []) := by
  rw [List.take_succ_eq_append_getElem h, vals_app]
  congr 1
  unfold vals
  rw [List.filter_cons]
  split <;> rfl
theorem bulkF_app (a b : List Fld) : bulkF (a ++ b) = bulkF a + bulkF b := by simp [bulkF]
theorem bulkF_cons (x : Fld) (r : List Fld) : bulkF (x :: r) = x.1.length + x.2.length + 3 + bulkF r := by simp [bulkF]
theorem lens_vals (ls : List Fld) (s : List UInt8) : Lib.lens (vals ls s) + 2 * (vals ls s).length ≤ bulkF ls := by
  induction ls with
  | nil => simp [vals, Lib.lens]
  | cons x r ih =>
    have e : vals (x :: r) s = (if nm s x then [x.2] else []) ++ vals r s := by
      unfold vals
      rw [List.filter_cons]
      split <;> rfl
    rw [e, bulkF_cons]
    split
    · simp only [List.cons_append, List.nil_append, List.length_cons, Lib.lens, List.map_cons, List.sum_cons] at ih ⊢
      omega
    · simp only [List.nil_append]
      omega
theorem jn_len (P : List (List UInt8)) : (jn P).length ≤ Lib.lens P + 2 * P.length := by
  cases P with
  | nil => simp [jn, Lib.join_nil, Lib.lens]
  | cons a r =>
    unfold jn
    rw [Lib.join_length]
    simp only [List.length_cons, List.length_nil]
    omega
theorem jn_bulk (ls : List Fld) (s : List UInt8) : (jn (vals ls s)).length ≤ bulkF ls := Nat.le_trans (jn_len _) (lens_vals ls s)
theorem bulk_most (ls : List Fld) : ∀ x ∈ ls, x.1.length ≤ bulkF ls ∧ x.2.length ≤ bulkF ls := by
  induction ls with
  | nil => intro x hx; cases hx
  | cons a r ih =>
    intro x hx
    rw [bulkF_cons]
    rcases List.mem_cons.1 hx with rfl | hx
    · omega
    · have := ih x hx; omega
theorem bulk_len (ls : List Fld) : 3 * ls.length ≤ bulkF ls := by
  induction ls with
  | nil => simp [bulkF]
  | cons a r ih => rw [bulkF_cons, List.length_cons]; omega

theorem rest1_app (s : List UInt8) (a b : List Fld) : rest1 s (a ++ b) = rest1 s a ++ rest1 s b := by simp [rest1]
theorem rest1_none (s : List UInt8) (a : List Fld) (h : ∀ x ∈ a, nm s x = false) : rest1 s a = a := by
  unfold rest1
  rw [List.filter_eq_self]
  intro x hx
  rw [h x hx]; rfl
theorem setS_skip (s v : List UInt8) (a b : List Fld) (h : ∀ x ∈ a, nm s x = false) : setS s v (a ++ b) = a ++ setS s v b := by
  induction a with
  | nil => rfl
  | cons x a ih =>
    rw [List.cons_append, setS, if_neg (by rw [h x (List.mem_cons_self ..)]; simp), ih fun y hy => h y (List.mem_cons_of_mem _ hy)]
    rfl
theorem setS_hit (s v : List UInt8) (x : Fld) (r : List Fld) (h : nm s x = true) : setS s v (x :: r) = (s, v) :: rest1 s r := by rw [setS, if_pos h]
/-- What Set of package field puts together: what is ahead of the place, the new one, and what is behind. -/
theorem setS_parts (s v : List UInt8) (ls : List Fld) (k : Nat) (hk : k ≤ ls.length) (h : ∀ x ∈ ls.take k, nm s x = false) (hh : k < ls.length → ∃ x r, ls.drop k = x :: r ∧ nm s x = true) :
    setS s v ls = rest1 s (ls.take k) ++ [(s, v)] ++ rest1 s (ls.drop k) := by
  have e : setS s v ls = setS s v (ls.take k ++ ls.drop k) := by rw [List.take_append_drop]
  rw [e, setS_skip s v _ _ h, rest1_none s _ h]
  by_cases hlt : k < ls.length
  · obtain ⟨x, r, hd, hx⟩ := hh hlt
    have er : rest1 s (x :: r) = rest1 s r := by unfold rest1; rw [List.filter_cons, hx]; rfl
    rw [hd, setS_hit s v x r hx, er]
    simp
  · have : ls.drop k = [] := List.drop_eq_nil_of_le (by omega)
    rw [this]
    simp [setS, rest1]
theorem setS_len (s v : List UInt8) (ls : List Fld) : (setS s v ls).length ≤ ls.length + 1 := by
  induction ls with
  | nil => simp [setS]
  | cons x r ih =>
    unfold setS
    split
    · have := List.length_filter_le (fun x => !nm s x) r
      simp only [List.length_cons, rest1]; omega
    · simp only [List.length_cons]; omega
theorem setS_mem (s v : List UInt8) (ls : List Fld) : ∀ x ∈ setS s v ls, x = (s, v) ∨ x ∈ ls := by
  induction ls with
  | nil => intro x hx; simp [setS] at hx; exact .inl hx
  | cons y r ih =>
    intro x hx
    unfold setS at hx
    split at hx
    · rcases List.mem_cons.1 hx with hx | hx
      · exact .inl hx
      · exact .inr (List.mem_cons_of_mem _ (List.mem_filter.1 hx).1)
    · rcases List.mem_cons.1 hx with hx | hx
      · exact .inr (by rw [hx]; exact List.mem_cons_self ..)
      · rcases ih x hx with h | h
        · exact .inl h
        · exact .inr (List.mem_cons_of_mem _ h)
end Go.Proofs.YtipfjpihciiikaaGreatDoor

/-
  Messages in plain lists: a body on its own, as it is written and read behind the fields; no program is named here.
-/
namespace Go.Proofs.YtipfjpihciiikaaGreatDoor
open Go.RowKit

theorem bulk_short (ls : List Fld) (h : ∀ x ∈ ls, x.1.length ≤ 30 ∧ x.2.length ≤ 1000) : bulkF ls ≤ 1033 * ls.length := by
  induction ls with
  | nil => simp [bulkF]
  | cons a ls ih =>
    have h1 := h a (List.mem_cons_self ..)
    have h2 := ih fun x hx => h x (List.mem_cons_of_mem _ hx)
    simp only [bulkF, List.map_cons, List.sum_cons, List.length_cons] at h2 ⊢
    omega
theorem bulk_chk (ls : List Fld) (h : chk ls = 0) : bulkF ls ≤ 1048576 := by
  have h1 := bulk_short ls (chk_short ls h)
  have h2 := (chk_zero ls h).1
  omega
theorem most_chk (ls : List Fld) (h : chk ls = 0) : Most maxLen ls := fun x hx => by
  have := chk_short ls h x hx
  unfold maxLen; omega
theorem par_suf (n : Nat) : ∀ (s : List UInt8) (acc : List Fld), s.length ≤ n → (parS s acc).2.2 = 0 → ∃ p, s = p ++ (parS s acc).2.1 := by
  induction n with
  | zero =>
    intro s acc hs h
    obtain rfl := List.eq_nil_of_length_eq_zero (Nat.le_zero.1 hs)
    rw [par_none _ _ ix_nil] at h
    cases h
  | succ n ih =>
    intro s acc hs h
    rcases index_two' s [13, 10] with hi | ⟨k, hi, hk⟩
    · rw [par_none s acc hi] at h
      exfalso
      simp only at h
      split at h <;> cases h
    · have hk : k + 2 ≤ s.length := hk
      by_cases h0 : k = 0
      · subst h0
        rw [par_end s acc hi]
        exact ⟨s.take 2, (List.take_append_drop 2 s).symm⟩
      · by_cases hl : 1100 < k ∨ 30 ≤ acc.length
        · rw [par_large s acc k hi h0 hl] at h; cases h
        · by_cases hr : (rdF (s.take k)).2 = 0
          · rw [par_ok s acc k hi h0 hl hr] at h ⊢
            obtain ⟨p, hp⟩ := ih (s.drop (k + 2)) _ (by rw [List.length_drop]; omega) h
            refine ⟨s.take (k + 2) ++ p, ?_⟩
            rw [List.append_assoc, ← hp, List.take_append_drop]
          · rw [par_bad s acc k hi h0 hl hr] at h; exact absurd h hr
theorem par_drop (s : List UInt8) (h : (parS s []).2.2 = 0) : s.drop (s.length - (parS s []).2.1.length) = (parS s []).2.1 := by
  obtain ⟨p, hp⟩ := par_suf s.length s [] (Nat.le_refl _) h
  have hl : s.length - (parS s []).2.1.length = p.length := by
    have := congrArg List.length hp
    rw [List.length_append] at this
    omega
  rw [hl]
  conv => lhs; rw [hp]
  exact List.drop_left' rfl

/-- A body as it is written, where its kind is k and its length n. -/
def wbS (k n : Int) (b : List UInt8) : List UInt8 × Int :=
  if k = 3 then encE b 64 else if k = 4 ∧ 5000 < b.length then ([], 2) else if k ≠ 4 ∧ (b.length : Int) ≠ n then ([], 10) else (b, 0)
/-- A body as it is read. -/
def rbS (k n : Int) (r : List UInt8) : List UInt8 × Nat × Int :=
  if k = 3 then ans (runD start r 0) else if k = 4 then (if 5000 < r.length then ([], 0, 2) else (r, r.length, 0)) else if (r.length : Int) < n then ([], 0, 8) else (r.take n.toNat, n.toNat, 0)
theorem enc_64 (b : List UInt8) : encE b 64 = if 5000 < b.length then ([], 2) else (encS 63 b, 0) := by
  unfold encE
  rw [if_neg (by decide)]
  rfl
theorem wrB_bad {K : Kd} {ls : List Fld} (b : List UInt8) (h : chk ls ≠ 0) : wrB K ls b = ([], chk ls) := by unfold wrB; rw [if_pos h]
theorem wrB_err {K : Kd} {ls : List Fld} (b : List UInt8) (h : chk ls = 0) (h2 : (K ls).2.2 ≠ 0) : wrB K ls b = ([], (K ls).2.2) := by
  unfold wrB; rw [if_neg (by simpa using h), if_pos h2]
theorem wrB_wb {K : Kd} (hK : KdOk K) {ls : List Fld} (b : List UInt8) (h1 : chk ls = 0) (h2 : (K ls).2.2 = 0) :
    wrB K ls b = if (wbS (K ls).1 (K ls).2.1 b).2 ≠ 0 then ([], (wbS (K ls).1 (K ls).2.1 b).2) else (prt ls ++ [13, 10] ++ (wbS (K ls).1 (K ls).2.1 b).1, 0) := by
  unfold wrB
  rw [if_neg (by simpa using h1), if_neg (by simpa using h2)]
  rcases hK ls with ⟨e, hk, he⟩ | hk | hk | hk | ⟨n, hk, hn0, hn⟩
  · rw [hk] at h2; exact absurd h2 he
  · rw [hk]
    simp only [wbS, bdB]
    by_cases hb : b = []
    · subst hb; simp
    · have : b.length ≠ 0 := fun h => hb (List.eq_nil_of_length_eq_zero h)
      simp [hb]
  · rw [hk]
    simp only [wbS, bdB, enc_64]
    by_cases hb : 5000 < b.length
    · simp [hb]
    · simp [hb]
  · rw [hk]
    simp only [wbS, bdB]
    by_cases hb : 5000 < b.length
    · simp [hb]
    · simp [hb]
  · rw [hk]
    simp only [wbS, bdB]
    by_cases hb : (b.length : Int) = n
    · simp [hb]
    · simp [hb]
theorem wb_nil {k n : Int} {b : List UInt8} (h : (wbS k n b).2 ≠ 0) : (wbS k n b).1 = [] := by
  unfold wbS at h ⊢
  rw [enc_64] at h ⊢
  (repeat' split at h) <;> first | rfl | exact absurd rfl h | simp_all
theorem wb_len {K : Kd} (hK : KdOk K) {ls : List Fld} {b : List UInt8} (h2 : (K ls).2.2 = 0) (h : (wbS (K ls).1 (K ls).2.1 b).2 = 0) : (wbS (K ls).1 (K ls).2.1 b).1.length ≤ 45005 := by
  rcases hK ls with ⟨e, hk, he⟩ | hk | hk | hk | ⟨n, hk, hn0, hn⟩
  · rw [hk] at h2; exact absurd h2 he
  · rw [hk] at h ⊢
    simp only [wbS] at h ⊢
    by_cases hb : b = []
    · subst hb; simp
    · have hl : b.length ≠ 0 := fun h => hb (List.eq_nil_of_length_eq_zero h)
      simp [hb] at h
  · rw [hk] at h ⊢
    simp only [wbS, enc_64] at h ⊢
    by_cases hb : 5000 < b.length
    · simp [hb] at h
    · simp only [hb, if_true, if_false]
      have := encS_len 63 b.length b (Nat.le_refl _) (by omega)
      omega
  · rw [hk] at h ⊢
    simp only [wbS] at h ⊢
    by_cases hb : 5000 < b.length
    · simp [hb] at h
    · simp [hb]; omega
  · rw [hk] at h ⊢
    simp only [wbS] at h ⊢
    by_cases hb : (b.length : Int) = n
    · simp [hb]; omega
    · simp [hb] at h
theorem wrB_len {K : Kd} (hK : KdOk K) {ls : List Fld} {b s : List UInt8} (h : wrB K ls b = (s, 0)) : s.length ≤ 76027 := by
  obtain ⟨h1, h2, _⟩ := wrB_is h
  rw [wrB_wb hK b h1 h2] at h
  have hp := prt_take_len ls h1 ls.length
  rw [List.take_length] at hp
  by_cases h3 : (wbS (K ls).1 (K ls).2.1 b).2 = 0
  · rw [if_neg (by simpa using h3), Prod.mk.injEq] at h
    have := wb_len hK h2 h3
    rw [← h.1]
    simp only [List.length_append, List.length_cons, List.length_nil]
    omega
  · rw [if_pos h3, Prod.mk.injEq] at h; exact absurd h.2 h3
theorem wrQ_len {K : Kd} (hK : KdOk K) {m t : List UInt8} {ls : List Fld} {b s : List UInt8} (h : wrQ K m t ls b = (s, 0)) : s.length ≤ 80000 := by
  obtain ⟨hm, ht, w, hw, hs⟩ := wrQ_is h
  have h1 := wrB_len hK hw
  have h2 := (reqB_le m t hm ht).1
  rw [hs]
  simp only [List.length_append, List.length_cons, List.length_nil]
  omega
theorem wrP_len {K : Kd} (hK : KdOk K) {c : Int} {r : List UInt8} {ls : List Fld} {b s : List UInt8} (h : wrP K c r ls b = (s, 0)) : s.length ≤ 80000 := by
  obtain ⟨hc, hr, w, hw, hs⟩ := wrP_is h
  have h1 := wrB_len hK hw
  have h2 := (stB_le c r hr).1
  rw [hs]
  simp only [List.length_append, List.length_cons, List.length_nil]
  omega
theorem wrB_nil {K : Kd} (hK : KdOk K) {ls : List Fld} {b : List UInt8} (h : (wrB K ls b).2 ≠ 0) : (wrB K ls b).1 = [] := by
  by_cases h1 : chk ls = 0
  · by_cases h2 : (K ls).2.2 = 0
    · rw [wrB_wb hK b h1 h2] at h ⊢
      by_cases h3 : (wbS (K ls).1 (K ls).2.1 b).2 = 0
      · rw [if_neg (by simpa using h3)] at h; exact absurd rfl h
      · rw [if_pos h3]
    · rw [wrB_err b h1 h2]
  · rw [wrB_bad b h1]
theorem rdB_bad {K : Kd} {s : List UInt8} (h : (parS s []).2.2 ≠ 0) : rdB K s = ([], [], 0, (parS s []).2.2) := by unfold rdB; rw [if_pos h]
theorem rdB_err {K : Kd} {s : List UInt8} (h : (parS s []).2.2 = 0) (h2 : (K (parS s []).1).2.2 ≠ 0) : rdB K s = ([], [], 0, (K (parS s []).1).2.2) := by
  unfold rdB; rw [if_neg (by simpa using h), rdK_err h2]
theorem rdB_rb {K : Kd} (hK : KdOk K) {s : List UInt8} (h : (parS s []).2.2 = 0) (h2 : (K (parS s []).1).2.2 = 0) :
    rdB K s = if (rbS (K (parS s []).1).1 (K (parS s []).1).2.1 (parS s []).2.1).2.2 ≠ 0 then ([], [], 0, (rbS (K (parS s []).1).1 (K (parS s []).1).2.1 (parS s []).2.1).2.2)
      else ((parS s []).1, (rbS (K (parS s []).1).1 (K (parS s []).1).2.1 (parS s []).2.1).1, s.length - (parS s []).2.1.length + (rbS (K (parS s []).1).1 (K (parS s []).1).2.1 (parS s []).2.1).2.1, 0) := by
  unfold rdB
  rw [if_neg (by simpa using h)]
  rcases hK (parS s []).1 with ⟨e, hk, he⟩ | hk | hk | hk | ⟨n, hk, hn0, hn⟩
  · rw [hk] at h2; exact absurd h2 he
  · rw [hk, rdK_1]
    have : ¬ (((parS s []).2.1.length : Nat) : Int) < 0 := by omega
    simp [rbS, this]
  · rw [hk, rdK_3]
    simp [rbS]
  · rw [hk, rdK_4]
    simp only [rbS]
    by_cases hb : 5000 < (parS s []).2.1.length
    · simp [hb]
    · simp [hb]
  · rw [hk, rdK_2]
    simp only [rbS]
    by_cases hb : (((parS s []).2.1.length : Nat) : Int) < n
    · simp [hb]
    · simp [hb]
theorem rb_nil {k n : Int} {r : List UInt8} (h : (rbS k n r).2.2 ≠ 0) : (rbS k n r).1 = [] ∧ (rbS k n r).2.1 = 0 := by
  unfold rbS at h ⊢
  (repeat' split at h) <;> first | exact ⟨rfl, rfl⟩ | exact absurd rfl h | (rename_i hk; simp only [hk, if_true]; exact (ans_is r).1 h) | simp_all
theorem rb_len {k n : Int} {r : List UInt8} (hn : 0 ≤ n) : (rbS k n r).2.1 ≤ r.length := by
  unfold rbS
  repeat' split
  · by_cases h : (ans (runD start r 0)).2.2 = 0
    · exact ((ans_is r).2 h).2
    · rw [((ans_is r).1 h).2]; omega
  · simp
  · simp
  · simp
  · simp only; omega
end Go.Proofs.YtipfjpihciiikaaGreatDoor

/-
  What trim of package token and strings.Clone compute; a text is no longer than Go allows.
-/
namespace Go.Proofs.YtipfjpihciiikaaGreatDoor
open Go.RowKit

set_option maxRecDepth 100000 in
theorem trim_at (s t : ByteArray) (ht : t.data.toList = trimL s.data.toList) (w : World) (hs : s.size ≤ 100000) :
    Calls Tryz.prog 103 #[.string s] w fun e w' => e = .returned (.string t) ∧ Below w.heap.size w w' := by
  have HT : Hid (t.data.toList = trimL s.data.toList) := ht
  clear ht
  go_enter Tryz.func103, Tryz.ntmps103
  go_wp2_with fail
  refine (Tryz.strings_Trim_set s ⟨#[32, 9]⟩ _ (by omega) (by decide) (ascii_of_all (by decide))).mono ?_
  rintro e w1 ⟨rfl, hb⟩
  go_wp2_with fail
  go_ret
  refine ⟨ret_str ?_, hb⟩
  apply ByteArray.ext
  apply Array.ext'
  rw [HT.out]
  rfl

set_option maxRecDepth 100000 in
theorem clone_at (s : ByteArray) (w : World) (hs : s.size ≤ 100000) :
    Calls Tryz.prog 49 #[.string s] w fun e w' => e = .returned (.string s) ∧ Below w.heap.size w w' := by
  go_enter Tryz.func49, Tryz.ntmps49
  go_wp2_with fail
  refine (Tryz.stringslite_Clone s _ (by omega)).mono ?_
  rintro e w1 ⟨rfl, hb⟩
  go_wp2_with fail
  go_ret
  exact ⟨rfl, hb⟩
end Go.Proofs.YtipfjpihciiikaaGreatDoor

/-
  The row of the type of texts, and the cells of a block of one; over the program's table of types.
-/
namespace Go.Proofs.YtipfjpihciiikaaGreatDoor
open Go.RowKit

theorem info9 : (Tryz.prog.info? 9).map (fun i => (i.zero, i.size, i.bytes)) = some (some (.string ⟨#[]⟩), 1, 16) := by kernel_rfl
theorem one_cell (w : World) (v : Value) (t : TypeId) : ∀ (j : Nat) u, [v][j]? = some u → (w.alloc (.cells #[v] t)).cell? ((⟨w.heap.size, 0, none⟩ : Addr).add j) = some u := by
  intro j u h
  match j, h with
  | 0, h => simp at h; subst h; simp [Addr.add]
end Go.Proofs.YtipfjpihciiikaaGreatDoor

/-
  What cut of package token computes: the pieces of a text between the signs that are not within quotes; the text has at most 1000 bytes, and the sign is no quote and no stroke.
-/
namespace Go.Proofs.YtipfjpihciiikaaGreatDoor
open Go.RowKit

set_option maxHeartbeats 4000000 in
set_option maxRecDepth 100000 in
theorem cut_any (s : ByteArray) (sep : UInt8) (w : World) (hs : s.size ≤ 1000) (h34 : sep ≠ 34) :
    Calls Tryz.prog 102 #[.string s, .int .u8 (sep.toNat : Int)] w fun e w' => ∃ v, e = .returned (.tuple #[v, .bool (ends sep s.data.toList)]) ∧
      w'.ownsRow w.heap.size 9 1 v (pieces sep s.data.toList).length (strs (pieces sep s.data.toList)) ∧ Below w.heap.size w w' := by
  obtain ⟨i0, hi, hz0, hz1, hz2⟩ := info_parts info9
  have HS34 : Hid (sep ≠ 34) := h34
  clear h34
  go_enter Tryz.func102, Tryz.ntmps102
  go_wp2_with fail
  go_loopw [6, 7, 8, 9] (fun v st wi i wr => ∃ (k a : Nat) (ps : List (List UInt8)) (q cn : Bool), k ≤ s.size + 1 ∧ a ≤ k ∧ a ≤ s.size ∧ i = .int .i64 k ∧ st = .int .i64 a ∧ wi = .bool q ∧ (k ≤ s.size → cn = false) ∧
      cutS sep (s.data.toList.take k) = ⟨ps, (s.data.toList.drop a).take (k - a), q, cn⟩ ∧ wr.ownsRow w.heap.size 9 1 v ps.length (strs ps) ∧ Below w.heap.size w wr) (fun _ _ _ i _ => s.size + 1 - (intOf i).toNat)
  case atStart => exact ⟨0, 0, [], false, false, by omega, by omega, by omega, rfl, rfl, rfl, fun _ => rfl, by simp [cutS], World.ownsRow_nil _ _ _ _, Below.refl _ _⟩
  case round =>
    obtain ⟨k, a, ps, q, cn, hk, hak, has, rfl, rfl, rfl, hcn, hcut, hown, hw⟩ := hrel
    have hpl : ps.length ≤ 1000 := by
      have h1 := cutS_len sep (s.data.toList.take k)
      have h2 := List.length_take_le' k s.data.toList
      rw [hcut] at h1
      rw [size_list] at h2
      simp only at h1
      omega
    have hsz := hw.size
    have HC : Hid (cutS sep (s.data.toList.take k) = ⟨ps, (s.data.toList.drop a).take (k - a), q, cn⟩) := hcut
    clear hcut
    by_cases hlt : k < s.size
    · have hcn' := hcn (by omega)
      subst hcn'
      clear hcn
      have hc1 : (s[k].toNat : Int) < 256 := by have := s[k].toNat_lt; omega
      have HSN : Hid (∀ x, cstep sep ⟨ps, (s.data.toList.drop a).take (k - a), q, false⟩ s[k] = x → cutS sep (s.data.toList.take (k + 1)) = x) := by
        intro x hx
        rw [take_snoc s k hlt, cutS_snoc, HC.out, hx]
      by_cases hq34 : (s[k].toNat : Int) = 34
      · have hd1 : ((s[k].toNat : Int) == 92) = false := by rw [beq_eq_false_iff_ne]; omega
        have hd2 : ((s[k].toNat : Int) == 34) = true := by simp [hq34]
        have H34 : Hid ((s[k].toNat : Int) = 34) := hq34
        clear hq34
        cases q
        · go_wp2_with fail
          go_roundw
          case rel => exact ⟨k + 1, a, ps, true, false, by omega, by omega, by omega, by go_num, rfl, rfl, fun _ => rfl, by rw [seg_snoc s a k hak hlt]; exact HSN.out _ (cstep_quote sep HS34.out _ _ _ _ (eq_of_int _ 34 H34.out)), hown, hw⟩
          case measure => simp [intOf]; omega
        · go_wp2_with fail
          go_roundw
          case rel => exact ⟨k + 1, a, ps, false, false, by omega, by omega, by omega, by go_num, rfl, rfl, fun _ => rfl, by rw [seg_snoc s a k hak hlt]; exact HSN.out _ (cstep_quote sep HS34.out _ _ _ _ (eq_of_int _ 34 H34.out)), hown, hw⟩
          case measure => simp [intOf]; omega
      · have hd2 : ((s[k].toNat : Int) == 34) = false := by rw [beq_eq_false_iff_ne]; exact hq34
        have H34 : Hid ((s[k].toNat : Int) ≠ 34) := hq34
        clear hq34
        cases q
        · by_cases hsep : (s[k].toNat : Int) = (sep.toNat : Int)
          · have hd3 : ((s[k].toNat : Int) == (sep.toNat : Int)) = true := by simp [hsep]
            have HSP : Hid ((s[k].toNat : Int) = (sep.toNat : Int)) := hsep
            clear hsep
            go_wp2_with (at_builtin; refine wpList_append_own _ rfl _ _ 78 rfl w.heap.size 9 i0 (.string ⟨#[]⟩) 1 16 Tryz.underlying78 hi hz0 hz1 hz2 rfl (by decide) _ _ _ rfl (hown.alloc _) ⟨wr.heap.size, 0, none⟩ 1 1 [.string (s.extract a k)] rfl rfl ?c1 ?c2 ?c3 ?c4 ?c5 ?_)
            case c1 => exact one_cell _ _ _
            case c2 => intro u hu; simp at hu; subst hu; rfl
            case c3 => unfold maxLen; omega
            case c4 => omega
            case c5 => simp; omega
            · intro v' w1 hown' hgrow _
              have hB : Below w.heap.size w w1 := (hw.alloc (by omega) _).grown hgrow (by simp; omega) (fun b hb => ((hown.alloc (.cells #[.string (s.extract a k)] 9)).lt b hb).1)
              have hown2 : w1.ownsRow w.heap.size 9 1 v' (ps ++ [(s.data.toList.drop a).take (k - a)]).length (strs (ps ++ [(s.data.toList.drop a).take (k - a)])) := by
                rw [← strs_snoc, List.length_append, ← extract_seg]; exact hown'
              clear hown' hgrow hown hw
              go_wp2_with fail
              go_roundw
              case rel => exact ⟨k + 1, k + 1, _, false, false, by omega, by omega, by omega, by go_num, by go_num, rfl, fun _ => rfl, by rw [Nat.sub_self, List.take_zero]; exact HSN.out _ (cstep_sep sep _ _ _ (eq_of_int _ _ HSP.out)), hown2, hB⟩
              case measure => simp [intOf]; omega
          · have hd3 : ((s[k].toNat : Int) == (sep.toNat : Int)) = false := by rw [beq_eq_false_iff_ne]; exact hsep
            have HSP : Hid ((s[k].toNat : Int) ≠ (sep.toNat : Int)) := hsep
            clear hsep
            go_wp2_with fail
            go_roundw
            case rel => exact ⟨k + 1, a, ps, false, false, by omega, by omega, by omega, by go_num, rfl, rfl, fun _ => rfl, by rw [seg_snoc s a k hak hlt]; exact HSN.out _ (cstep_else sep _ _ _ _ (fun h => ne_of_int _ _ HSP.out h.1) (ne_of_int _ 34 H34.out) (fun h => by cases h.2)), hown, hw⟩
            case measure => simp [intOf]; omega
        · by_cases hq92 : (s[k].toNat : Int) = 92
          · have hd1 : ((s[k].toNat : Int) == 92) = true := by simp [hq92]
            have H92 : Hid ((s[k].toNat : Int) = 92) := hq92
            clear hq92
            have HN : Hid (∃ cn', (k + 2 ≤ s.size → cn' = false) ∧ cutS sep (s.data.toList.take (k + 2)) = ⟨ps, (s.data.toList.drop a).take (k + 2 - a), true, cn'⟩) := by
              have h1 := HSN.out _ (cstep_back sep _ _ _ (eq_of_int _ 92 H92.out))
              rw [← seg_snoc s a k hak hlt] at h1
              by_cases h2 : k + 1 < s.size
              · refine ⟨false, fun _ => rfl, ?_⟩
                rw [take_snoc s (k + 1) h2, cutS_snoc, h1, cstep_took, seg_snoc s a (k + 1) (by omega) h2]
              · refine ⟨true, fun h => absurd h (by omega), ?_⟩
                have e1 : s.data.toList.take (k + 2) = s.data.toList.take (k + 1) := by
                  rw [List.take_of_length_le (by rw [size_list]; omega), List.take_of_length_le (by rw [size_list]; omega)]
                have e2 : (s.data.toList.drop a).take (k + 2 - a) = (s.data.toList.drop a).take (k + 1 - a) := by
                  rw [List.take_of_length_le (by rw [List.length_drop, size_list]; omega), List.take_of_length_le (by rw [List.length_drop, size_list]; omega)]
                rw [e1, e2, h1]
            go_wp2_with fail
            go_roundw
            case rel =>
              obtain ⟨cn', h1, h2⟩ := HN.out
              exact ⟨k + 2, a, ps, true, cn', by omega, by omega, by omega, by go_num, rfl, rfl, h1, h2, hown, hw⟩
            case measure => simp [intOf]; omega
          · have hd1 : ((s[k].toNat : Int) == 92) = false := by rw [beq_eq_false_iff_ne]; exact hq92
            have H92 : Hid ((s[k].toNat : Int) ≠ 92) := hq92
            clear hq92
            by_cases hsep : (s[k].toNat : Int) = (sep.toNat : Int)
            · have hd3 : ((s[k].toNat : Int) == (sep.toNat : Int)) = true := by simp [hsep]
              clear hsep
              go_wp2_with fail
              go_roundw
              case rel => exact ⟨k + 1, a, ps, true, false, by omega, by omega, by omega, by go_num, rfl, rfl, fun _ => rfl, by rw [seg_snoc s a k hak hlt]; exact HSN.out _ (cstep_else sep _ _ _ _ (fun h => by cases h.2) (ne_of_int _ 34 H34.out) (fun h => ne_of_int _ 92 H92.out h.1)), hown, hw⟩
              case measure => simp [intOf]; omega
            · have hd3 : ((s[k].toNat : Int) == (sep.toNat : Int)) = false := by rw [beq_eq_false_iff_ne]; exact hsep
              clear hsep
              go_wp2_with fail
              go_roundw
              case rel => exact ⟨k + 1, a, ps, true, false, by omega, by omega, by omega, by go_num, rfl, rfl, fun _ => rfl, by rw [seg_snoc s a k hak hlt]; exact HSN.out _ (cstep_else sep _ _ _ _ (fun h => by cases h.2) (ne_of_int _ 34 H34.out) (fun h => ne_of_int _ 92 H92.out h.1)), hown, hw⟩
              case measure => simp [intOf]; omega
    · have HE : Hid (cutS sep s.data.toList = ⟨ps, (s.data.toList.drop a).take (s.size - a), q, cn⟩) := by
        show cutS sep s.data.toList = _
        have h := HC.out
        have e2 : (s.data.toList.drop a).take (k - a) = (s.data.toList.drop a).take (s.size - a) := by
          rw [List.take_of_length_le (by rw [List.length_drop, size_list]; omega), List.take_of_length_le (by rw [List.length_drop, size_list]; omega)]
        rw [List.take_of_length_le (by rw [size_list]; omega), e2] at h
        exact h
      clear hcn
      go_wp2_with (at_builtin; refine wpList_append_own _ rfl _ _ 78 rfl w.heap.size 9 i0 (.string ⟨#[]⟩) 1 16 Tryz.underlying78 hi hz0 hz1 hz2 rfl (by decide) _ _ _ rfl (hown.alloc _) ⟨wr.heap.size, 0, none⟩ 1 1 [.string (s.extract a s.size)] rfl rfl ?d1 ?d2 ?d3 ?d4 ?d5 ?_)
      case d1 => exact one_cell _ _ _
      case d2 => intro u hu; simp at hu; subst hu; rfl
      case d3 => unfold maxLen; omega
      case d4 => omega
      case d5 => simp; omega
      · intro v' w1 hown' hgrow _
        have hB : Below w.heap.size w w1 := (hw.alloc (by omega) _).grown hgrow (by simp; omega) (fun b hb => ((hown.alloc (.cells #[.string (s.extract a s.size)] 9)).lt b hb).1)
        have hown2 : w1.ownsRow w.heap.size 9 1 v' (pieces sep s.data.toList).length (strs (pieces sep s.data.toList)) := by
          unfold pieces
          rw [HE.out, ← strs_snoc, List.length_append, ← extract_seg]; exact hown'
        have HEN : Hid (ends sep s.data.toList = !q) := by show _ = _; unfold ends; rw [HE.out]
        clear hown' hgrow hown hw
        go_wp2_with fail
        go_ret2
        exact ⟨v', by rw [HEN.out]; rfl, hown2, hB⟩
end Go.Proofs.YtipfjpihciiikaaGreatDoor

/-
  Small laws on rows of memory that a call made itself; no program is named here.
-/
namespace Go.Proofs.YtipfjpihciiikaaGreatDoor
open Go.RowKit

theorem own_nil {w : World} {B : Nat} {e : TypeId} {v : Value} {xs : List Value} (h : w.ownsRow B e 1 v 0 xs) : xs = [] := by
  have := h.1
  simpa using this

theorem own_cell {w : World} {B : Nat} {v : Value} {n : Nat} {ps : List (List UInt8)} (h : w.ownsRow B 9 1 v n (strs ps)) : n = ps.length := by
  have := h.1
  rw [strs_length] at this
  omega

theorem own_slice {w : World} {B : Nat} {e : TypeId} {v : Value} {n : Nat} {xs : List Value} (h : w.ownsRow B e 1 v n xs) : ∃ ad cap, v = .slice ad n cap ∧ cap ≤ maxLen ∧ n ≤ cap ∧ (0 < n → ∃ g, ad = some ⟨g, 0, none⟩ ∧ B ≤ g ∧ g < w.heap.size ∧ ∀ j, j < n → w.cell? ⟨g, j, none⟩ = xs[j]?) := by
  rcases h.2 with ⟨rfl, rfl⟩ | ⟨g, cap, cur, hv, hb, hg, hnc, hcm, _, _⟩
  · exact ⟨none, 0, rfl, by unfold maxLen; omega, Nat.le_refl _, fun h => absurd h (by omega)⟩
  · refine ⟨some ⟨g, 0, none⟩, cap, hv, hcm, hnc, fun _ => ⟨g, rfl, hb, (Array.getElem?_eq_some_iff.1 hg).1, fun j hj => ?_⟩⟩
    subst hv
    exact h.cellAt j (by omega)

theorem own_below2 {w w1 : World} {B : Nat} {e : TypeId} {v : Value} {n : Nat} {xs : List Value} (h : w.ownsRow B e 1 v n xs) (hb : Below w.heap.size w w1) : w1.ownsRow B e 1 v n xs := by
  refine ⟨h.1, ?_⟩
  rcases h.2 with h0 | ⟨g, cap, cur, hv, hB, hg, h3⟩
  · exact .inl h0
  · exact .inr ⟨g, cap, cur, hv, hB, (hb.block g (Array.getElem?_eq_some_iff.1 hg).1).trans hg, h3⟩
theorem ownsRow_le' {w : World} {B B' : Nat} {e : TypeId} {v : Value} {n : Nat} {xs : List Value} (h : w.ownsRow B e 1 v n xs) (hb : B' ≤ B) : w.ownsRow B' e 1 v n xs := by
  refine ⟨h.1, ?_⟩
  rcases h.2 with h0 | ⟨g, cap, cur, hv, hB, h3⟩
  · exact .inl h0
  · exact .inr ⟨g, cap, cur, hv, Nat.le_trans hb hB, h3⟩
end Go.Proofs.YtipfjpihciiikaaGreatDoor

/-
  What Split of package token computes; the text is no longer than Go allows.
-/
namespace Go.Proofs.YtipfjpihciiikaaGreatDoor
open Go.RowKit

def kept (P : List (List UInt8)) : List (List UInt8) := (P.map trimL).filter (fun p => !p.isEmpty)
def splitS (l : List UInt8) : List (List UInt8) × Int :=
  if 1000 < l.length then ([], 2) else if ends 44 l = false then ([], 3) else if 20 < (kept (pieces 44 l)).length then ([], 2) else (kept (pieces 44 l), 0)

theorem kept_snoc (P : List (List UInt8)) (p : List UInt8) : kept (P ++ [p]) = if (trimL p).isEmpty = true then kept P else kept P ++ [trimL p] := by
  unfold kept
  rw [List.map_append, List.filter_append]
  cases h : (trimL p).isEmpty <;> simp [h]
theorem kept_len (P : List (List UInt8)) : (kept P).length ≤ P.length := by
  unfold kept
  have := List.length_filter_le (fun p : List UInt8 => !p.isEmpty) (P.map trimL)
  simpa using this
theorem take_one (P : List (List UInt8)) (k : Nat) (h : k < P.length) : P.take (k + 1) = P.take k ++ [P[k]] := List.take_succ_eq_append_getElem h

set_option maxHeartbeats 4000000 in
set_option maxRecDepth 100000 in
theorem split_any (s : ByteArray) (w : World) :
    Calls Tryz.prog 70 #[.string s] w fun e w' => ∃ v, e = .returned (.tuple #[v, .int .i64 (splitS s.data.toList).2]) ∧
      w'.ownsRow w.heap.size 9 1 v (splitS s.data.toList).1.length (strs (splitS s.data.toList).1) ∧ Below w.heap.size w w' := by
  obtain ⟨i0, hi, hz0, hz1, hz2⟩ := info_parts info9
  by_cases h1 : 1000 < (s.size : Int)
  · have HL : Hid (splitS s.data.toList = ([], 2)) := by show _ = _; unfold splitS; rw [if_pos (by rw [size_list]; omega)]
    go_enter Tryz.func70, Tryz.ntmps70
    go_wp2_with fail
    go_ret2
    exact ⟨.slice none 0 0, by rw [HL.out]; rfl, by rw [HL.out]; exact World.ownsRow_nil _ _ _ _, Below.refl _ _⟩
  · have hs : s.size ≤ 1000 := by omega
    have HL : Hid (¬ 1000 < s.data.toList.length) := by show ¬ _; rw [size_list]; omega
    clear h1
    cases he : ends 44 s.data.toList
    · have HE : Hid (ends 44 s.data.toList = false) := he
      have HS : Hid (splitS s.data.toList = ([], 3)) := by show _ = _; unfold splitS; rw [if_neg HL.out, if_pos he]
      clear he
      go_enter Tryz.func70, Tryz.ntmps70
      go_wp2_with fail
      refine (cut_any s 44 _ hs (by decide)).mono ?_
      rintro e w1 ⟨v, rfl, hown, hb⟩
      rw [HE.out]
      go_wp2_with fail
      go_ret2
      exact ⟨.slice none 0 0, by rw [HS.out]; rfl, by rw [HS.out]; exact World.ownsRow_nil _ _ _ _, hb⟩
    · have HE : Hid (ends 44 s.data.toList = true) := he
      have HS : Hid (splitS s.data.toList = if 20 < (kept (pieces 44 s.data.toList)).length then ([], 2) else (kept (pieces 44 s.data.toList), 0)) := by
        show _ = _; unfold splitS; rw [if_neg HL.out, if_neg (by rw [he]; simp)]
      clear he
      obtain ⟨P, hP⟩ : ∃ P, P = pieces 44 s.data.toList := ⟨_, rfl⟩
      have HP : Hid (P = pieces 44 s.data.toList) := hP
      have hPl : P.length ≤ 1001 := by
        rw [hP]; unfold pieces
        have := cutS_len 44 s.data.toList
        rw [size_list] at this
        simp; omega
      clear hP
      go_enter Tryz.func70, Tryz.ntmps70
      go_wp2_with fail
      refine (cut_any s 44 _ hs (by decide)).mono ?_
      rintro e w1 ⟨v, rfl, hown, hb⟩
      rw [HE.out]
      rw [← HP.out] at hown
      obtain ⟨ad, cap, hv, hcm, hnc, hcells⟩ := own_slice hown
      subst hv
      unfold maxLen at hcm
      have HCL : Hid (0 < P.length → ∃ g, ad = some ⟨g, 0, none⟩ ∧ w.heap.size ≤ g ∧ g < w1.heap.size ∧ ∀ j, j < P.length → w1.cell? ⟨g, j, none⟩ = (strs P)[j]?) := hcells
      have hbs := hb.size
      clear hcells hown
      go_wp2_with fail
      go_loopw [6, 22] (fun v i wr => ∃ k : Nat, k ≤ P.length ∧ i = .int .i64 k ∧ wr.ownsRow w1.heap.size 9 1 v (kept (P.take k)).length (strs (kept (P.take k))) ∧ Below w1.heap.size w1 wr) (fun _ i _ => P.length - (intOf i).toNat)
      case atStart => exact ⟨0, by omega, rfl, World.ownsRow_nil _ _ _ _, Below.refl _ _⟩
      case round =>
        obtain ⟨k, hk, rfl, hown, hw⟩ := hrel
        have hsz := hw.size
        have hkl : (kept (P.take k)).length ≤ 1001 := by
          have h1 := kept_len (P.take k)
          have h2 := List.length_take_le k P
          omega
        by_cases hlt : k < P.length
        · obtain ⟨g, rfl, hgB, hgs, hce⟩ := HCL.out (by omega)
          have hcell : wr.cell? ⟨g, k, none⟩ = some (.string ⟨(P[k]).toArray⟩) := by
            rw [hw.cell (p := ⟨g, k, none⟩) hgs, hce k hlt]
            exact strs_get P k hlt
          obtain ⟨u, hu⟩ : ∃ u : ByteArray, u = ⟨(P[k]).toArray⟩ := ⟨_, rfl⟩
          rw [← hu] at hcell
          have hus : u.size ≤ 1000 := by
            rw [hu, ← size_list]
            have h2 := pieces_len 44 s.data.toList P[k] (by rw [← HP.out]; exact List.getElem_mem hlt)
            rw [size_list] at h2
            show (P[k]).length ≤ 1000
            omega
          obtain ⟨u', hu'⟩ : ∃ u' : ByteArray, u' = ⟨(trimL P[k]).toArray⟩ := ⟨_, rfl⟩
          have HU : Hid (u'.data.toList = trimL u.data.toList) := by show _ = _; rw [hu, hu']
          have HU' : Hid (u' = ⟨(trimL P[k]).toArray⟩) := hu'
          have hus' : u'.size ≤ 1000 := by
            rw [← size_list, HU.out]
            have := trimL_len u.data.toList
            rw [size_list] at this
            omega
          have HKS : Hid (kept (P.take (k + 1)) = if (trimL P[k]).isEmpty = true then kept (P.take k) else kept (P.take k) ++ [trimL P[k]]) := by
            show _ = _; rw [take_one P k hlt, kept_snoc]
          clear hce hu hu'
          cases hem : u'.toList.isEmpty
          · have HEM : Hid ((trimL P[k]).isEmpty = false) := by
              show _ = _
              rw [ByteArray.toList_eq, HU'.out] at hem
              exact hem
            go_wp2_with fail
            refine (trim_at _ u' HU.out _ (by omega)).mono ?_
            rintro e w2 ⟨rfl, hb2⟩
            have hown2 := own_below2 hown hb2
            have hw2 := hw.trans (hb2.mono hw.size)
            have hsz2 := hw2.size
            clear hown hw hb2 hcell
            go_wp2_with fail
            refine (clone_at _ _ (by omega)).mono ?_
            rintro e w3 ⟨rfl, hb3⟩
            have hown3 := own_below2 hown2 hb3
            have hw3 := hw2.trans (hb3.mono hw2.size)
            have hsz3 := hw3.size
            clear hown2 hw2 hb3
            go_wp2_with (at_builtin; refine wpList_append_own _ rfl _ _ 78 rfl w1.heap.size 9 i0 (.string ⟨#[]⟩) 1 16 Tryz.underlying78 hi hz0 hz1 hz2 rfl (by decide) _ _ _ rfl (hown3.alloc _) ⟨w3.heap.size, 0, none⟩ 1 1 [.string u'] rfl rfl ?c1 ?c2 ?c3 ?c4 ?c5 ?_)
            case c1 => exact one_cell _ _ _
            case c2 => intro x hx; simp at hx; subst hx; rfl
            case c3 => unfold maxLen; omega
            case c4 => omega
            case c5 => simp; omega
            · intro v' w4 hown' hgrow _
              have hB : Below w1.heap.size w1 w4 := (hw3.alloc (by omega) _).grown hgrow (by simp; omega) (fun b hb => ((hown3.alloc (.cells #[.string u'] 9)).lt b hb).1)
              have hown4 : w4.ownsRow w1.heap.size 9 1 v' (kept (P.take (k + 1))).length (strs (kept (P.take (k + 1)))) := by
                rw [HKS.out, HEM.out]
                simp only [Bool.false_eq_true, if_false]
                rw [← strs_snoc, List.length_append, ← HU'.out]; exact hown'
              clear hown' hgrow hown3 hw3
              go_wp2_with fail
              go_roundw
              case rel => exact ⟨k + 1, by omega, by go_num, hown4, hB⟩
              case measure => simp [intOf]; omega
          · have HEM : Hid ((trimL P[k]).isEmpty = true) := by
              show _ = _
              rw [ByteArray.toList_eq, HU'.out] at hem
              exact hem
            go_wp2_with fail
            refine (trim_at _ u' HU.out _ (by omega)).mono ?_
            rintro e w2 ⟨rfl, hb2⟩
            have hown2 := own_below2 hown hb2
            have hw2 := hw.trans (hb2.mono hw.size)
            clear hown hw hb2 hcell
            go_wp2_with fail
            go_roundw
            case rel => exact ⟨k + 1, by omega, by go_num, by rw [HKS.out, if_pos HEM.out]; exact hown2, hw2⟩
            case measure => simp [intOf]; omega
        · obtain rfl : k = P.length := by omega
          rw [List.take_length] at hown hkl
          obtain ⟨ad2, cap2, hv2, hcm2, hnc2, _⟩ := own_slice hown
          subst hv2
          unfold maxLen at hcm2
          by_cases h20 : 20 < ((kept P).length : Int)
          · have HR : Hid (splitS s.data.toList = ([], 2)) := by show _ = _; rw [HS.out, if_pos (by rw [← HP.out]; omega)]
            go_wp2_with fail
            go_ret2
            exact ⟨.slice none 0 0, by rw [HR.out]; rfl, by rw [HR.out]; exact World.ownsRow_nil _ _ _ _, hb.trans (hw.mono hbs)⟩
          · have HR : Hid (splitS s.data.toList = (kept P, 0)) := by show _ = _; rw [HS.out, if_neg (by rw [← HP.out]; omega), ← HP.out]
            go_wp2_with fail
            go_ret2
            exact ⟨_, by rw [HR.out]; rfl, by rw [HR.out]; exact ownsRow_le' hown hbs, hb.trans (hw.mono hbs)⟩
end Go.Proofs.YtipfjpihciiikaaGreatDoor

/-
  How the end of a body is known, in plain lists: the document's P13 over plain data; no program is named here.
-/
namespace Go.Proofs.YtipfjpihciiikaaGreatDoor
open Go.RowKit

def headM : List UInt8 := [72, 69, 65, 68]
def teN : List UInt8 := [84, 114, 97, 110, 115, 102, 101, 114, 45, 69, 110, 99, 111, 100, 105, 110, 103]
def clN : List UInt8 := [67, 111, 110, 116, 101, 110, 116, 45, 76, 101, 110, 103, 116, 104]
def chkN : List UInt8 := [99, 104, 117, 110, 107, 101, 100]
/-- A response that has no body, whatever its fields say. -/
def never (m : List UInt8) (c : Int) : Bool := m == headM || decide (c < 200) || decide (c = 204) || decide (c = 304)
/-- A number that is told in at most four digits, without noughts ahead. -/
def rdLn (l : List UInt8) : Int × Bool :=
  match Lib.atoiAll l with
  | .ok v => (v, decide (0 ≤ v) && decide (l.length ≤ 4) && decide (Lib.itoa v = l))
  | .«syntax» => (0, false)
  | .range => (Lib.atoiSat l, false)
def kdP : List (List UInt8) → Int × Int × Int
  | [] => (0, 0, 10)
  | p :: r => if r.all (· == p) then (if (rdLn p).2 then (if 5000 < (rdLn p).1 then (0, 0, 2) else (2, (rdLn p).1, 0)) else (0, 0, 10)) else (0, 0, 10)
def kdL (t : List UInt8) : Int × Int × Int := if (splitS t).2 = 0 then kdP (splitS t).1 else (0, 0, 10)
def kd (req : Bool) (m : List UInt8) (c : Int) (ls : List Fld) : Int × Int × Int :=
  if (!req && never m c) = true then (1, 0, 0)
  else if (!(vals ls teN).isEmpty) = true then (if (!(vals ls clN).isEmpty || (lower (jn (vals ls teN)) != chkN)) = true then (0, 0, 10) else (3, 0, 0))
  else if (!(vals ls clN).isEmpty) = true then kdL (jn (vals ls clN))
  else if req = true then (1, 0, 0) else (4, 0, 0)

theorem splitS_parts (t : List UInt8) : (splitS t).1.length ≤ 20 ∧ ∀ p ∈ (splitS t).1, p.length ≤ 1000 := by
  unfold splitS
  split
  · exact ⟨by simp, by simp⟩
  · rename_i h1
    split
    · exact ⟨by simp, by simp⟩
    · split
      · exact ⟨by simp, by simp⟩
      · rename_i h3
        refine ⟨by show (kept (pieces 44 t)).length ≤ 20; omega, fun p hp => ?_⟩
        have hp' : p ∈ kept (pieces 44 t) := hp
        unfold kept at hp'
        obtain ⟨hm, _⟩ := List.mem_filter.1 hp'
        obtain ⟨q, hq, rfl⟩ := List.mem_map.1 hm
        have h4 := trimL_len q
        have h5 := pieces_len 44 t q hq
        omega

theorem rdLn_bd (l : List UInt8) (h : (rdLn l).2 = true) : 0 ≤ (rdLn l).1 ∧ (rdLn l).1 ≤ 9999 ∧ Lib.itoa (rdLn l).1 = l ∧ l.length ≤ 4 := by
  unfold rdLn at h ⊢
  split at h
  · rename_i v hv
    simp only [Bool.and_eq_true, decide_eq_true_eq] at h
    obtain ⟨⟨h1, h2⟩, h3⟩ := h
    refine ⟨h1, ?_, h3, h2⟩
    have h4 : Lib.itoa v = Lib.decDigits v.toNat := by unfold Lib.itoa; rw [if_neg (by omega)]
    have h5 : Lib.nDigits v.toNat ≤ 4 := by rw [← Lib.decDigits_length, ← h4, h3]; exact h2
    show v ≤ 9999
    rcases Nat.lt_or_ge v.toNat 10000 with h6 | h6
    · omega
    · exfalso
      rw [Lib.nDigits, dif_neg (by omega), Lib.nDigits, dif_neg (by omega), Lib.nDigits, dif_neg (by omega), Lib.nDigits, dif_neg (by omega)] at h5
      have h7 : 1 ≤ Lib.nDigits (v.toNat / 10 / 10 / 10 / 10) := by rw [Lib.nDigits]; split <;> omega
      omega
  · cases h
  · cases h
theorem kdP_same (p : List UInt8) (r : List (List UInt8)) (h : r.all (· == p) = true) : kdP (p :: r) = if (rdLn p).2 then (if 5000 < (rdLn p).1 then (0, 0, 2) else (2, (rdLn p).1, 0)) else (0, 0, 10) := if_pos h
theorem kdP_diff (p : List UInt8) (r : List (List UInt8)) (h : r.all (· == p) = false) : kdP (p :: r) = (0, 0, 10) := if_neg (by rw [h]; simp)
end Go.Proofs.YtipfjpihciiikaaGreatDoor

/-
  The variables that package strconv reads, as the rows of this seat list them, hold what its functions ask.
-/
namespace Go.Proofs.YtipfjpihciiikaaGreatDoor
open Go.RowKit Go.Lib

theorem iface_of {H : Type} {enc : TypeId × Value → H} {P : Program} {w : World} {base : Nat} {sp : Nat → Bool} {held : Bool} {fuel : Nat} {t : TypeId} {cs : List Value} {nm : String} {d : DataW H} {p : List MemPlace} {ms : _}
    (ht : P.underlying t = some (.interface ms)) (h : DataW.trod enc P w base sp held fuel t cs = some (.iface nm d, p)) : ∃ u v, cs = [.iface u v] := by
  cases fuel with
  | zero => simp [DataW.trod] at h
  | succ fuel =>
    match cs, h with
    | [.iface u v], _ => exact ⟨u, v, rfl⟩
    | [], h => simp [DataW.trod, ht] at h
    | x :: y :: r, h => simp [DataW.trod, ht] at h
    | [x], h => cases x <;> simp [DataW.trod, ht] at h <;> exact ⟨_, _, rfl⟩

structure STabs (w : World) : Prop where
  pow : Lib.TabIs Tryz.prog w "internal/strconv.uint64pow10" .u64 Lib.pow10Tab
  syn : ∃ u v, w.cell? ⟨2, 0, none⟩ = some (.iface u v)
  rng : ∃ u v, w.cell? ⟨3, 0, none⟩ = some (.iface u v)
theorem vkeep {P : Program} {n : String} {cs : Array Value} {w w' : World} (h : w.var? P n = some cs) (hb : Below w.heap.size w w') : w'.var? P n = some cs := by
  unfold World.var? at h ⊢
  cases hg : P.globalNamed n with
  | none => rw [hg] at h; cases h
  | some g =>
    rw [hg, Option.bind_some] at h
    rw [Option.bind_some]
    by_cases hlt : g < w.heap.size
    · rw [hb.block g hlt]; exact h
    · rw [Array.getElem?_eq_none (by omega)] at h; cases h
theorem STabs.below {w w' : World} (h : STabs w) (hb : Below w.heap.size w w') : STabs w' where
  pow := vkeep h.pow hb
  syn := by obtain ⟨u, v, e⟩ := h.syn; exact ⟨u, v, cell_keep hb e⟩
  rng := by obtain ⟨u, v, e⟩ := h.rng; exact ⟨u, v, cell_keep hb e⟩
theorem err_of {w : World} {name : String} {g : Nat} {t : TypeId} {ms : _} {nm : String} {d : DataW Unit} (h : VarReads Tryz.prog w name (.iface nm d)) (hg : Tryz.prog.globalNamed name = some g)
    (hty : (Tryz.prog.globals[g]?).map (·.type) = some t) (ht : Tryz.prog.underlying t = some (.interface ms)) : ∃ u v, w.cell? ⟨g, 0, none⟩ = some (.iface u v) := by
  obtain ⟨g', t', cs, fuel, p, hg', ht', hv, hd⟩ := h
  obtain rfl := Option.some.inj (hg.symm.trans hg')
  obtain rfl := Option.some.inj (hty.symm.trans ht')
  obtain ⟨u, v, e⟩ := iface_of ht hd
  refine ⟨u, v, ?_⟩
  rw [World.var?_cell hg hv 0]
  have : cs[0]? = cs.toList[0]? := by simp
  rw [this, e]; rfl
theorem stabs_of {l : List (String × DataW Unit)} (w : World) (h : laidMet Tryz.prog l w) (h1 : ("internal/strconv.uint64pow10", Rows.laid_internal_strconv_uint64pow10) ∈ l)
    (h2 : ("strconv.ErrSyntax", Rows.laid_strconv_ErrSyntax) ∈ l) (h3 : ("strconv.ErrRange", Rows.laid_strconv_ErrRange) ∈ l) : STabs w where
  pow := by
    have r : VarReads Tryz.prog w "internal/strconv.uint64pow10" Rows.laid_internal_strconv_uint64pow10 := laidMet.reads h h1
    rw [show (Rows.laid_internal_strconv_uint64pow10 : DataW Unit) = tabData .u64 pow10Tab from by kernel_rfl] at r
    obtain ⟨g', t', cs, fuel, p, hg', ht', hv, hd⟩ := r
    obtain rfl := Option.some.inj ((show Tryz.prog.globalNamed "internal/strconv.uint64pow10" = some 1 by kernel_rfl).symm.trans hg')
    obtain rfl := Option.some.inj ((show (Tryz.prog.globals[1]?).map (·.type) = some 173 by kernel_rfl).symm.trans ht')
    unfold TabIs
    rw [hv, ← cells_of_tab Tryz.underlying173 Tryz.underlying154 (by kernel_rfl) (by kernel_rfl) hd]
  syn := err_of (laidMet.reads h h2) (by kernel_rfl) (by kernel_rfl) Tryz.underlying99
  rng := err_of (laidMet.reads h h3) (by kernel_rfl) (by kernel_rfl) Tryz.underlying99
end Go.Proofs.YtipfjpihciiikaaGreatDoor

/-
  What strings.Cut and CutLine of package token compute; a text has less than 2^32 - 15 bytes, and the package variable that the library reads holds some number.
-/
namespace Go.Proofs.YtipfjpihciiikaaGreatDoor
open Go.RowKit

theorem mk_self (s : ByteArray) (l : List UInt8) (h : s.data.toList = l) : (⟨l.toArray⟩ : ByteArray) = s := by
  apply ByteArray.ext; apply Array.ext'; exact h.symm
theorem drewN_heap (w : World) (n : Nat) : (w.drewN n).heap = w.heap := by
  induction n with
  | zero => rfl
  | succ n ih => exact ih

theorem scut_at (s p a b : ByteArray) (f : Bool) (h : Lib.cut s.data.toList p.data.toList = (a.data.toList, b.data.toList, f)) (m : Int) (w : World) (hm : w.cell? ⟨0, 0, none⟩ = some (.int .i64 m)) (hs : s.size < 4294967281) :
    Calls Tryz.prog 83 #[.string s, .string p] w fun e w' => e = .returned (.tuple #[.string a, .string b, .bool f]) ∧ ∃ n, w' = w.drewN n := by
  refine (Tryz.strings_Cut s p m w hs hm).mono ?_
  rintro e w' ⟨rfl, hn⟩
  refine ⟨?_, hn⟩
  rw [h]

set_option maxHeartbeats 1000000 in
set_option maxRecDepth 100000 in
theorem cutLine_no (s : ByteArray) (most : Nat) (hmo : most ≤ 100000) (h : Lib.index s.data.toList [13, 10] = -1) (m : Int) (w : World) (hm : w.cell? ⟨0, 0, none⟩ = some (.int .i64 m)) (hs : s.size < 4294967281) :
    Calls Tryz.prog 47 #[.string s, .int .i64 most] w fun e w' => e = .returned (.tuple #[.string ⟨#[]⟩, .string ⟨#[]⟩, .int .i64 (if most + 1 < s.data.toList.length then 2 else 8)]) ∧ ∃ n, w' = w.drewN n := by
  have HC : Hid (Lib.cut s.data.toList (⟨#[13, 10]⟩ : ByteArray).data.toList = (s.data.toList, (⟨#[]⟩ : ByteArray).data.toList, false)) := cut_no _ _ h
  have HM : Hid (w.cell? ⟨0, 0, none⟩ = some (.int .i64 m)) := hm
  clear hm h
  rw [size_list]
  by_cases hl : (s.size : Int) ≤ (most : Int) + 1
  · rw [if_neg (by omega)]
    have hd : decide ((s.size : Int) ≤ (most : Int) + 1) = true := decide_eq_true hl
    go_enter Tryz.func47, Tryz.ntmps47
    go_wp2_with fail
    refine (scut_at s _ s ⟨#[]⟩ false HC.out m _ HM.out hs).mono ?_
    rintro e w1 ⟨rfl, nd, rfl⟩
    go_wp2_with fail
    go_ret3
    exact ⟨rfl, nd, rfl⟩
  · rw [if_pos (by omega)]
    have hd : decide ((s.size : Int) ≤ (most : Int) + 1) = false := decide_eq_false hl
    go_enter Tryz.func47, Tryz.ntmps47
    go_wp2_with fail
    refine (scut_at s _ s ⟨#[]⟩ false HC.out m _ HM.out hs).mono ?_
    rintro e w1 ⟨rfl, nd, rfl⟩
    go_wp2_with fail
    go_ret3
    exact ⟨rfl, nd, rfl⟩

set_option maxHeartbeats 1000000 in
set_option maxRecDepth 100000 in
theorem cutLine_large (s : ByteArray) (most k : Nat) (h : Lib.index s.data.toList [13, 10] = k) (hk : most < k) (m : Int) (w : World) (hm : w.cell? ⟨0, 0, none⟩ = some (.int .i64 m)) (hs : s.size < 4294967281) :
    Calls Tryz.prog 47 #[.string s, .int .i64 most] w fun e w' => e = .returned (.tuple #[.string ⟨#[]⟩, .string ⟨#[]⟩, .int .i64 2]) ∧ ∃ n, w' = w.drewN n := by
  obtain ⟨a, ha⟩ : ∃ a : ByteArray, a.data.toList = s.data.toList.take k := ⟨⟨(s.data.toList.take k).toArray⟩, rfl⟩
  obtain ⟨b, hb⟩ : ∃ b : ByteArray, b.data.toList = s.data.toList.drop (k + 2) := ⟨⟨(s.data.toList.drop (k + 2)).toArray⟩, rfl⟩
  have HC : Hid (Lib.cut s.data.toList (⟨#[13, 10]⟩ : ByteArray).data.toList = (a.data.toList, b.data.toList, true)) := by
    show _ = _
    rw [ha, hb]; exact cut_yes _ _ k h
  have hr := Lib.index_room s.data.toList [13, 10] (by omega)
  have has : a.size = k := by rw [← size_list, ha, List.length_take, size_list]; simp at hr; omega
  have HM : Hid (w.cell? ⟨0, 0, none⟩ = some (.int .i64 m)) := hm
  have hd : ¬ a.size ≤ most := by omega
  clear hm h ha hb hr has
  go_enter Tryz.func47, Tryz.ntmps47
  go_wp2_with fail
  refine (scut_at s _ a b true HC.out m _ HM.out hs).mono ?_
  rintro e w1 ⟨rfl, nd, rfl⟩
  go_wp2_with fail
  go_ret3
  exact ⟨rfl, nd, rfl⟩

set_option maxHeartbeats 1000000 in
set_option maxRecDepth 100000 in
theorem cutLine_of (s a b : ByteArray) (most : Nat) (ha : a.size ≤ most) (w : World)
    (hc : ∀ W : World, W = w → Calls Tryz.prog 83 #[.string s, .string ⟨#[13, 10]⟩] W fun e w' => e = .returned (.tuple #[.string a, .string b, .bool true]) ∧ ∃ n, w' = W.drewN n) :
    Calls Tryz.prog 47 #[.string s, .int .i64 most] w fun e w' => e = .returned (.tuple #[.string a, .string b, .int .i64 0]) ∧ ∃ n, w' = w.drewN n := by
  go_enter Tryz.func47, Tryz.ntmps47
  go_wp2_with fail
  refine (hc _ rfl).mono ?_
  rintro e w1 ⟨rfl, nd, rfl⟩
  go_wp2_with fail
  go_ret3
  exact ⟨rfl, nd, rfl⟩
theorem cutLine_yes (s a b : ByteArray) (most k : Nat) (h : Lib.index s.data.toList [13, 10] = k) (hk : k ≤ most) (ha : a.data.toList = s.data.toList.take k) (hb : b.data.toList = s.data.toList.drop (k + 2)) (m : Int) (w : World) (hm : w.cell? ⟨0, 0, none⟩ = some (.int .i64 m)) (hs : s.size < 4294967281) :
    Calls Tryz.prog 47 #[.string s, .int .i64 most] w fun e w' => e = .returned (.tuple #[.string a, .string b, .int .i64 0]) ∧ ∃ n, w' = w.drewN n := by
  have has : a.size ≤ most := by rw [← size_list, ha, List.length_take]; omega
  refine cutLine_of s a b most has w fun W hW => ?_
  subst hW
  refine scut_at s _ a b true ?_ m _ hm hs
  rw [ha, hb]; exact cut_yes _ _ k h
end Go.Proofs.YtipfjpihciiikaaGreatDoor

/-
  What readLength and neverHasBody of package body compute; a text has at most 100000 bytes, and the listed variables of package strconv hold what their text lays.
-/
namespace Go.Proofs.YtipfjpihciiikaaGreatDoor
open Go.RowKit

theorem eq_bool (a b : ByteArray) (l : List UInt8) (hb : b.data.toList = l) : (a.toList == b.toList) = (a.data.toList == l) := by
  rw [ByteArray.toList_eq, ByteArray.toList_eq, hb]

set_option maxRecDepth 100000 in
theorem neverHas_any (m : ByteArray) (c : Int) (w : World) :
    Calls Tryz.prog 33 #[.string m, .int .i64 c] w fun e w' => e = .returned (.bool (never m.data.toList c)) ∧ w' = w := by
  have he : (m.toList == [72, 69, 65, 68]) = (m.data.toList == headM) := by rw [ByteArray.toList_eq]; rfl
  cases h1 : m.data.toList == headM
  · rw [h1] at he
    have HN : Hid (never m.data.toList c = (decide (c < 200) || decide (c = 204) || decide (c = 304))) := by show _ = _; unfold never; rw [h1, Bool.false_or]
    clear h1
    rcases (show c < 200 ∨ (200 ≤ c ∧ c = 204) ∨ (200 ≤ c ∧ c ≠ 204 ∧ c = 304) ∨ (200 ≤ c ∧ c ≠ 204 ∧ c ≠ 304) by omega) with h | ⟨h, h'⟩ | ⟨h, h', h''⟩ | ⟨h, h', h''⟩
    all_goals
      go_enter Tryz.func33, Tryz.ntmps33
      go_wp2
      go_ret
      refine ⟨ret_bool ?_, rfl⟩
      rw [HN.out, Bool.eq_iff_iff]
      first | (simp; done) | (simp; omega) | (simp_all; done)
  · rw [h1] at he
    have HN : Hid (never m.data.toList c = true) := by show _ = _; unfold never; rw [h1]; rfl
    clear h1
    go_enter Tryz.func33, Tryz.ntmps33
    go_wp2
    go_ret
    refine ⟨ret_bool ?_, rfl⟩
    rw [HN.out]

theorem grow_belowK (w : World) (k : Nat) (os : Array Obj) : Below w.heap.size w (Sort.grow (w.drewN k) os) := by
  have h1 := drewN_below w.heap.size w k
  refine ⟨h1.os, h1.tape, h1.output, ?_, fun j hj => ?_⟩
  · rw [Sort.size_grow]; have := h1.size; omega
  · rw [Sort.heap_grow_old _ _ (by have := h1.size; omega)]
    exact h1.block j hj
theorem itoaK_at (n : Int) (t : ByteArray) (h1 : 0 ≤ n) (h2 : n ≤ 9223372036854775807) (ht : t.data.toList = Lib.itoa n) (w : World) (hT : STabs w) :
    Calls Tryz.prog 59 #[.int .i64 n] w fun e w' => e = .returned (.string t) ∧ Below w.heap.size w w' := by
  refine (Tryz.strconv_Itoa n (by omega) (by omega) w hT.pow).mono ?_
  rintro e w' ⟨rfl, k, os, rfl⟩
  refine ⟨ret_str ?_, grow_belowK w k os⟩
  exact mk_self t _ ht

set_option maxHeartbeats 1000000 in
set_option maxRecDepth 100000 in
theorem readLn_at (s : ByteArray) (v : Int) (b : Bool) (h : rdLn s.data.toList = (v, b)) (w : World) (hs : s.size ≤ 100000) (hT : STabs w) :
    Calls Tryz.prog 71 #[.string s] w fun e w' => e = .returned (.tuple #[.int .i64 v, .bool b]) ∧ Below w.heap.size w w' := by
  have HT : Hid (STabs w) := hT
  clear hT
  unfold rdLn at h
  split at h
  · rename_i u hu
    simp only [Prod.mk.injEq] at h
    obtain ⟨rfl, hb⟩ := h
    have HU : Hid (Lib.atoiAll s.data.toList = .ok u) := hu
    rw [size_list] at hb
    rcases (show u < 0 ∨ (0 ≤ u ∧ (4 : Int) < s.size) ∨ (0 ≤ u ∧ (s.size : Int) ≤ 4) by omega) with h0 | ⟨h0, h4⟩ | ⟨h0, h4⟩
    · rw [decide_eq_false (by omega), Bool.false_and, Bool.false_and] at hb
      subst hb
      clear hu
      go_enter Tryz.func71, Tryz.ntmps71
      go_wp2_with fail
      refine (Tryz.strconv_Atoi_ok s (by omega) u HU.out _).mono ?_
      rintro e w1 ⟨rfl, hw1⟩
      have hb1 : Below w.heap.size w w1 := by
        rcases hw1 with rfl | ⟨t, rfl⟩
        · exact Below.refl _ _
        · exact Lib.bytesWorld_below _ _ _
      clear hw1
      go_wp2_with fail
      go_ret2
      exact ⟨rfl, hb1⟩
    · rw [decide_eq_true h0, decide_eq_false (by omega), Bool.and_false, Bool.false_and] at hb
      subst hb
      clear hu
      go_enter Tryz.func71, Tryz.ntmps71
      go_wp2_with fail
      refine (Tryz.strconv_Atoi_ok s (by omega) u HU.out _).mono ?_
      rintro e w1 ⟨rfl, hw1⟩
      have hb1 : Below w.heap.size w w1 := by
        rcases hw1 with rfl | ⟨t, rfl⟩
        · exact Below.refl _ _
        · exact Lib.bytesWorld_below _ _ _
      clear hw1
      go_wp2_with fail
      go_ret2
      exact ⟨rfl, hb1⟩
    · rw [decide_eq_true h0, decide_eq_true (by omega), Bool.true_and, Bool.true_and] at hb
      obtain ⟨t, ht⟩ : ∃ t : ByteArray, t.data.toList = Lib.itoa u := ⟨⟨(Lib.itoa u).toArray⟩, rfl⟩
      have HD : Hid (t.data.toList = Lib.itoa u) := ht
      have heq : (t.toList == s.toList) = b := by
        rw [← hb, ← ht, ByteArray.toList_eq, ByteArray.toList_eq, Bool.eq_iff_iff]; simp
      have hbd := (Lib.atoiAll_bounds hu).2
      clear hu hb ht
      go_enter Tryz.func71, Tryz.ntmps71
      go_wp2_with fail
      refine (Tryz.strconv_Atoi_ok s (by omega) u HU.out _).mono ?_
      rintro e w1 ⟨rfl, hw1⟩
      have hb1 : Below w.heap.size w w1 := by
        rcases hw1 with rfl | ⟨t, rfl⟩
        · exact Below.refl _ _
        · exact Lib.bytesWorld_below _ _ _
      clear hw1
      go_wp2_with fail
      refine (itoaK_at u t h0 hbd HD.out _ (HT.out.below hb1)).mono ?_
      rintro e w2 ⟨rfl, hb2⟩
      have hb3 := hb1.trans (hb2.mono hb1.size)
      clear hb1 hb2
      go_wp2_with fail
      go_ret2
      exact ⟨rfl, hb3⟩
  · rename_i hu
    simp only [Prod.mk.injEq] at h
    obtain ⟨rfl, rfl⟩ := h
    have HU : Hid (Lib.atoiAll s.data.toList = .«syntax») := hu
    obtain ⟨te, pe, hev⟩ := HT.out.syn
    have HV : Hid (w.cell? ⟨2, 0, none⟩ = some (.iface te pe)) := hev
    clear hu hev
    go_enter Tryz.func71, Tryz.ntmps71
    go_wp2_with fail
    refine (Tryz.strconv_Atoi_syntax s (by omega) HU.out _ _ HV.out (.inr ⟨_, _, rfl⟩)).mono ?_
    rintro e w1 ⟨N, rfl, _, _, hb⟩
    go_wp2_with fail
    go_ret2
    exact ⟨rfl, hb⟩
  · rename_i hu
    simp only [Prod.mk.injEq] at h
    obtain ⟨rfl, rfl⟩ := h
    have HU : Hid (Lib.atoiAll s.data.toList = .range) := hu
    obtain ⟨te, pe, hev⟩ := HT.out.rng
    have HV : Hid (w.cell? ⟨3, 0, none⟩ = some (.iface te pe)) := hev
    clear hu hev
    go_enter Tryz.func71, Tryz.ntmps71
    go_wp2_with fail
    refine (Tryz.strconv_Atoi_range s (by omega) HU.out _ _ HV.out (.inr ⟨_, _, rfl⟩)).mono ?_
    rintro e w1 ⟨N, rfl, _, _, hb⟩
    go_wp2_with fail
    go_ret2
    exact ⟨rfl, hb⟩
end Go.Proofs.YtipfjpihciiikaaGreatDoor

/-
  What kindByLength of package body computes; the listed variables of package strconv hold what their text lays.
-/
namespace Go.Proofs.YtipfjpihciiikaaGreatDoor
open Go.RowKit

theorem all_take (p : List UInt8) (P : List (List UInt8)) (k : Nat) (h : k < P.length) (h1 : (P.take k).all (· == p) = true) (h2 : P[k] = p) : (P.take (k + 1)).all (· == p) = true := by
  rw [List.take_succ_eq_append_getElem h, List.all_append, h1, h2]; simp
theorem all_miss (p : List UInt8) (P : List (List UInt8)) (k : Nat) (h : k < P.length) (h2 : P[k] ≠ p) : P.all (· == p) = false := by
  rw [Bool.eq_false_iff]
  intro ha
  rw [List.all_eq_true] at ha
  have := ha P[k] (List.getElem_mem h)
  exact h2 (by simpa using this)
theorem ret_3i {a b c x y z : Int} (h : ((a, b, c) : Int × Int × Int) = (x, y, z)) : Ending.returned (.tuple #[.int .i64 a, .int .i64 b, .int .i64 c]) = .returned (.tuple #[.int .i64 x, .int .i64 y, .int .i64 z]) := by
  simp only [Prod.mk.injEq] at h
  obtain ⟨rfl, rfl, rfl⟩ := h; rfl

set_option maxHeartbeats 2000000 in
set_option maxRecDepth 100000 in
theorem kindL_at (s : ByteArray) (x y z : Int) (h : kdL s.data.toList = (x, y, z)) (w : World) (hT : STabs w) :
    Calls Tryz.prog 36 #[.string s] w fun e w' => e = .returned (.tuple #[.int .i64 x, .int .i64 y, .int .i64 z]) ∧ Below w.heap.size w w' := by
  have HT : Hid (STabs w) := hT
  have HH : Hid (kdL s.data.toList = (x, y, z)) := h
  clear hT h
  go_enter Tryz.func36, Tryz.ntmps36
  go_wp2_with fail
  refine (split_any s _).mono ?_
  rintro e w1 ⟨v, rfl, hown, hb⟩
  have hsz := hb.size
  by_cases h0 : (splitS s.data.toList).2 = 0
  · have HK : Hid (kdP (splitS s.data.toList).1 = (x, y, z)) := by show _ = _; rw [← HH.out]; unfold kdL; rw [if_pos h0]
    have hsp := splitS_parts s.data.toList
    rw [h0]
    generalize (splitS s.data.toList).1 = P at hown hsp HK
    clear h0 HH
    obtain ⟨ad, cap, hv, hcm, hnc, hc⟩ := own_slice hown
    subst hv
    unfold maxLen at hcm
    match P, hown, hsp, HK, hnc, hc with
    | [], hown, hsp, HK, hnc, hc =>
      go_wp2_with fail
      go_ret3
      exact ⟨ret_3i HK.out, hb⟩
    | p :: r, hown, hsp, HK, hnc, hc =>
      obtain ⟨g, rfl, hgB, hgs, hce⟩ := hc (by simp)
      obtain ⟨N, hN⟩ : ∃ N, N = (p :: r).length := ⟨_, rfl⟩
      have hN0 : 0 < N := by rw [hN]; simp
      have hN20 : N ≤ 20 := by rw [hN]; exact hsp.1
      have hNi : (0 : Int) < N := by omega
      obtain ⟨q, hq⟩ : ∃ q : ByteArray, q = ⟨p.toArray⟩ := ⟨_, rfl⟩
      have HQ : Hid (q.data.toList = p) := by show _ = _; rw [hq]
      have hqs : q.size ≤ 1000 := by rw [← size_list, HQ.out]; exact hsp.2 p (by simp)
      have c0 : w1.cell? ⟨g, 0, none⟩ = some (.string q) := by rw [hce 0 (by simp), hq]; exact strs_get (p :: r) 0 (by simp)
      have HC : Hid (∀ (j : Nat) (h : j < (p :: r).length), w1.cell? ⟨g, j, none⟩ = some (.string ⟨((p :: r)[j]).toArray⟩)) := by
        intro j hj
        rw [hce j hj]; exact strs_get (p :: r) j hj
      have HN : Hid (N = (p :: r).length) := hN
      rw [← hN] at hnc
      simp only [← hN]
      clear hce hc hown hsp hq hN
      go_wp2_with fail
      go_loopw [25] (fun i wr => ∃ k : Nat, k ≤ N ∧ i = .int .i64 k ∧ ((p :: r).take k).all (· == p) = true ∧ wr = w1) (fun i _ => N - (intOf i).toNat)
      case atStart => exact ⟨0, Nat.zero_le _, rfl, rfl, rfl⟩
      case round =>
        obtain ⟨k, hk, rfl, hall, rfl⟩ := hrel
        have HA : Hid (((p :: r).take k).all (· == p) = true) := hall
        clear hall
        by_cases hlt : k < N
        · have hkl : k < (p :: r).length := by rw [← HN.out]; exact hlt
          have hcell := HC.out k hkl
          obtain ⟨u, hu⟩ : ∃ u : ByteArray, u = ⟨((p :: r)[k]).toArray⟩ := ⟨_, rfl⟩
          rw [← hu] at hcell
          have hki : (k : Int) < (N : Int) := by omega
          have hk0 : (0 : Int) ≤ (k : Int) := by omega
          cases hq : u.toList == q.toList
          · have HM : Hid ((p :: r).all (· == p) = false) := by
              refine all_miss p (p :: r) k hkl ?_
              intro e
              rw [ByteArray.toList_eq, ByteArray.toList_eq, HQ.out, hu, e] at hq
              simp at hq
            clear hu
            go_wp2_with fail
            go_ret3
            refine ⟨ret_3i ?_, hb⟩
            rw [← HK.out, kdP_diff]
            have := HM.out
            simpa using this
          · have HM : Hid (((p :: r).take (k + 1)).all (· == p) = true) := by
              refine all_take p (p :: r) k hkl HA.out ?_
              rw [ByteArray.toList_eq, ByteArray.toList_eq, HQ.out, hu] at hq
              simpa using hq
            clear hu
            go_wp2_with fail
            go_roundw
            case rel => exact ⟨k + 1, by omega, by go_num, HM.out, by first | rfl | trivial⟩
            case measure => simp [intOf]; omega
        · have hkN : k = N := by omega
          subst hkN
          have HS : Hid (r.all (· == p) = true) := by
            show r.all (· == p) = true
            have := HA.out
            rw [HN.out, List.take_length] at this
            simpa using this
          have HV : Hid (rdLn q.data.toList = ((rdLn p).1, (rdLn p).2)) := by show _ = _; rw [HQ.out]
          go_wp2_with fail
          refine (readLn_at q _ _ HV.out _ (by omega) (HT.out.below hb)).mono ?_
          rintro e w2 ⟨rfl, hb2⟩
          have hb3 := hb.trans (hb2.mono hb.size)
          have HKK : Hid ((if (rdLn p).2 then (if 5000 < (rdLn p).1 then (0, 0, 2) else (2, (rdLn p).1, 0)) else (0, 0, 10)) = ((x, y, z) : Int × Int × Int)) := by
            show _ = _; rw [← HK.out, kdP_same p r HS.out]
          generalize rdLn p = R at HKK
          obtain ⟨R1, R2⟩ := R
          clear hb hb2
          cases R2
          · go_wp2_with fail
            go_ret3
            exact ⟨ret_3i HKK.out, hb3⟩
          · by_cases h5 : 5000 < R1
            · have HX : Hid (((0, 0, 2) : Int × Int × Int) = (x, y, z)) := by
                have := HKK.out
                simp only [if_true] at this
                rw [if_pos h5] at this; exact this
              go_wp2_with fail
              go_ret3
              exact ⟨ret_3i HX.out, hb3⟩
            · have HX : Hid (((2, R1, 0) : Int × Int × Int) = (x, y, z)) := by
                have := HKK.out
                simp only [if_true] at this
                rw [if_neg h5] at this; exact this
              go_wp2_with fail
              go_ret3
              exact ⟨ret_3i HX.out, hb3⟩
  · have HK : Hid (((0, 0, 10) : Int × Int × Int) = (x, y, z)) := by show _ = _; rw [← HH.out]; unfold kdL; rw [if_neg h0]
    generalize (splitS s.data.toList).2 = c2 at h0
    clear hown HH
    go_wp2_with fail
    go_ret3
    exact ⟨ret_3i HK.out, hb⟩
end Go.Proofs.YtipfjpihciiikaaGreatDoor

/-
  What Lower of package token computes: the letters A to Z as a to z; the string fits in the memory that Go's limits allow.
-/
namespace Go.Proofs.YtipfjpihciiikaaGreatDoor
open Go.RowKit

theorem low_yes (c : UInt8) (h : 65 ≤ (c.toNat : Int)) (h' : (c.toNat : Int) ≤ 90) : ((low c).toNat : Int) = (c.toNat : Int) + 32 := by
  have e : (65 ≤ c && c ≤ 90) = true := by simp [UInt8.le_iff_toNat_le]; omega
  unfold low
  rw [if_pos e, UInt8.toNat_add]
  have : (32 : UInt8).toNat = 32 := rfl
  omega
theorem low_no (c : UInt8) (h : (c.toNat : Int) < 65 ∨ 90 < (c.toNat : Int)) : low c = c := by
  have e : (65 ≤ c && c ≤ 90) = false := by rw [Bool.eq_false_iff]; simp [UInt8.le_iff_toNat_le]; omega
  unfold low
  rw [e]; rfl

theorem lower_snoc (l : List UInt8) (c : UInt8) : lower (l ++ [c]) = lower l ++ [low c] := by simp [lower]

theorem cells_snoc (l : List UInt8) (c : UInt8) (n : Int) (h : n = ((low c).toNat : Int)) : Lib.byteCells (lower l) ++ [Value.int .u8 n] = Lib.byteCells (lower (l ++ [c])) := by
  rw [lower_snoc, Lib.byteCells_append, h]; rfl

set_option maxHeartbeats 1000000 in
set_option maxRecDepth 100000 in
theorem lower_any (s : ByteArray) (w : World) (hs : s.size ≤ 140737488351232) :
    Calls Tryz.prog 35 #[.string s] w fun e w' => e = .returned (.string ⟨(lower s.data.toList).toArray⟩) ∧ Below w.heap.size w w' := by
  go_enter Tryz.func35, Tryz.ntmps35
  go_wp2_with fail
  refine (Tryz.Builder_Grow_fresh w.heap.size w.heap.size s.size _ (Nat.le_refl _) ?hbk ?hBw (by omega)).mono ?_
  case hbk => exact heap_alloc_new _ _
  case hBw => simp
  rintro e w1 ⟨rfl, hb1, hw1⟩
  have hw1' : Below w.heap.size w w1 := ((Below.refl _ w).alloc (Nat.le_refl _) _).trans hw1
  clear hw1
  go_wp2_with fail
  go_loopw [11] (fun i wr => ∃ k : Nat, k ≤ s.size ∧ i = .int .i64 k ∧ Lib.BuilderAt 96 5 w.heap.size w.heap.size (.pointer (some ⟨w.heap.size, 0, none⟩)) (Lib.byteCells (lower (s.data.toList.take k))) wr ∧ Below w.heap.size w wr) (fun i _ => s.size - (intOf i).toNat)
  case atStart => exact ⟨0, Nat.zero_le _, rfl, hb1, hw1'⟩
  case round =>
    obtain ⟨k, hk, rfl, hb, hw⟩ := hrel
    clear hb1 hw1'
    by_cases hlt : k < s.size
    · have hlen : (Lib.byteCells (lower (s.data.toList.take k))).length + 1 ≤ 140737488355328 := by
        rw [Lib.byteCells_length]; simp [lower]; omega
      have hc1 : (s[k].toNat : Int) < 256 := by have := s[k].toNat_lt; omega
      have hsz := hw.size
      rcases (show (s[k].toNat : Int) < 65 ∨ (65 ≤ (s[k].toNat : Int) ∧ (s[k].toNat : Int) ≤ 90) ∨ 91 ≤ (s[k].toNat : Int) from by omega) with h | ⟨h, h'⟩ | h
      · go_wp2_with fail
        refine (Tryz.Builder_WriteByte w.heap.size w.heap.size _ _ _ (.inr hb) hlen hsz).mono ?_
        rintro e w2 ⟨rfl, hb2, hw2⟩
        go_wp2_with fail
        go_roundw
        case rel => exact ⟨k + 1, by omega, by go_num, by rw [take_snoc s k hlt, ← cells_snoc _ _ _ (by rw [low_no _ (by omega)])]; exact hb2, hw.trans hw2⟩
        case measure => simp [intOf]; omega
      · go_wp2_with fail
        refine (Tryz.Builder_WriteByte w.heap.size w.heap.size _ _ _ (.inr hb) hlen hsz).mono ?_
        rintro e w2 ⟨rfl, hb2, hw2⟩
        go_wp2_with fail
        go_roundw
        case rel => exact ⟨k + 1, by omega, by go_num, by rw [take_snoc s k hlt, ← cells_snoc _ _ _ ((low_yes _ h h').symm)]; exact hb2, hw.trans hw2⟩
        case measure => simp [intOf]; omega
      · go_wp2_with fail
        refine (Tryz.Builder_WriteByte w.heap.size w.heap.size _ _ _ (.inr hb) hlen hsz).mono ?_
        rintro e w2 ⟨rfl, hb2, hw2⟩
        go_wp2_with fail
        go_roundw
        case rel => exact ⟨k + 1, by omega, by go_num, by rw [take_snoc s k hlt, ← cells_snoc _ _ _ (by rw [low_no _ (by omega)])]; exact hb2, hw.trans hw2⟩
        case measure => simp [intOf]; omega
    · obtain rfl : k = s.size := by omega
      have hsz := hw.size
      go_wp2_with fail
      refine (Tryz.Builder_String_any w.heap.size w.heap.size _ _ (.inr hb) hsz).mono ?_
      rintro e w2 ⟨rfl, hw2⟩
      go_wp2_with fail
      go_ret
      exact ⟨by rw [take_all]; rfl, hw.trans hw2⟩
end Go.Proofs.YtipfjpihciiikaaGreatDoor

/-
  What named of package field hands back: a function of a field; what it answers in whatever later world. A name is no longer than Go allows.
-/
namespace Go.Proofs.YtipfjpihciiikaaGreatDoor
open Go.RowKit

/-- A function value that answers p of each field, in whatever later world, and turns nothing. -/
def Pred (w : World) (f : Value) (p : Fld → Bool) : Prop :=
  ∃ (g : Nat) (lb : Array Value), f = .func (.func g) #[] lb ∧ (∀ args w, (callFunc g args).run Tryz.prog w = .ok (.enter g args) w) ∧
    ∀ (W : World) (n u : ByteArray), Below w.heap.size w W → n.size ≤ 140737488351232 → Calls Tryz.prog g (#[.agg #[.string n, .string u]] ++ lb) W fun e w' => e = .returned (.bool (p (n.data.toList, u.data.toList))) ∧ Below W.heap.size W w'
theorem Pred.later {w w' : World} {f : Value} {p : Fld → Bool} (h : Pred w f p) (hb : Below w.heap.size w w') : Pred w' f p := by
  obtain ⟨g, lb, hf, eg, hc⟩ := h
  exact ⟨g, lb, hf, eg, fun W n u hW hn => hc W n u (hb.trans (hW.mono hb.size)) hn⟩

theorem lower_at (s t : ByteArray) (h : t.data.toList = lower s.data.toList) (w : World) (hs : s.size ≤ 140737488351232) :
    Calls Tryz.prog 35 #[.string s] w fun e w' => e = .returned (.string t) ∧ Below w.heap.size w w' := by
  refine (lower_any s w hs).mono ?_
  rintro e w' ⟨rfl, hb⟩
  refine ⟨ret_str ?_, hb⟩
  apply ByteArray.ext; apply Array.ext'; exact h.symm

set_option maxHeartbeats 1000000 in
set_option maxRecDepth 100000 in
theorem named1_any (n u low : ByteArray) (B : Nat) (w : World) (hc : w.cell? ⟨B, 0, none⟩ = some (.string low)) (hn : n.size ≤ 140737488351232) :
    Calls Tryz.prog 99 #[.agg #[.string n, .string u], .pointer (some ⟨B, 0, none⟩)] w fun e w' => e = .returned (.bool (lower n.data.toList == low.data.toList)) ∧ Below w.heap.size w w' := by
  obtain ⟨t, ht⟩ : ∃ t : ByteArray, t.data.toList = lower n.data.toList := ⟨⟨(lower n.data.toList).toArray⟩, rfl⟩
  have HT : Hid (t.data.toList = lower n.data.toList) := ht
  have HQ : Hid ((lower n.data.toList == low.data.toList) = (t.toList == low.toList)) := by show _ = _; rw [ByteArray.toList_eq, ByteArray.toList_eq, ht]
  have hBs : B < w.heap.size := cell_in hc
  have hcl := hc
  clear ht
  go_enter Tryz.func99, Tryz.ntmps99
  go_wp2_with fail
  go_region_held3 (fun w' => w'.cell? ⟨w.heap.size, 0, none⟩ = some (.string n) ∧ w'.cell? ⟨B, 0, none⟩ = some (.string low)) (go_keep) (first | (go_at_call 35; refine (lower_at n t HT.out _ hn).mono ?_; rintro e w3 ⟨rfl, hb⟩; have hk1 : w3.cell? ⟨w.heap.size, 0, none⟩ = some (.string n) := (hb.cell (p := ⟨w.heap.size, 0, none⟩) (by simp)).trans (by simp); have hk2 : w3.cell? ⟨B, 0, none⟩ = some (.string low) := (hb.cell (p := ⟨B, 0, none⟩) (by simp; omega)).trans ((World.cell?_alloc_lt _ _ _ hBs).trans hcl)))
  all_goals
    go_wp2_with fail
    go_ret
    exact ⟨ret_bool HQ.out.symm, ((Below.refl _ w).alloc (Nat.le_refl _) _).drew.trans (hb.mono (by simp))⟩

set_option maxHeartbeats 1000000 in
set_option maxRecDepth 100000 in
theorem named_any (s : ByteArray) (w : World) (hs : s.size ≤ 140737488351232) :
    Calls Tryz.prog 65 #[.string s] w fun e w' => ∃ f, e = .returned f ∧ Pred w' f (fun x => lower x.1 == lower s.data.toList) ∧ Below w.heap.size w w' := by
  have hmf : ∀ (fn : Fn) (first cap : Array Value) (w : World), (Instr.makeFunc fn first cap).run Tryz.prog w = .ok (.func fn first cap) w := fun _ _ _ _ => rfl
  obtain ⟨t, ht⟩ : ∃ t : ByteArray, t.data.toList = lower s.data.toList := ⟨⟨(lower s.data.toList).toArray⟩, rfl⟩
  have HT : Hid (t.data.toList = lower s.data.toList) := ht
  clear ht
  go_enter Tryz.func65, Tryz.ntmps65
  go_wp2_with fail
  refine (lower_at s t HT.out _ hs).mono ?_
  rintro e w1 ⟨rfl, hb⟩
  have hsz := hb.size
  go_wp2_with fail
  go_ret
  refine ⟨_, rfl, ⟨99, _, rfl, enters_of Tryz.func99 (by kernel_rfl) rfl, fun W n u hW hn => ?_⟩, hb.alloc hsz _⟩
  rw [← HT.out]
  refine named1_any n u t w1.heap.size W ?_ hn
  exact (hW.cell (p := ⟨w1.heap.size, 0, none⟩) (by simp)).trans (by simp)
end Go.Proofs.YtipfjpihciiikaaGreatDoor

/-
  What strings.Clone computes; a string is no longer than Go allows.
-/
namespace Go.Proofs.YtipfjpihciiikaaGreatDoor
open Go.RowKit

set_option maxRecDepth 100000 in
theorem clone_big (s : ByteArray) (w : World) (hs : s.size ≤ 281474976710656) :
    Calls Tryz.prog 49 #[.string s] w fun e w' => e = .returned (.string s) ∧ Below w.heap.size w w' := by
  go_enter Tryz.func49, Tryz.ntmps49
  go_wp2_with fail
  refine (Tryz.stringslite_Clone s _ (by omega)).mono ?_
  rintro e w1 ⟨rfl, hb⟩
  go_wp2_with fail
  go_ret
  exact ⟨rfl, hb⟩
end Go.Proofs.YtipfjpihciiikaaGreatDoor
