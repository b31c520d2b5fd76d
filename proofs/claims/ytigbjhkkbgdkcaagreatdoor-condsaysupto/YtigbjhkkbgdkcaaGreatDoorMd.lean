/-
  What Parse of package date computes, a contract over the program's text; the tables that it reads hold what the program's text lays there.
-/
import Derived.Test.YtigbjhkkbgdkcaaGreatDoorMc
import Derived.Deep.SlicePairs
import Derived.SizedLaws
import Derived.Test.YtigbjhkkbgdkcaaGreatDoorRows
namespace Go.Proofs.YtigbjhkkbgdkcaaGreatDoor
open Go.RowKit

theorem ret_ie2 {a b c d : Int} (h : a = b) (h' : c = d) : Ending.returned (.tuple #[.int .i64 a, .int .i64 c]) = .returned (.tuple #[.int .i64 b, .int .i64 d]) := by rw [h, h']

theorem list_ne {a b : ByteArray} (h : (a.toList == b.toList) = false) : a.data.toList ≠ b.data.toList := by
  rw [ByteArray.toList_eq, ByteArray.toList_eq, beq_eq_false_iff_ne] at h; exact h

theorem dt_same {a b : List UInt8} {n : Int} (h : IsDT a n) (h' : IsDT b n) : a = b := by
  obtain ⟨_, _, y, m, d, hv, hn, rfl⟩ := h
  obtain ⟨_, _, z, k, c, hv', hn', rfl⟩ := h'
  exact dt_text hv hn hv' hn'

set_option maxHeartbeats 1000000 in
set_option maxRecDepth 100000 in
theorem dparse_any (s : ByteArray) (w : World) (ht : DTabs w) :
    Calls Tryz.prog 58 #[.string s] w fun e w' => ∃ n c : Int, e = .returned (.tuple #[.int .i64 n, .int .i64 c]) ∧ PR s.data.toList n c ∧ Below w.heap.size w w' := by
  by_cases hs : s.size = 29
  · cases hv : vldB (gY s.data.toList) (gM s.data.toList) (gD s.data.toList)
    · have HP : Hid (PR s.data.toList 0 3) := .inr ⟨rfl, rfl, fun k h => by have := (dt_gss h).1; rw [hv] at this; cases this⟩
      have c := guess_no s w hs ht hv
      clear hv ht
      go_enter Tryz.func58, Tryz.ntmps58
      go_wp2_with fail
      refine c.mono ?_
      rintro e w1 ⟨rfl, k, rfl⟩
      go_wp2_with fail
      go_ret2
      exact ⟨0, 3, rfl, HP.out, drewN_belowD _ _ _⟩
    · have c := guess_yes s w hs ht hv
      have HT : Hid (DTabs w) := ht
      have HG : Hid (∀ k, IsDT s.data.toList k → gss s.data.toList = k) := fun k h => (dt_gss h).2
      obtain ⟨n, hn⟩ : ∃ n, n = gss s.data.toList := ⟨_, rfl⟩
      rw [← hn] at c
      have HN : Hid (n = gss s.data.toList) := hn
      clear hv ht hn
      by_cases h : n < 0 ∨ 253402300799 < n
      · have H : Hid (n < 0 ∨ 253402300799 < n) := h
        have HP : Hid (PR s.data.toList 0 3) := .inr ⟨rfl, rfl, fun k hk => by have := HG.out k hk; rw [← HN.out] at this; obtain ⟨a, b, _⟩ := hk; omega⟩
        clear h
        go_enter Tryz.func58, Tryz.ntmps58
        go_wp2_with fail
        refine c.mono ?_
        rintro e w1 ⟨rfl, k, rfl⟩
        go_wp2_with fail
        refine (dprint_no _ _ H.out).mono ?_
        rintro e w1 ⟨rfl, rfl⟩
        go_wp2_with fail
        go_ret2
        exact ⟨0, 3, rfl, HP.out, drewN_belowD _ _ _⟩
      · have h1 : 0 ≤ n := by omega
        have h2 : n ≤ 253402300799 := by omega
        clear h
        go_enter Tryz.func58, Tryz.ntmps58
        go_wp2_with fail
        refine c.mono ?_
        rintro e w1 ⟨rfl, k, rfl⟩
        have HB : Hid (Below w.heap.size w (w.drewN k)) := drewN_belowD _ _ _
        go_wp2_with fail
        refine (dprint_yes _ _ h1 h2 (HT.out.below HB.out)).mono ?_
        rintro e w2 ⟨y, m, d, rfl, hv, hn, hb⟩
        have HB2 : Hid (Below w.heap.size w w2) := HB.out.trans (hb.mono HB.out.size)
        obtain ⟨a, ha⟩ : ∃ a : ByteArray, a = ⟨(dtext n y m d).toArray⟩ := ⟨_, rfl⟩
        rw [← ha]
        have HD : Hid (IsDT a.data.toList n) := ⟨h1, h2, y, m, d, hv, hn, by rw [ha]⟩
        clear hv hn hb ha HB c
        cases hq : (a.toList == s.toList)
        · have HP : Hid (PR s.data.toList 0 3) := .inr ⟨rfl, rfl, fun k hk => by
            have e := HG.out k hk
            rw [← HN.out] at e
            subst e
            exact list_ne hq (dt_same HD.out hk)⟩
          go_wp2_with fail
          go_ret2
          exact ⟨0, 3, rfl, HP.out, HB2.out⟩
        · have HP : Hid (PR s.data.toList n 0) := .inl ⟨rfl, by
            have h := HD.out
            rw [ByteArray.toList_eq, ByteArray.toList_eq, beq_iff_eq] at hq
            rw [hq] at h; exact h⟩
          go_wp2_with fail
          go_ret2
          exact ⟨n, 0, rfl, HP.out, HB2.out⟩
  · have HP : Hid (PR s.data.toList 0 3) := .inr ⟨rfl, rfl, fun k h => by have := dt_len h; rw [size_list] at this; exact hs this⟩
    have c := guess_short s w hs
    clear hs ht
    go_enter Tryz.func58, Tryz.ntmps58
    go_wp2_with fail
    refine c.mono ?_
    rintro e w1 ⟨rfl, rfl⟩
    go_wp2_with fail
    go_ret2
    exact ⟨0, 3, rfl, HP.out, Below.refl _ _⟩
end Go.Proofs.YtigbjhkkbgdkcaaGreatDoor

/-
  What Of of package date says: the second that the field of that name tells.
-/
namespace Go.Proofs.YtigbjhkkbgdkcaaGreatDoor
open Go.RowKit

set_option maxRecDepth 100000 in
theorem dof_at (v : Value) (ls : List Fld) (s : ByteArray) (n c : Int) (h : PR (jn (vals ls s.data.toList)) n c) (w : World) (hf : Fl w v ls) (hW : Wide ls) (hs : s.size ≤ 140737488351232) (hj : (jn (vals ls s.data.toList)).length ≤ 140737488355328) (hT : DTabs w) :
    Calls Tryz.prog 34 #[v, .string s] w fun e w' => e = .returned (.tuple #[.int .i64 n, .bool (c == 0)]) ∧ Below w.heap.size w w' := by
  obtain ⟨t, ht⟩ : ∃ t : ByteArray, t.data.toList = jn (vals ls s.data.toList) := ⟨⟨(jn (vals ls s.data.toList)).toArray⟩, rfl⟩
  have HT : Hid (t.data.toList = jn (vals ls s.data.toList)) := ht
  have hts : t.size ≤ 140737488355328 := by rw [← size_list, ht]; exact hj
  have HF : Hid (Fl w v ls) := hf
  have HW : Hid (Wide ls) := hW
  have HC : Hid (DTabs w) := hT
  have HP : Hid (PR t.data.toList n c) := by rw [← ht] at h; exact h
  clear hf hT h ht hj hW
  go_enter Tryz.func34, Tryz.ntmps34
  go_wp2_with fail
  refine (get_at v ls s t _ HT.out rfl _ HF.out HW.out hs hts).mono ?_
  rintro e w1 ⟨rfl, hb1⟩
  go_wp2_with fail
  refine (dparse_any t _ (HC.out.below hb1)).mono ?_
  rintro e w2 ⟨n', c', rfl, hp, hb2⟩
  obtain ⟨rfl, rfl⟩ := PR_one hp HP.out
  have hw2 := hb1.trans (hb2.mono hb1.size)
  clear hp
  go_wp2_with fail
  go_ret2
  exact ⟨rfl, hw2⟩
end Go.Proofs.YtigbjhkkbgdkcaaGreatDoor

/-
  What Eval of package cond computes; lists and texts are no longer than Go allows, and the listed variables hold what their text lays.
-/
namespace Go.Proofs.YtigbjhkkbgdkcaaGreatDoor
open Go.RowKit

theorem five_all {w : World} {g : Nat} {t : TypeId} {a b c d e : Value} (h : w.heap[g]? = some (.cells #[a, b, c, d, e] t (0, 0))) :
    w.cell? ⟨g, 0, none⟩ = some a ∧ w.cell? ⟨g, 1, none⟩ = some b ∧ w.cell? ⟨g, 2, none⟩ = some c ∧ w.cell? ⟨g, 3, none⟩ = some d ∧ w.cell? ⟨g, 4, none⟩ = some e ∧
    w.frozen? ⟨g, 0, none⟩ = false ∧ w.frozen? ⟨g, 1, none⟩ = false ∧ w.frozen? ⟨g, 2, none⟩ = false ∧ w.frozen? ⟨g, 3, none⟩ = false ∧ w.frozen? ⟨g, 4, none⟩ = false ∧ g < w.heap.size := by
  refine ⟨?_, ?_, ?_, ?_, ?_, Lib.frozen_of_heap h 0, Lib.frozen_of_heap h 1, Lib.frozen_of_heap h 2, Lib.frozen_of_heap h 3, Lib.frozen_of_heap h 4, (Array.getElem?_eq_some_iff.1 h).1⟩ <;> rw [Lib.cell_of_heap h] <;> rfl
def CoT (w : World) : Prop := DTabs w ∧ ∃ m, w.cell? ⟨2, 0, none⟩ = some (.int .i64 m)
theorem CoT.below {w w' : World} (h : CoT w) (hb : Below w.heap.size w w') : CoT w' := by
  obtain ⟨h1, m, h2⟩ := h
  exact ⟨h1.below hb, m, cell_keep hb h2⟩
/-- What a list of fields is at most, so that what it asks can be gathered. -/
def EvSz (ls : List Fld) : Prop := Wide ls ∧ ∀ s, s = sIM ∨ s = sIUS ∨ s = sINM ∨ s = sIMS → (jn (vals ls s)).length ≤ 140737488351232
theorem wide_bulk4 (ls : List Fld) (h : bulkF ls ≤ 4194304) : Wide ls := by
  refine ⟨fun x hx => ?_, ?_⟩
  · have := bulk_most ls x hx; omega
  · have := bulk_len ls; omega
theorem evsz_bulk {ls : List Fld} (h : bulkF ls ≤ 4194304) : EvSz ls := ⟨wide_bulk4 ls h, fun s _ => by have := jn_bulk ls s; omega⟩

set_option maxRecDepth 100000 in
theorem reads_any (m : ByteArray) (w : World) : Calls Tryz.prog 19 #[.string m] w fun e w' => e = .returned (.bool (rdsB m.data.toList)) ∧ Below w.heap.size w w' := by
  have hb : rdsB m.data.toList = ((m.toList == [71, 69, 84]) || (m.toList == [72, 69, 65, 68])) := by unfold rdsB; rw [ByteArray.toList_eq]
  have HB : Hid (rdsB m.data.toList = ((m.toList == [71, 69, 84]) || (m.toList == [72, 69, 65, 68]))) := hb
  clear hb
  cases h1 : (m.toList == [71, 69, 84]) <;> cases h2 : (m.toList == [72, 69, 65, 68])
  all_goals
    rw [h1, h2] at HB
    go_enter Tryz.func19, Tryz.ntmps19
    go_wp2_with fail
    go_ret
    exact ⟨ret_bool HB.out.symm, Below.refl _ _⟩
set_option maxRecDepth 100000 in
theorem dated_at (there tg k : Bool) (x : ByteArray) (mo : Int) (d : Bool) (hd : (there && decide (0 ≤ mo)) = d) (w : World) :
    Calls Tryz.prog 35 #[.agg #[.bool there, .bool tg, .bool k, .string x, .int .i64 mo]] w fun e w' => e = .returned (.bool d) ∧ Below w.heap.size w w' := by
  subst hd
  have hw0 := below_alloc w (.cells #[.bool there, .bool tg, .bool k, .string x, .int .i64 mo] 40)
  cases there
  · go_enter Tryz.func35, Tryz.ntmps35
    go_wp2_with fail
    go_ret
    exact ⟨rfl, hw0⟩
  · by_cases h : 0 ≤ mo
    all_goals
      have HD : Hid (decide (0 ≤ mo) = _) := show decide (0 ≤ mo) = _ by first | exact decide_eq_true h | exact decide_eq_false h
      go_enter Tryz.func35, Tryz.ntmps35
      go_wp2_with fail
      go_ret
      exact ⟨ret_bool (by first | (rw [HD.out]; done) | (rw [HD.out]; rfl)), hw0⟩
theorem rtime_at (v : Value) (ls : List Fld) (s : ByteArray) (hs : s.data.toList = sIUS ∨ s.data.toList = sIMS) (n c : Int) (h : PR (jn (vals ls s.data.toList)) n c) (w : World) (hf : Fl w v ls) (hsz : EvSz ls) (hT : CoT w) :
    Calls Tryz.prog 34 #[v, .string s] w fun e w' => e = .returned (.tuple #[.int .i64 n, .bool (c == 0)]) ∧ Below w.heap.size w w' := by
  refine dof_at v ls s n c h w hf hsz.1 ?_ ?_ hT.1
  · rw [← size_list]
    rcases hs with h | h <;> rw [h] <;> decide
  · refine Nat.le_trans (hsz.2 _ ?_) (by decide)
    rcases hs with h | h
    · exact .inr (.inl h)
    · exact .inr (.inr (.inr h))
/-- What is there, in the program's own words. -/
abbrev pv (there tg k : Bool) (x : ByteArray) (mo : Int) : Value := .agg #[.bool there, .bool tg, .bool k, .string x, .int .i64 mo]
set_option maxHeartbeats 1000000 in
set_option maxRecDepth 100000 in
theorem meant_at (v : Value) (ls : List Fld) (there k : Bool) (x : ByteArray) (mo c : Int) (tag : List UInt8) (hp : paE tag = ((k, x.data.toList), c)) (n1 c1 : Int) (h1 : PR (jn (vals ls sIUS)) n1 c1) (w : World) (hf : Fl w v ls) (hsz : EvSz ls) (hT : CoT w) :
    Calls Tryz.prog 17 #[v, pv there (c == 0) k x mo] w fun e w' => e = .returned (.bool (okM (there && decide (0 ≤ mo)) mo (mtE ls sIM there tag false) n1 (c1 == 0))) ∧ Below w.heap.size w w' := by
  obtain ⟨a, b, hab⟩ : ∃ a b, mtE ls sIM there tag false = (a, b) := ⟨_, _, rfl⟩
  have HAB : Hid (mtE ls sIM there tag false = (a, b)) := hab
  have HPA : Hid (paE tag = ((k, x.data.toList), c)) := hp
  have HF : Hid (Fl w v ls) := hf
  have HZ : Hid (EvSz ls) := hsz
  have HC : Hid (CoT w) := hT
  have HPR : Hid (PR (jn (vals ls sIUS)) n1 c1) := h1
  obtain ⟨d, hd⟩ : ∃ d, (there && decide (0 ≤ mo)) = d := ⟨_, rfl⟩
  have HD : Hid ((there && decide (0 ≤ mo)) = d) := hd
  obtain ⟨tg, htg⟩ : ∃ tg, (c == 0) = tg := ⟨_, rfl⟩
  have HTG : Hid ((c == 0) = tg) := htg
  obtain ⟨o, ho⟩ : ∃ o, (c1 == 0) = o := ⟨_, rfl⟩
  have HQO : Hid ((c1 == 0) = o) := ho
  rw [htg, hab, hd, ho]
  clear hab hp hf hsz hT h1 hd htg ho
  go_enter Tryz.func17, Tryz.ntmps17
  go_wp2_with fail
  refine (match_at v ls ⟨#[73, 102, 45, 77, 97, 116, 99, 104]⟩ (.inl rfl) there k x mo c tg HTG.out tag HPA.out _ false both_strong a b HAB.out _ (HF.out.below (below_alloc _ _)) HZ.out.1 (HZ.out.2 _ (.inl rfl))).mono ?_
  rintro e w1 ⟨rfl, hb1⟩
  have HB1 : Hid (Below w.heap.size w w1) := below_new hb1
  obtain ⟨k0, k1, k2, k3, k4⟩ : w1.cell? ⟨w.heap.size, 0, none⟩ = some (.bool there) ∧ w1.cell? ⟨w.heap.size, 1, none⟩ = some (.bool tg) ∧ w1.cell? ⟨w.heap.size, 2, none⟩ = some (.bool k) ∧ w1.cell? ⟨w.heap.size, 3, none⟩ = some (.string x) ∧ w1.cell? ⟨w.heap.size, 4, none⟩ = some (.int .i64 mo) := ⟨new_cell hb1 0, new_cell hb1 1, new_cell hb1 2, new_cell hb1 3, new_cell hb1 4⟩
  have hsz1 := hb1.size
  clear hb1
  cases a
  · go_wp2_with fail
    refine (rtime_at v ls ⟨#[73, 102, 45, 85, 110, 109, 111, 100, 105, 102, 105, 101, 100, 45, 83, 105, 110, 99, 101]⟩ (.inl rfl) n1 c1 HPR.out _ (HF.out.below HB1.out) HZ.out (HC.out.below HB1.out)).mono ?_
    rintro e w2 ⟨rfl, hb2⟩
    have hw2 := HB1.out.trans (hb2.mono HB1.out.size)
    have k0' := cell_keep hb2 k0
    have k1' := cell_keep hb2 k1
    have k2' := cell_keep hb2 k2
    have k3' := cell_keep hb2 k3
    have k4' := cell_keep hb2 k4
    have hsz2 := hb2.size
    clear k0 k1 k2 k3 k4 hb2
    rw [HQO.out]
    cases o
    · go_wp2_with fail
      go_ret
      exact ⟨rfl, hw2⟩
    · cases d
      · go_wp2_with fail
        refine (dated_at there tg k x mo false HD.out _).mono ?_
        rintro e w3 ⟨rfl, hb3⟩
        have hw3 := hw2.trans (hb3.mono hw2.size)
        go_wp2_with fail
        go_ret
        exact ⟨rfl, hw3⟩
      · by_cases hmo : mo ≤ n1
        all_goals
          have HM : Hid (decide (mo ≤ n1) = _) := show decide (mo ≤ n1) = _ by first | exact decide_eq_true hmo | exact decide_eq_false hmo
          go_wp2_with fail
          refine (dated_at there tg k x mo true HD.out _).mono ?_
          rintro e w3 ⟨rfl, hb3⟩
          have hw3 := hw2.trans (hb3.mono hw2.size)
          have k4'' := cell_keep hb3 k4'
          go_wp2_with fail
          go_ret
          exact ⟨ret_bool (by unfold okM; rw [HM.out]; rfl), hw3⟩
  · go_wp2_with fail
    go_ret
    exact ⟨rfl, HB1.out⟩
set_option maxHeartbeats 1000000 in
set_option maxRecDepth 100000 in
theorem known_at (m : ByteArray) (v : Value) (ls : List Fld) (there k : Bool) (x : ByteArray) (mo c : Int) (tag : List UInt8) (hp : paE tag = ((k, x.data.toList), c)) (n1 c1 : Int) (h1 : PR (jn (vals ls sIMS)) n1 c1) (w : World) (hf : Fl w v ls) (hsz : EvSz ls) (hT : CoT w) :
    Calls Tryz.prog 18 #[.string m, v, pv there (c == 0) k x mo] w fun e w' => e = .returned (.bool (okK (rdsB m.data.toList) (there && decide (0 ≤ mo)) mo (mtE ls sINM there tag true) n1 (c1 == 0))) ∧ Below w.heap.size w w' := by
  obtain ⟨a, b, hab⟩ : ∃ a b, mtE ls sINM there tag true = (a, b) := ⟨_, _, rfl⟩
  have HAB : Hid (mtE ls sINM there tag true = (a, b)) := hab
  have HPA : Hid (paE tag = ((k, x.data.toList), c)) := hp
  have HF : Hid (Fl w v ls) := hf
  have HZ : Hid (EvSz ls) := hsz
  have HC : Hid (CoT w) := hT
  have HPR : Hid (PR (jn (vals ls sIMS)) n1 c1) := h1
  obtain ⟨d, hd⟩ : ∃ d, (there && decide (0 ≤ mo)) = d := ⟨_, rfl⟩
  have HD : Hid ((there && decide (0 ≤ mo)) = d) := hd
  obtain ⟨tg, htg⟩ : ∃ tg, (c == 0) = tg := ⟨_, rfl⟩
  have HTG : Hid ((c == 0) = tg) := htg
  obtain ⟨rd, hrd⟩ : ∃ rd, rdsB m.data.toList = rd := ⟨_, rfl⟩
  have HRD : Hid (rdsB m.data.toList = rd) := hrd
  obtain ⟨o, ho⟩ : ∃ o, (c1 == 0) = o := ⟨_, rfl⟩
  have HQO : Hid ((c1 == 0) = o) := ho
  rw [htg, hab, hd, hrd, ho]
  clear hab hp hf hsz hT h1 hd htg hrd ho
  go_enter Tryz.func18, Tryz.ntmps18
  go_wp2_with fail
  refine (match_at v ls ⟨#[73, 102, 45, 78, 111, 110, 101, 45, 77, 97, 116, 99, 104]⟩ (.inr rfl) there k x mo c tg HTG.out tag HPA.out _ true both_weak a b HAB.out _ (HF.out.below (below_alloc _ _)) HZ.out.1 (HZ.out.2 _ (.inr (.inr (.inl rfl))))).mono ?_
  rintro e w1 ⟨rfl, hb1⟩
  have HB1 : Hid (Below w.heap.size w w1) := below_new hb1
  obtain ⟨k0, k1, k2, k3, k4⟩ : w1.cell? ⟨w.heap.size, 0, none⟩ = some (.bool there) ∧ w1.cell? ⟨w.heap.size, 1, none⟩ = some (.bool tg) ∧ w1.cell? ⟨w.heap.size, 2, none⟩ = some (.bool k) ∧ w1.cell? ⟨w.heap.size, 3, none⟩ = some (.string x) ∧ w1.cell? ⟨w.heap.size, 4, none⟩ = some (.int .i64 mo) := ⟨new_cell hb1 0, new_cell hb1 1, new_cell hb1 2, new_cell hb1 3, new_cell hb1 4⟩
  have hsz1 := hb1.size
  clear hb1
  cases a
  · go_wp2_with fail
    refine (rtime_at v ls ⟨#[73, 102, 45, 77, 111, 100, 105, 102, 105, 101, 100, 45, 83, 105, 110, 99, 101]⟩ (.inr rfl) n1 c1 HPR.out _ (HF.out.below HB1.out) HZ.out (HC.out.below HB1.out)).mono ?_
    rintro e w2 ⟨rfl, hb2⟩
    have hw2 := HB1.out.trans (hb2.mono HB1.out.size)
    have k0' := cell_keep hb2 k0
    have k1' := cell_keep hb2 k1
    have k2' := cell_keep hb2 k2
    have k3' := cell_keep hb2 k3
    have k4' := cell_keep hb2 k4
    have hsz2 := hb2.size
    clear k0 k1 k2 k3 k4 hb2
    rw [HQO.out]
    cases o
    · go_wp2_with fail
      go_ret
      exact ⟨rfl, hw2⟩
    · cases rd
      · go_wp2_with fail
        refine (reads_any m _).mono ?_
        rintro e w3 ⟨rfl, hb3⟩
        have hw3 := hw2.trans (hb3.mono hw2.size)
        rw [HRD.out]
        go_wp2_with fail
        go_ret
        exact ⟨rfl, hw3⟩
      · cases d
        · go_wp2_with fail
          refine (reads_any m _).mono ?_
          rintro e w3 ⟨rfl, hb3⟩
          have hw3 := hw2.trans (hb3.mono hw2.size)
          have j0 := cell_keep hb3 k0'
          have j1 := cell_keep hb3 k1'
          have j2 := cell_keep hb3 k2'
          have j3 := cell_keep hb3 k3'
          have j4 := cell_keep hb3 k4'
          rw [HRD.out]
          clear k0' k1' k2' k3' k4' hb3
          go_wp2_with fail
          refine (dated_at there tg k x mo false HD.out _).mono ?_
          rintro e w4 ⟨rfl, hb4⟩
          have hw4 := hw3.trans (hb4.mono hw3.size)
          go_wp2_with fail
          go_ret
          exact ⟨rfl, hw4⟩
        · by_cases hmo : mo ≤ n1
          all_goals
            have HM : Hid (decide (mo ≤ n1) = _) := show decide (mo ≤ n1) = _ by first | exact decide_eq_true hmo | exact decide_eq_false hmo
            go_wp2_with fail
            refine (reads_any m _).mono ?_
            rintro e w3 ⟨rfl, hb3⟩
            have hw3 := hw2.trans (hb3.mono hw2.size)
            have j0 := cell_keep hb3 k0'
            have j1 := cell_keep hb3 k1'
            have j2 := cell_keep hb3 k2'
            have j3 := cell_keep hb3 k3'
            have j4 := cell_keep hb3 k4'
            rw [HRD.out]
            clear k0' k1' k2' k3' k4' hb3
            go_wp2_with fail
            refine (dated_at there tg k x mo true HD.out _).mono ?_
            rintro e w4 ⟨rfl, hb4⟩
            have hw4 := hw3.trans (hb4.mono hw3.size)
            have j4' := cell_keep hb4 j4
            go_wp2_with fail
            go_ret
            exact ⟨ret_bool (by unfold okK; rw [HM.out]; rfl), hw4⟩
  · go_wp2_with fail
    go_ret
    exact ⟨rfl, HB1.out⟩
set_option maxHeartbeats 1000000 in
set_option maxRecDepth 100000 in
theorem eval_at (m : ByteArray) (v : Value) (ls : List Fld) (there : Bool) (tag : ByteArray) (mo r : Int) (h : EvR m.data.toList ls there tag.data.toList mo r) (w : World) (hf : Fl w v ls) (hsz : EvSz ls) (ht : tag.size ≤ 140737488351232) (hT : CoT w) :
    Calls Tryz.prog 9 #[.string m, v, .bool there, .string tag, .int .i64 mo] w fun e w' => e = .returned (.int .i64 r) ∧ Below w.heap.size w w' := by
  obtain ⟨n1, c1, h1⟩ := PR_ex (jn (vals ls sIUS))
  obtain ⟨n2, c2, h2⟩ := PR_ex (jn (vals ls sIMS))
  have HP1 : Hid (PR (jn (vals ls sIUS)) n1 c1) := h1
  have HP2 : Hid (PR (jn (vals ls sIMS)) n2 c2) := h2
  have hr := evr_parts h h1 h2
  obtain ⟨x, k, c, hp⟩ : ∃ (x : ByteArray) (k : Bool) (c : Int), paE tag.data.toList = ((k, x.data.toList), c) := ⟨⟨(paE tag.data.toList).1.2.toArray⟩, (paE tag.data.toList).1.1, (paE tag.data.toList).2, rfl⟩
  have HPA : Hid (paE tag.data.toList = ((k, x.data.toList), c)) := hp
  obtain ⟨om, hom⟩ : ∃ om, okM (there && decide (0 ≤ mo)) mo (mtE ls sIM there tag.data.toList false) n1 (c1 == 0) = om := ⟨_, rfl⟩
  obtain ⟨ok, hok⟩ : ∃ ok, okK (rdsB m.data.toList) (there && decide (0 ≤ mo)) mo (mtE ls sINM there tag.data.toList true) n2 (c2 == 0) = ok := ⟨_, rfl⟩
  obtain ⟨rd, hrd⟩ : ∃ rd, rdsB m.data.toList = rd := ⟨_, rfl⟩
  rw [hom, hok, hrd] at hr
  have HOM : Hid (okM (there && decide (0 ≤ mo)) mo (mtE ls sIM there tag.data.toList false) n1 (c1 == 0) = om) := hom
  have HOK : Hid (okK (rdsB m.data.toList) (there && decide (0 ≤ mo)) mo (mtE ls sINM there tag.data.toList true) n2 (c2 == 0) = ok) := hok
  have HRD : Hid (rdsB m.data.toList = rd) := hrd
  have HR : Hid (r = if om = true then (if ok = true then (if rd = true then 304 else 412) else 0) else 412) := hr
  have HF : Hid (Fl w v ls) := hf
  have HZ : Hid (EvSz ls) := hsz
  have HC : Hid (CoT w) := hT
  clear h h1 h2 hp hom hok hrd hr hf hsz hT
  go_enter Tryz.func9, Tryz.ntmps9
  go_wp2_with fail
  refine (eparse_at tag x k c HPA.out _ ht).mono ?_
  rintro e w1 ⟨rfl, hb1⟩
  have HB1 : Hid (Below w.heap.size w w1) := below_new hb1
  have HN : Hid (w1.heap[w.heap.size]? = some (.cells #[.bool there, .bool false, .bool false, .string ⟨#[]⟩, .int .i64 mo] 40 (0, 0))) := by
    refine (hb1.block _ ?_).trans (heap_alloc_new _ _)
    simp
  obtain ⟨k0, k1, k2, k3, k4, f0, f1, f2, f3, f4, hsz1⟩ := five_all HN.out
  clear hb1
  go_wp2_with fail
  generalize hW3 : (((w1.setCell ⟨w.heap.size, 2, none⟩ (.bool k)).setCell ⟨w.heap.size, 3, none⟩ (.string x)).setCell ⟨w.heap.size, 1, none⟩ (.bool (c == 0))).alloc (.cells #[.bool k, .string x] 30) = W3
  have HB3 : Hid (Below w.heap.size w W3) := by
    show Below _ _ _
    rw [← hW3]
    have hb := ((HB1.out.setCell (p := ⟨w.heap.size, 2, none⟩) (Nat.le_refl _) (.bool k)).setCell (p := ⟨w.heap.size, 3, none⟩) (Nat.le_refl _) (.string x)).setCell (p := ⟨w.heap.size, 1, none⟩) (Nat.le_refl _) (.bool (c == 0))
    exact hb.alloc hb.size _
  have HN3 : Hid (W3.heap[w.heap.size]? = some (.cells #[.bool there, .bool (c == 0), .bool k, .string x, .int .i64 mo] 40 (0, 0))) := by
    show _ = _
    rw [← hW3]
    have h2 := heap_setCell_same w1 w.heap.size 2 _ _ (.bool k) HN.out
    have h3 := heap_setCell_same _ w.heap.size 3 _ _ (.string x) h2
    have h4 := heap_setCell_same _ w.heap.size 1 _ _ (.bool (c == 0)) h3
    exact ((below_alloc _ _).block _ (Array.getElem?_eq_some_iff.1 h4).1).trans h4
  clear hW3 k0 k1 k2 k3 k4 f0 f1 f2 f3 f4 hsz1 HN HB1
  refine (meant_at v ls there k x mo c _ HPA.out n1 c1 HP1.out _ (HF.out.below HB3.out) HZ.out (HC.out.below HB3.out)).mono ?_
  rintro e w4 ⟨rfl, hb4⟩
  rw [HOM.out]
  have HB4 : Hid (Below w.heap.size w w4) := HB3.out.trans (hb4.mono HB3.out.size)
  have HN4 := (hb4.block _ (Array.getElem?_eq_some_iff.1 HN3.out).1).trans HN3.out
  obtain ⟨k0, k1, k2, k3, k4, _, _, _, _, _, hsz1⟩ := five_all HN4
  clear hb4 HN4 HN3 HB3
  cases om
  · have HRR : Hid (r = 412) := by show _ = _; rw [HR.out]; rfl
    go_wp2_with fail
    go_ret
    exact ⟨ret_int HRR.out.symm, HB4.out⟩
  · go_wp2_with fail
    refine (known_at m v ls there k x mo c _ HPA.out n2 c2 HP2.out _ (HF.out.below HB4.out) HZ.out (HC.out.below HB4.out)).mono ?_
    rintro e w5 ⟨rfl, hb5⟩
    rw [HOK.out]
    have HB5 : Hid (Below w.heap.size w w5) := HB4.out.trans (hb5.mono HB4.out.size)
    clear hb5 HB4
    cases ok
    · have HRR : Hid (r = 0) := by show _ = _; rw [HR.out]; rfl
      go_wp2_with fail
      go_ret
      exact ⟨ret_int HRR.out.symm, HB5.out⟩
    · go_wp2_with fail
      refine (reads_any m _).mono ?_
      rintro e w6 ⟨rfl, hb6⟩
      rw [HRD.out]
      have HB6 : Hid (Below w.heap.size w w6) := HB5.out.trans (hb6.mono HB5.out.size)
      clear hb6 HB5
      cases rd
      · have HRR : Hid (r = 412) := by show _ = _; rw [HR.out]; rfl
        go_wp2_with fail
        go_ret
        exact ⟨ret_int HRR.out.symm, HB6.out⟩
      · have HRR : Hid (r = 304) := by show _ = _; rw [HR.out]; rfl
        go_wp2_with fail
        go_ret
        exact ⟨ret_int HRR.out.symm, HB6.out⟩
end Go.Proofs.YtigbjhkkbgdkcaaGreatDoor

/-
  What but of package field hands back: a function of a field that answers the other way; what it answers in whatever later world.
-/
namespace Go.Proofs.YtigbjhkkbgdkcaaGreatDoor
open Go.RowKit

set_option maxHeartbeats 1000000 in
set_option maxRecDepth 100000 in
theorem but1_any (n u : ByteArray) (B g : Nat) (lb : Array Value) (b : Bool) (w : World) (hc : w.cell? ⟨B, 0, none⟩ = some (.func (.func g) #[] lb)) (eg : ∀ args w, (callFunc g args).run Tryz.prog w = .ok (.enter g args) w)
    (hcall : ∀ W, Below w.heap.size w W → Calls Tryz.prog g (#[.agg #[.string n, .string u]] ++ lb) W fun e w' => e = .returned (.bool b) ∧ Below W.heap.size W w') :
    Calls Tryz.prog 71 #[.agg #[.string n, .string u], .pointer (some ⟨B, 0, none⟩)] w fun e w' => e = .returned (.bool (!b)) ∧ Below w.heap.size w w' := by
  have hBs : B < w.heap.size := cell_in hc
  have HC : Hid (∀ W, Below w.heap.size w W → Calls Tryz.prog g (#[.agg #[.string n, .string u]] ++ lb) W fun e w' => e = .returned (.bool b) ∧ Below W.heap.size W w') := hcall
  clear hcall
  go_enter Tryz.func71, Tryz.ntmps71
  go_wp2_with (go_at_fn g; refine (HC.out _ ((Below.refl _ w).alloc (Nat.le_refl _) _)).mono ?_; rintro e w1 ⟨rfl, hb⟩)
  go_ret
  exact ⟨rfl, ((Below.refl _ w).alloc (Nat.le_refl _) _).trans (hb.mono (by simp))⟩

set_option maxHeartbeats 1000000 in
set_option maxRecDepth 100000 in
theorem but_any (f : Value) (p : Fld → Bool) (w : World) (hp : Pred w f p) :
    Calls Tryz.prog 42 #[f] w fun e w' => ∃ f', e = .returned f' ∧ Pred w' f' (fun x => !p x) ∧ Below w.heap.size w w' := by
  have hmf : ∀ (fn : Fn) (first cap : Array Value) (w : World), (Instr.makeFunc fn first cap).run Tryz.prog w = .ok (.func fn first cap) w := fun _ _ _ _ => rfl
  have HP : Hid (Pred w f p) := hp
  obtain ⟨g, lb, hf, eg, _⟩ := hp
  subst hf
  go_enter Tryz.func42, Tryz.ntmps42
  go_wp2_with fail
  go_ret
  refine ⟨_, rfl, ⟨71, _, rfl, enters_of Tryz.func71 (by kernel_rfl) rfl, fun W n u hW hn => ?_⟩, (Below.refl _ w).alloc (Nat.le_refl _) _⟩
  obtain ⟨g', lb', hf', eg', hc'⟩ := HP.out
  simp only [Value.func.injEq, Fn.func.injEq] at hf'
  obtain ⟨rfl, _, rfl⟩ := hf'
  have hWw : Below w.heap.size w W := ((Below.refl _ w).alloc (Nat.le_refl _) _).trans (hW.mono (by simp))
  refine but1_any n u w.heap.size g lb _ W ?_ eg fun W' hW' => hc' W' n u (hWw.trans (hW'.mono hWw.size)) hn
  exact (hW.cell (p := ⟨w.heap.size, 0, none⟩) (by simp)).trans (by simp)
end Go.Proofs.YtigbjhkkbgdkcaaGreatDoor

/-
  What Drop of package field computes; lists and texts are no longer than Go allows.
-/
namespace Go.Proofs.YtigbjhkkbgdkcaaGreatDoor
open Go.RowKit

set_option maxHeartbeats 2000000 in
set_option maxRecDepth 100000 in
theorem drop_any (v : Value) (ls : List Fld) (s : ByteArray) (w : World) (hf : Fl w v ls) (hl : Wide ls) (hs : s.size ≤ 140737488351232) :
    Calls Tryz.prog 22 #[v, .string s] w fun e w' => ∃ v', e = .returned v' ∧ w'.ownsRow w.heap.size 26 2 v' (rest1 s.data.toList ls).length (flds (rest1 s.data.toList ls)) ∧ Below w.heap.size w w' := by
  have HF : Hid (Fl w v ls) := hf
  have HL : Hid (Wide ls) := hl
  clear hf hl
  go_enter Tryz.func22, Tryz.ntmps22
  go_wp2_with fail
  refine (named_any s _ hs).mono ?_
  rintro e w1 ⟨f, rfl, hp1, hb1⟩
  have HP1 : Hid (Pred w1 f (fun x => lower x.1 == lower s.data.toList)) := hp1
  clear hp1
  go_wp2_with fail
  refine (but_any f _ _ HP1.out).mono ?_
  rintro e w2 ⟨f2, rfl, hp2, hb2⟩
  have HP2 : Hid (Pred w2 f2 (fun x => !(lower x.1 == lower s.data.toList))) := hp2
  have hw2 := hb1.trans (hb2.mono hb1.size)
  clear hp2 hb2 hb1
  go_wp2_with fail
  refine (pick_any _ _ ls _ _ (HF.out.below hw2) HL.out HP2.out).mono ?_
  rintro e w3 ⟨v3, rfl, hown3, hb3⟩
  have hw3 := hw2.trans (hb3.mono hw2.size)
  go_wp2_with fail
  go_ret
  exact ⟨_, rfl, own_le hown3 hw2.size, hw3⟩
end Go.Proofs.YtigbjhkkbgdkcaaGreatDoor

/-
  A list of fields that came in, opened as a plain list of names and values; no program is named here.
-/
namespace Go.Proofs.YtigbjhkkbgdkcaaGreatDoor
open Go.RowKit Go.ChangeShapes Go.WideShapes Go.Deep

def bytesOfV : Value → List UInt8
  | .string s => s.data.toList
  | _ => []
theorem add_form (b off n : Nat) : (⟨b, off, none⟩ : Addr).add n = ⟨b, off + n, none⟩ := by
  by_cases h0 : n = 0
  · subst h0; simp [Addr.add]
  · simp [Addr.add, h0]
def fl1 {H : Type} (y : Fld) : DataW H := .agg [.lit (.string y.1), .lit (.string y.2)]

theorem open_fl {H : Type} {enc : TypeId × Value → H} {P : Program} {w : World} {base : Nat} {spare : Nat → Bool} {held : Bool} {t e : TypeId} {f0 f1 : Field} {fuel : Nat} {v : Value} {x : DataW H × List MemPlace}
    (ht : P.underlying t = some (.slice e)) (he : P.underlying e = some (.struct #[f0, f1])) (ce : P.cellsOf e = 2) (o0 : f0.offset = 0) (o1 : f1.offset = 1) (c0 : P.cellsOf f0.type = 1) (c1 : P.cellsOf f1.type = 1)
    (s0 : P.underlying f0.type = some .string) (s1 : P.underlying f1.type = some .string) (h : DataW.trod enc P w base spare held fuel t [v] = some x) :
    ∃ (ls : List Fld) (sp : List (DataW H)), Fl w v ls ∧ Most maxLen ls ∧ (x.1 = .nil ∧ ls = [] ∨ x.1 = .slice (ls.map fl1) sp) := by
  rcases open_slice_pairs ht he ce o0 o1 c0 c1 h with ⟨hcs, hx⟩ | ⟨a, len, cap, m, n, V0, V1, D0, D1, P0, P1, hcs, _, hl, hm, hmm, hx, hi⟩
  · simp only [List.cons.injEq, and_true] at hcs
    subst hcs
    have hM : Most maxLen [] := fun y hy => by cases hy
    exact ⟨[], [], Fl.nil w, hM, Or.inl ⟨by rw [hx], rfl⟩⟩
  · simp only [List.cons.injEq, and_true] at hcs
    subst hcs
    have hlm : len ≤ m := by rw [hmm]; split <;> omega
    have each : ∀ i, i < len → V0 i = .string ⟨(bytesOfV (V0 i)).toArray⟩ ∧ V1 i = .string ⟨(bytesOfV (V1 i)).toArray⟩ ∧ D0 i = .lit (.string (bytesOfV (V0 i))) ∧ D1 i = .lit (.string (bytesOfV (V1 i))) ∧ (bytesOfV (V0 i)).length ≤ maxLen ∧ (bytesOfV (V1 i)).length ≤ maxLen := by
      intro i hil
      obtain ⟨_, _, t0, t1⟩ := hi i (by omega)
      obtain ⟨a0, ha0, hd0, hz0⟩ := DataW.trod_string s0 t0
      obtain ⟨a1, ha1, hd1, hz1⟩ := DataW.trod_string s1 t1
      simp only [List.cons.injEq, and_true] at ha0 ha1
      simp only [Prod.mk.injEq] at hd0 hd1
      rw [ha0, ha1, hd0.1, hd1.1]
      refine ⟨rfl, rfl, rfl, rfl, ?_, ?_⟩
      · show a0.data.toList.length ≤ maxLen; rw [size_list]; exact hz0
      · show a1.data.toList.length ≤ maxLen; rw [size_list]; exact hz1
    refine ⟨(List.range len).map fun i => (bytesOfV (V0 i), bytesOfV (V1 i)), (List.range (m - len)).map fun j => .agg [D0 (len + j), D1 (len + j)], ⟨some a, cap, by simp, by simpa using hl, hm, fun h0 => ?_⟩, ?_, .inr ?_⟩
    rotate_left
    · intro y hy
      obtain ⟨i, hir, rfl⟩ := List.mem_map.1 hy
      obtain ⟨_, _, _, _, h5, h6⟩ := each i (List.mem_range.1 hir)
      exact ⟨h5, h6⟩
    · rw [hx]
      show DataW.slice _ _ = DataW.slice _ _
      congr 1
      rw [List.map_map]
      refine List.map_congr_left fun i hir => ?_
      obtain ⟨_, _, h3, h4, _⟩ := each i (List.mem_range.1 hir)
      show DataW.agg [D0 i, D1 i] = DataW.agg _
      rw [h3, h4]
    · simp only [List.length_map, List.length_range] at h0 ⊢
      obtain ⟨b, off, spot⟩ := a
      have hc0 := (hi 0 (by omega)).1
      have hspot : spot = none := by simpa [Addr.add] using World.cell?_spot hc0
      subst hspot
      refine ⟨b, off, rfl, ?_, fun k hk => ?_⟩
      · rw [add_form] at hc0
        exact cell_in hc0
      · obtain ⟨q0, q1, _⟩ := hi k (by omega)
        obtain ⟨h1, h2, _⟩ := each k hk
        rw [add_form] at q0 q1
        rw [List.getElem_map, List.getElem_range]
        refine ⟨?_, ?_⟩
        · rw [q0, h1]; rfl
        · rw [Nat.add_assoc, q1, h2]; rfl
end Go.Proofs.YtigbjhkkbgdkcaaGreatDoor

/-
  What Copy of the document's answers computes of a list of fields that is nil or has an address.
-/
namespace Go.Proofs.YtigbjhkkbgdkcaaGreatDoor
open Go.RowKit

/-- A list that came in is nil, or it has an address. -/
def Nilly (v : Value) : Prop := v = .slice none 0 0 ∨ ∃ a n c, v = .slice (some a) n c
theorem nilly_fl {H : Type} {enc : TypeId × Value → H} {P : Program} {w : World} {base : Nat} {spare : Nat → Bool} {held : Bool} {t e : TypeId} {fuel : Nat} {v : Value} {x : DataW H × List MemPlace}
    (ht : P.underlying t = some (.slice e)) (h : DataW.trod enc P w base spare held fuel t [v] = some x) : Nilly v := by
  rcases DataW.trod_slice ht h with ⟨h0, _⟩ | ⟨a, len, cap, _, _, _, _, hcs, _⟩
  · simp only [List.cons.injEq, and_true] at h0
    exact .inl h0
  · simp only [List.cons.injEq, and_true] at hcs
    exact .inr ⟨a, len, cap, hcs⟩
theorem Fl.cells {w : World} {a : Addr} {c : Nat} {ls : List Fld} (h : Fl w (.slice (some a) ls.length c) ls) : ∀ j u, (flds ls)[j]? = some u → w.cell? (a.add j) = some u := by
  obtain ⟨ad', cap', hv, h1, h2, h3⟩ := h
  simp only [Value.slice.injEq] at hv
  obtain ⟨rfl, _, rfl⟩ := hv
  intro j u hj
  have hjl : j < ls.length * 2 := by
    rw [← flds_length]
    exact (List.getElem?_eq_some_iff.1 hj).1
  obtain ⟨g, off, ha, hg, hc⟩ := h3 (by omega)
  simp only [Option.some.injEq] at ha
  subst ha
  have hform : (⟨g, off, none⟩ : Addr).add j = ⟨g, off + j, none⟩ := by
    by_cases h0 : j = 0
    · subst h0; simp [Addr.add]
    · simp [Addr.add, h0]
  rw [hform]
  obtain ⟨k, hk⟩ : ∃ k, j = k * 2 ∨ j = k * 2 + 1 := ⟨j / 2, by omega⟩
  obtain ⟨c1, c2⟩ := hc k (by omega)
  obtain ⟨p1, p2⟩ := flds_get ls k (by omega)
  rcases hk with rfl | rfl
  · rw [p1] at hj; rw [c1, hj]
  · rw [p2] at hj; rw [← Nat.add_assoc, c2, hj]

set_option maxHeartbeats 2000000 in
set_option maxRecDepth 100000 in
theorem copy_any (v : Value) (ls : List Fld) (w : World) (hf : Fl w v ls) (hn : Nilly v) (hl : ls.length ≤ 4398046511000) :
    Calls Tryz.prog 23 #[v] w fun e w' => ∃ v', e = .returned v' ∧ w'.ownsRow w.heap.size 26 2 v' ls.length (flds ls) ∧ Below w.heap.size w w' := by
  obtain ⟨i0, hi, hz0, hz1, hz2⟩ := info_parts infoF
  have HF : Hid (Fl w v ls) := hf
  obtain ⟨ad, cap, hv, hcap, hcm, hcx⟩ := hf
  subst hv
  clear hcx
  unfold maxLen at hcm
  rcases hn with hn | ⟨a, n, c, hn⟩
  · simp only [Value.slice.injEq] at hn
    obtain ⟨rfl, hl0, rfl⟩ := hn
    have hls := List.eq_nil_of_length_eq_zero hl0
    subst hls
    clear hl0
    go_enter Tryz.func23, Tryz.ntmps23
    go_wp2_with (at_builtin; refine wpList_append_own_none rfl _ _ 22 rfl w.heap.size 26 i0 2 Tryz.underlying22 hi (.slice none 0 0) 0 [] rfl (World.ownsRow_nil _ _ _ _) rfl ?_)
    go_ret
    exact ⟨_, rfl, World.ownsRow_nil _ _ _ _, Below.refl _ _⟩
  · simp only [Value.slice.injEq] at hn
    obtain ⟨rfl, rfl, rfl⟩ := hn
    go_enter Tryz.func23, Tryz.ntmps23
    go_wp2_with (at_builtin; refine wpList_append_own _ rfl _ _ 22 rfl w.heap.size 26 i0 (.agg #[.string ⟨#[]⟩, .string ⟨#[]⟩]) 2 32 Tryz.underlying22 hi hz0 hz1 hz2 rfl (by decide) (.slice none 0 0) 0 [] rfl (World.ownsRow_nil _ _ _ _) a ls.length cap (flds ls) rfl (flds_length ls) ?c1 ?c2 ?c3 ?c4 ?c5 ?_)
    case c1 => exact HF.out.cells
    case c2 => exact flds_one ls
    case c3 => unfold maxLen; omega
    case c4 => omega
    case c5 => omega
    · intro v' w' hown' hgrow _
      have hB : Below w.heap.size w w' := (Below.refl _ w).grown hgrow (Nat.le_refl _) (fun b hb => ((World.ownsRow_nil w w.heap.size 26 2).lt b hb).1)
      have hown2 : w'.ownsRow w.heap.size 26 2 v' ls.length (flds ls) := by
        exact hown'
      clear hown' hgrow
      go_wp2_with fail
      go_ret
      exact ⟨_, rfl, hown2, hB⟩
end Go.Proofs.YtigbjhkkbgdkcaaGreatDoor

/-
  What plainly and with of the laws compute: the fields without conditions, and one more behind them.
-/
namespace Go.Proofs.YtigbjhkkbgdkcaaGreatDoor
open Go.RowKit

theorem own_nilly {w : World} {B : Nat} {e : TypeId} {size : Nat} {v : Value} {n : Nat} {xs : List Value} (h : w.ownsRow B e size v n xs) : Nilly v := by
  rcases h.2 with ⟨rfl, _⟩ | ⟨g, cap, cur, rfl, _⟩
  · exact .inl rfl
  · exact .inr ⟨_, _, _, rfl⟩
def dk (ls : List Fld) : Nat → List Fld
  | 0 => ls
  | 1 => rest1 sIM ls
  | 2 => rest1 sINM (rest1 sIM ls)
  | 3 => rest1 sIMS (rest1 sINM (rest1 sIM ls))
  | _ => plain4 ls
theorem Wide.dk {ls : List Fld} (h : Wide ls) : ∀ k, Wide (dk ls k)
  | 0 => h
  | 1 => h.filter _
  | 2 => (h.filter _).filter _
  | 3 => ((h.filter _).filter _).filter _
  | _ + 4 => (((h.filter _).filter _).filter _).filter _
set_option maxHeartbeats 4000000 in
set_option maxRecDepth 100000 in
theorem plainly_any (v : Value) (ls : List Fld) (w : World) (hf : Fl w v ls) (hl : Wide ls) :
    Calls Tryz.prog 11 #[v] w fun e w' => ∃ v', e = .returned v' ∧ w'.ownsRow w.heap.size 26 2 v' (plain4 ls).length (flds (plain4 ls)) ∧ Below w.heap.size w w' := by
  have HF : Hid (Fl w v ls) := hf
  have HL : Hid (Wide ls) := hl
  clear hf hl
  have hb0 := (Below.refl _ w).alloc (Nat.le_refl _) (.cells #[.string ⟨#[73, 102, 45, 77, 97, 116, 99, 104]⟩, .string ⟨#[73, 102, 45, 78, 111, 110, 101, 45, 77, 97, 116, 99, 104]⟩, .string ⟨#[73, 102, 45, 77, 111, 100, 105, 102, 105, 101, 100, 45, 83, 105, 110, 99, 101]⟩, .string ⟨#[73, 102, 45, 85, 110, 109, 111, 100, 105, 102, 105, 101, 100, 45, 83, 105, 110, 99, 101]⟩] 9)
  obtain ⟨w0, hw0⟩ : ∃ w0, w0 = w.alloc (.cells #[.string ⟨#[73, 102, 45, 77, 97, 116, 99, 104]⟩, .string ⟨#[73, 102, 45, 78, 111, 110, 101, 45, 77, 97, 116, 99, 104]⟩, .string ⟨#[73, 102, 45, 77, 111, 100, 105, 102, 105, 101, 100, 45, 83, 105, 110, 99, 101]⟩, .string ⟨#[73, 102, 45, 85, 110, 109, 111, 100, 105, 102, 105, 101, 100, 45, 83, 105, 110, 99, 101]⟩] 9) := ⟨_, rfl⟩
  have c0 : w0.cell? ⟨w.heap.size, 0, none⟩ = some (.string ⟨#[73, 102, 45, 77, 97, 116, 99, 104]⟩) := by rw [hw0]; simp
  have c1 : w0.cell? ⟨w.heap.size, 1, none⟩ = some (.string ⟨#[73, 102, 45, 78, 111, 110, 101, 45, 77, 97, 116, 99, 104]⟩) := by rw [hw0]; simp
  have c2 : w0.cell? ⟨w.heap.size, 2, none⟩ = some (.string ⟨#[73, 102, 45, 77, 111, 100, 105, 102, 105, 101, 100, 45, 83, 105, 110, 99, 101]⟩) := by rw [hw0]; simp
  have c3 : w0.cell? ⟨w.heap.size, 3, none⟩ = some (.string ⟨#[73, 102, 45, 85, 110, 109, 111, 100, 105, 102, 105, 101, 100, 45, 83, 105, 110, 99, 101]⟩) := by rw [hw0]; simp
  have hs0 : w.heap.size < w0.heap.size := by rw [hw0]; simp
  rw [← hw0] at hb0
  have HF0 : Hid (Fl w0 v ls) := HF.out.below hb0
  have HB0 : Hid (Below w.heap.size w w0) := hb0
  clear hb0
  go_enter Tryz.func11, Tryz.ntmps11
  go_wp2_with fail
  rw [← hw0]
  clear hw0
  go_loopw [0, 7] (fun lv i wr => ∃ k : Nat, k ≤ 4 ∧ i = .int .i64 k ∧ Fl wr lv (dk ls k) ∧ (k = 4 → wr.ownsRow w.heap.size 26 2 lv (plain4 ls).length (flds (plain4 ls))) ∧ Below w0.heap.size w0 wr) (fun _ i _ => 4 - (intOf i).toNat)
  case atStart => exact ⟨0, by omega, rfl, HF0.out, (fun h => by cases h), Below.refl _ _⟩
  case round =>
    obtain ⟨k, hk, rfl, hfl, hown, hw⟩ := hrel
    have hsz := hw.size
    have d0 := (hw.cell (p := ⟨w.heap.size, 0, none⟩) hs0).trans c0
    have d1 := (hw.cell (p := ⟨w.heap.size, 1, none⟩) hs0).trans c1
    have d2 := (hw.cell (p := ⟨w.heap.size, 2, none⟩) hs0).trans c2
    have d3 := (hw.cell (p := ⟨w.heap.size, 3, none⟩) hs0).trans c3
    have HFL : Hid (Fl wr _ (dk ls k)) := hfl
    have HWD : Hid (Wide (dk ls k)) := HL.out.dk k
    have hwr : w.heap.size < wr.heap.size := by omega
    clear hfl
    by_cases hlt : k < 4
    · have hstep : ∀ (s : ByteArray) (nx : List Fld), nx = rest1 s.data.toList (dk ls k) → nx = dk ls (k + 1) → s.size ≤ 100 → ∀ v0, Fl wr v0 (dk ls k) →
          Calls Tryz.prog 22 #[v0, .string s] wr fun e w' => ∃ v', e = .returned v' ∧ w'.ownsRow w.heap.size 26 2 v' (dk ls (k + 1)).length (flds (dk ls (k + 1))) ∧ Below wr.heap.size wr w' := by
        intro s nx h1 h2 hs v0 hv0
        refine (drop_any v0 (dk ls k) s wr hv0 HWD.out (by omega)).mono ?_
        rintro e w' ⟨v', rfl, ho, hb⟩
        rw [← h1, h2] at ho
        exact ⟨v', rfl, own_le ho (by omega), hb⟩
      have HST : Hid (∀ (s : ByteArray) (nx : List Fld), nx = rest1 s.data.toList (dk ls k) → nx = dk ls (k + 1) → s.size ≤ 100 → ∀ v0, Fl wr v0 (dk ls k) →
          Calls Tryz.prog 22 #[v0, .string s] wr fun e w' => ∃ v', e = .returned v' ∧ w'.ownsRow w.heap.size 26 2 v' (dk ls (k + 1)).length (flds (dk ls (k + 1))) ∧ Below wr.heap.size wr w') := hstep
      clear hstep hown
      rcases (show k = 0 ∨ k = 1 ∨ k = 2 ∨ k = 3 from by omega) with rfl | rfl | rfl | rfl
      all_goals
        go_wp2_with fail
        refine (HST.out _ _ rfl rfl (by decide) _ HFL.out).mono ?_
        rintro e w1 ⟨v1, rfl, hown1, hb1⟩
        have hF1 : Hid (Fl w1 v1 (dk ls _)) := Fl.own hown1
        have HO1 := hown1
        have hb2 := hw.trans (hb1.mono hsz)
        clear hown1 hb1
        go_wp2_with fail
        go_roundw
        case rel => exact ⟨_, by omega, by go_num, hF1.out, (fun h => by first | exact HO1 | (exfalso; omega)), hb2⟩
        case measure => simp [intOf]
    · obtain rfl : k = 4 := by omega
      have HO := hown rfl
      have HO' : Hid (wr.ownsRow w.heap.size 26 2 _ (plain4 ls).length (flds (plain4 ls))) := HO
      have HB : Hid (Below w.heap.size w wr) := HB0.out.trans (hw.mono (by omega))
      clear HO hown
      go_wp2_with fail
      go_ret
      exact ⟨_, rfl, HO'.out, HB.out⟩
set_option maxHeartbeats 2000000 in
set_option maxRecDepth 100000 in
theorem with_any (v : Value) (ls : List Fld) (n x : ByteArray) (w : World) (hf : Fl w v ls) (hn : Nilly v) (hl : ls.length ≤ 4398046511000) :
    Calls Tryz.prog 12 #[v, .string n, .string x] w fun e w' => ∃ v', e = .returned v' ∧ w'.ownsRow w.heap.size 26 2 v' (ls ++ [(n.data.toList, x.data.toList)]).length (flds (ls ++ [(n.data.toList, x.data.toList)])) ∧ Below w.heap.size w w' := by
  obtain ⟨i0, hi, hz0, hz1, hz2⟩ := info_parts infoF
  have HC := copy_any v ls w hf hn hl
  obtain ⟨ad, cap, hv, hcap, hcm, hcx⟩ := hf
  subst hv
  clear hcx hn
  unfold maxLen at hcm
  go_enter Tryz.func12, Tryz.ntmps12
  go_wp2_with fail
  refine HC.mono ?_
  rintro e w1 ⟨v1, rfl, hown, hb⟩
  have hbs := hb.size
  clear HC
  obtain ⟨ad1, cap1, hv1, hm1, hn1, _⟩ := own_form2 hown
  subst hv1
  unfold maxLen at hm1
  go_wp2_with (at_builtin; refine wpList_append_own _ rfl _ _ 22 rfl w.heap.size 26 i0 (.agg #[.string ⟨#[]⟩, .string ⟨#[]⟩]) 2 32 Tryz.underlying22 hi hz0 hz1 hz2 rfl (by decide) _ _ _ rfl (hown.alloc _) ⟨w1.heap.size, 0, none⟩ 1 1 [.string n, .string x] rfl rfl ?c1 ?c2 ?c3 ?c4 ?c5 ?_)
  case c1 =>
    intro j z h
    match j, h with
    | 0, h => simp at h; subst h; simp [Addr.add]
    | 1, h => simp at h; subst h; simp [Addr.add]
  case c2 => intro z hx; simp at hx; rcases hx with rfl | rfl <;> rfl
  case c3 => unfold maxLen; omega
  case c4 => omega
  case c5 => simp; omega
  · intro v' w2 hown' hgrow _
    have hB : Below w.heap.size w w2 := (hb.alloc hbs _).grown hgrow (by simp; omega) (fun b hb' => ((hown.alloc (.cells #[.string n, .string x] 26)).lt b hb').1)
    have hown2 : w2.ownsRow w.heap.size 26 2 v' (ls ++ [(n.data.toList, x.data.toList)]).length (flds (ls ++ [(n.data.toList, x.data.toList)])) := by
      rw [← flds_snoc, List.length_append]; exact hown'
    clear hown' hgrow hown hb
    go_wp2_with fail
    go_ret
    exact ⟨_, rfl, hown2, hB⟩
end Go.Proofs.YtigbjhkkbgdkcaaGreatDoor

/-
  What the laws on package cond have in common: Eval of the fields without conditions, and of these with one more.
-/
namespace Go.Proofs.YtigbjhkkbgdkcaaGreatDoor
open Go.RowKit

theorem Fl.lit1 (a b : ByteArray) (w : World) (t : TypeId) : Fl (w.alloc (.cells #[.string a, .string b] t)) (.slice (some ⟨w.heap.size, 0, none⟩) 1 1) [(a.data.toList, b.data.toList)] := by
  refine ⟨_, 1, rfl, by simp, by unfold maxLen; omega, fun _ => ⟨w.heap.size, 0, rfl, by simp, fun k hk => ?_⟩⟩
  have hk0 : k = 0 := by simp at hk; omega
  subst hk0
  exact ⟨by simp, by simp⟩
/-- A list of fields of the call's own. -/
def Own1 (w : World) (v : Value) (ls : List Fld) : Prop := Fl w v ls ∧ Nilly v
theorem Own1.below {w w' : World} {v : Value} {ls : List Fld} (h : Own1 w v ls) (hb : Below w.heap.size w w') : Own1 w' v ls := ⟨h.1.below hb, h.2⟩
theorem Own1.own {w : World} {B : Nat} {e : TypeId} {v : Value} {ls : List Fld} (h : w.ownsRow B e 2 v ls.length (flds ls)) : Own1 w v ls := ⟨Fl.own h, own_nilly h⟩
theorem Slim.plain {ls : List Fld} (h : Slim ls) : Slim (plain4 ls) := (((h.filter _).filter _).filter _).filter _
theorem vals_app_le (l : List Fld) (n v s : List UInt8) : vals (l ++ [(n, v)]) s = vals l s ∨ vals (l ++ [(n, v)]) s = vals l s ++ [v] := by
  by_cases h : lower n = lower s
  · exact .inr (vals_with_same l n v s h)
  · exact .inl (vals_with_other l n v s h)
theorem vals_plain_all (ls : List Fld) {s : List UInt8} (h : s = sIM ∨ s = sIUS ∨ s = sINM ∨ s = sIMS) : vals (plain4 ls) s = [] := by
  obtain ⟨h1, h2, h3, h4⟩ := vals_plain ls
  rcases h with rfl | rfl | rfl | rfl
  · exact h1
  · exact h4
  · exact h2
  · exact h3
theorem Wide.more {l : List Fld} (h : Wide l) (n v : List UInt8) (hn : n.length ≤ 1000) (hv : v.length ≤ 1000) (hl : (l.length + 1) * 32 ≤ 140737488353000) : Wide (l ++ [(n, v)]) := by
  refine ⟨fun x hx => ?_, by rw [List.length_append]; exact hl⟩
  rcases List.mem_append.1 hx with hx | hx
  · exact h.1 x hx
  · rw [List.mem_singleton.1 hx]; simp only; omega
theorem evsz_plain {ls : List Fld} (h : Slim ls) : EvSz (plain4 ls) := ⟨h.plain.wide, fun s hs => by rw [vals_plain_all ls hs]; simp [jn, Lib.join]⟩
theorem evsz_one {ls : List Fld} (h : Slim ls) (n v : List UInt8) (hn : n.length ≤ 1000) (hv : v.length ≤ 1000) : EvSz (plain4 ls ++ [(n, v)]) := by
  refine ⟨h.plain.wide.more n v hn hv (by have := h.plain.2; omega), fun s hs => ?_⟩
  have h0 := vals_plain_all ls hs
  rcases vals_app_le (plain4 ls) n v s with h1 | h1
  · rw [h1, h0]; simp [jn, Lib.join]
  · rw [h1, h0, List.nil_append, jn_one]; omega
theorem evsz_two {ls : List Fld} (h : Slim ls) (n v n' v' : List UInt8) (hn : n.length ≤ 1000) (hv : v.length ≤ 1000) (hn' : n'.length ≤ 1000) (hv' : v'.length ≤ 1000) : EvSz (plain4 ls ++ [(n, v)] ++ [(n', v')]) := by
  have hp := h.plain.2
  refine ⟨(h.plain.wide.more n v hn hv (by omega)).more n' v' hn' hv' (by rw [List.length_append]; simp; omega), fun s hs => ?_⟩
  have h0 := vals_plain_all ls hs
  rcases vals_app_le (plain4 ls ++ [(n, v)]) n' v' s with h2 | h2
  all_goals
    rw [h2]
    rcases vals_app_le (plain4 ls) n v s with h1 | h1
  · rw [h1, h0]; simp [jn, Lib.join]
  · rw [h1, h0, List.nil_append, jn_one]; omega
  · rw [h1, h0, List.nil_append, jn_one]; omega
  · rw [h1, h0, List.nil_append]
    have h7 := jn_len ([v] ++ [v'])
    have h9 : Lib.lens ([v] ++ [v']) = v.length + v'.length := by simp [Lib.lens]
    have h8 : ([v] ++ [v']).length = 2 := rfl
    rw [h9, h8] at h7
    omega
theorem evsz_put (s v : List UInt8) (hs : s.length ≤ 1000) (hv : v.length ≤ 1000) : EvSz [(s, v)] := by
  have h : Slim [] := ⟨fun x hx => (by cases hx), by simp⟩
  exact evsz_one h s v hs hv
theorem plainly_at (v : Value) (ls : List Fld) (w : World) (hf : Fl w v ls) (hb : Wide ls) :
    Calls Tryz.prog 11 #[v] w fun e w' => ∃ v', e = .returned v' ∧ Own1 w' v' (plain4 ls) ∧ Below w.heap.size w w' := by
  refine (plainly_any v ls w hf hb).mono ?_
  rintro e w' ⟨v', rfl, ho, hb'⟩
  exact ⟨v', rfl, Own1.own ho, hb'⟩
theorem with_at (v : Value) (ls : List Fld) (n x : ByteArray) (w : World) (hf : Own1 w v ls) (hb : ls.length * 32 ≤ 140737488352000) :
    Calls Tryz.prog 12 #[v, .string n, .string x] w fun e w' => ∃ v', e = .returned v' ∧ Own1 w' v' (ls ++ [(n.data.toList, x.data.toList)]) ∧ Below w.heap.size w w' := by
  refine (with_any v ls n x w hf.1 hf.2 (by omega)).mono ?_
  rintro e w' ⟨v', rfl, ho, hb'⟩
  exact ⟨v', rfl, Own1.own ho, hb'⟩
theorem box_below (w : World) (t : TypeId) (a b : Value) (W : World) (h : Below (w.heap.size + 1) (w.alloc (.cells #[a, b] t)) W) :
    W.cell? ⟨w.heap.size, 0, none⟩ = some a ∧ W.cell? ⟨w.heap.size, 1, none⟩ = some b ∧ Below w.heap.size w W ∧ w.heap.size + 1 ≤ W.heap.size := by
  refine ⟨(h.cell (p := ⟨w.heap.size, 0, none⟩) (show w.heap.size < w.heap.size + 1 by omega)).trans (by simp), (h.cell (p := ⟨w.heap.size, 1, none⟩) (show w.heap.size < w.heap.size + 1 by omega)).trans (by simp),
    ((Below.refl _ w).alloc (Nat.le_refl _) _).trans (h.mono (by omega)), ?_⟩
  have := h.size; simpa using this
/-- What is printed of a tag is short. -/
theorem pr_small {t : Tg} {s : ByteArray} {c : Int} (hp : prE t = (s.data.toList, c)) : s.size ≤ 104 := by
  by_cases h0 : c = 0
  · obtain ⟨h2, h3, _⟩ := prE_ok t (by rw [hp]; exact h0)
    rw [hp] at h2
    have h4 := prG_len t
    rw [← (Prod.mk.inj h2).1, size_list] at h4
    split at h4 <;> omega
  · have := prE_bad t (by rw [hp]; exact h0)
    rw [hp] at this
    have := congrArg List.length this
    rw [size_list] at this
    have this : s.size = 0 := this
    omega
end Go.Proofs.YtigbjhkkbgdkcaaGreatDoor

/-
  The walk through CondStar: it answers true and turns nothing that was there; lists and texts are no longer than the claim's first form allows, and the listed variables hold what their text lays.
-/
namespace Go.Proofs.YtigbjhkkbgdkcaaGreatDoor
open Go.RowKit

set_option maxHeartbeats 4000000 in
set_option maxRecDepth 100000 in
theorem walkCondStar (a0 : ByteArray) (a1 : Value) (l1 : List Fld) (a2 : Bool) (a3 : ByteArray) (a4 : Int) (w : World) (_z0 : a0.size ≤ 140737488351232) (z1 : Fl w a1 l1) (b1 : Slim l1) (z3 : a3.size ≤ 140737488351232) (_z4 : (Lit.int .i64 a4).wf = true) (hm : ∃ m, w.cell? ⟨2, 0, none⟩ = some (.int .i64 m)) (ht : DTabs w) :
    Calls Tryz.prog 5 #[.string a0, a1, .bool a2, .string a3, .int .i64 a4] w fun e w' => e = .returned (.bool true) ∧ Below w.heap.size w w' := by
  have HT : Hid (CoT w) := ⟨ht, hm⟩
  have HF : Hid (Fl w a1 l1) := z1
  have HBK : Hid (Slim l1) := b1
  have HBP : Hid (Slim (plain4 l1)) := b1.plain
  obtain ⟨ad, cap, hv, hnc, hcm, hcx⟩ := id z1
  subst hv
  unfold maxLen at hcm
  clear hcx ht hm z1
  have E1 := evr_im a0.data.toList l1 a2 a3.data.toList a4 [42] a2 (fun l h => mt_star a2 _ false h)
  have E2 := evr_inm a0.data.toList l1 a2 a3.data.toList a4 [42] a2 (fun l h => mt_star a2 _ true h)
  obtain ⟨r1, hr1⟩ : ∃ r, r = if a2 = true then (0 : Int) else 412 := ⟨_, rfl⟩
  obtain ⟨r2, hr2⟩ : ∃ r, r = if a2 = true then (if rdsB a0.data.toList = true then (304 : Int) else 412) else 0 := ⟨_, rfl⟩
  rw [← hr1] at E1
  rw [← hr2] at E2
  have H1 : Hid (EvR a0.data.toList (plain4 l1 ++ [((⟨#[73, 102, 45, 77, 97, 116, 99, 104]⟩ : ByteArray).data.toList, (⟨#[42]⟩ : ByteArray).data.toList)]) a2 a3.data.toList a4 r1) := E1
  have H2 : Hid (EvR a0.data.toList (plain4 l1 ++ [((⟨#[73, 102, 45, 78, 111, 110, 101, 45, 77, 97, 116, 99, 104]⟩ : ByteArray).data.toList, (⟨#[42]⟩ : ByteArray).data.toList)]) a2 a3.data.toList a4 r2) := E2
  have hcs : (a2 = true ∧ r1 = 0 ∧ (r2 = 304 ∨ r2 = 412)) ∨ (a2 = false ∧ r1 = 412 ∧ r2 = 0) := by
    rw [hr1, hr2]
    cases a2
    · exact .inr ⟨rfl, rfl, rfl⟩
    · refine .inl ⟨rfl, rfl, ?_⟩
      rw [if_pos rfl]; split <;> simp
  clear b1 E1 E2 hr1 hr2
  go_enter Tryz.func5, Tryz.ntmps5
  go_wp2_with fail
  refine (plainly_at _ l1 _ HF.out HBK.out.wide).mono ?_
  rintro e w1 ⟨v1, rfl, ho1, hb1⟩
  have HO : Hid (Own1 w1 v1 (plain4 l1)) := ho1
  have HB1 : Hid (Below w.heap.size w w1) := hb1
  clear ho1 hb1
  go_wp2_with fail
  refine (with_at v1 (plain4 l1) ⟨#[73, 102, 45, 77, 97, 116, 99, 104]⟩ ⟨#[42]⟩ _ HO.out (by have := HBP.out.2; omega)).mono ?_
  rintro e w2 ⟨v2, rfl, ho2, hb2⟩
  have HO2 : Hid (Own1 w2 v2 _) := ho2
  have HOP2 : Hid (Own1 w2 v1 (plain4 l1)) := HO.out.below hb2
  have HB2 : Hid (Below w.heap.size w w2) := HB1.out.trans (hb2.mono HB1.out.size)
  clear ho2 hb2 HO
  go_wp2_with fail
  refine (eval_at a0 v2 _ a2 a3 a4 r1 H1.out _ HO2.out.1 (evsz_one HBK.out _ _ (by decide) (by decide)) (by omega) (HT.out.below HB2.out)).mono ?_
  rintro e w3 ⟨rfl, hb3⟩
  have HO : Hid (Own1 w3 v1 (plain4 l1)) := HOP2.out.below hb3
  have HB3 : Hid (Below w.heap.size w w3) := HB2.out.trans (hb3.mono HB2.out.size)
  clear hb3 HO2 HOP2
  go_wp2_with fail
  refine (with_at v1 (plain4 l1) ⟨#[73, 102, 45, 78, 111, 110, 101, 45, 77, 97, 116, 99, 104]⟩ ⟨#[42]⟩ _ HO.out (by have := HBP.out.2; omega)).mono ?_
  rintro e w4 ⟨v4, rfl, ho4, hb4⟩
  have HO4 : Hid (Own1 w4 v4 _) := ho4
  have HOP4 : Hid (Own1 w4 v1 (plain4 l1)) := HO.out.below hb4
  have HB4 : Hid (Below w.heap.size w w4) := HB3.out.trans (hb4.mono HB3.out.size)
  clear ho4 hb4 HO
  go_wp2_with fail
  refine (eval_at a0 v4 _ a2 a3 a4 r2 H2.out _ HO4.out.1 (evsz_one HBK.out _ _ (by decide) (by decide)) (by omega) (HT.out.below HB4.out)).mono ?_
  rintro e w5 ⟨rfl, hb5⟩
  have HO : Hid (Own1 w5 v1 (plain4 l1)) := HOP4.out.below hb5
  have HB5 : Hid (Below w.heap.size w w5) := HB4.out.trans (hb5.mono HB4.out.size)
  clear hb5 HO4 HOP4
  rcases hcs with ⟨rfl, rfl, rfl | rfl⟩ | ⟨rfl, rfl, rfl⟩
  all_goals
    go_wp2_with fail
    go_ret
    exact ⟨by first | rfl | simp, HB5.out⟩
end Go.Proofs.YtigbjhkkbgdkcaaGreatDoor

/-
  What the form's own reach says of a list of fields that came in; no program is named here.
-/
namespace Go.Proofs.YtigbjhkkbgdkcaaGreatDoor
open Go.RowKit

theorem weights_fl {H : Type} {P : Program} {e : TypeId} {f0 f1 : Field} (he : P.underlying e = some (.struct #[f0, f1])) (y : Fld) : (fl1 (H := H) y).weights P e = [y.1.length, y.2.length] := by
  simp [fl1, DataW.weights, he, DataW.weightsEach]
theorem weights_all {H : Type} {P : Program} {e : TypeId} {f0 f1 : Field} (he : P.underlying e = some (.struct #[f0, f1])) (ls : List Fld) : ∀ y ∈ ls, y.1.length ∈ DataW.weightsAll P e (ls.map (fl1 (H := H))) ∧ y.2.length ∈ DataW.weightsAll P e (ls.map (fl1 (H := H))) := by
  induction ls with
  | nil => intro y hy; cases hy
  | cons a ls ih =>
    intro y hy
    rw [List.map_cons, DataW.weightsAll, weights_fl he]
    rcases List.mem_cons.1 hy with rfl | hy
    · simp
    · obtain ⟨h1, h2⟩ := ih y hy
      exact ⟨List.mem_append_right _ h1, List.mem_append_right _ h2⟩
theorem sized_slim {H : Type} {P : Program} {ts : List TypeId} {ds : List (DataW H)} (h : (DataW.weightsEach P ts ds).all (· ≤ reachBytes) = true) {j : Nat} {t e : TypeId} {f0 f1 : Field} {d : DataW H} {ls : List Fld} {sp : List (DataW H)}
    (ht : ts[j]? = some t) (hd : ds[j]? = some d) (hx : d = .nil ∧ ls = [] ∨ d = .slice (ls.map fl1) sp) (hu : P.underlying t = some (.slice e)) (he : P.underlying e = some (.struct #[f0, f1])) (hb : P.bytesOf e = 32) : Slim ls := by
  rcases hx with ⟨_, rfl⟩ | rfl
  · exact ⟨fun x hx => (by cases hx), by simp⟩
  · have hall : ∀ n ∈ (DataW.slice (ls.map fl1) sp).weights P t, n ≤ reachBytes := fun n hn => by
      have := List.all_eq_true.1 h n (DataW.weights_mem_each ht hd n hn)
      simpa using this
    have ew : (DataW.slice (ls.map fl1) sp).weights P t = ((ls.map (fl1 (H := H))).length + sp.length) * P.bytesOf e :: (DataW.weightsAll P e (ls.map (fl1 (H := H))) ++ DataW.weightsAll P e sp) := by
      simp [DataW.weights, hu]
    rw [ew] at hall
    refine ⟨fun x hx => ?_, ?_⟩
    · obtain ⟨h1, h2⟩ := weights_all (H := H) he ls x hx
      exact ⟨hall _ (List.mem_cons_of_mem _ (List.mem_append_left _ h1)), hall _ (List.mem_cons_of_mem _ (List.mem_append_left _ h2))⟩
    · have := hall _ (List.mem_cons_self ..)
      rw [hb, List.length_map] at this
      have hr : reachBytes = 140737488351232 := rfl
      rw [hr] at this
      omega
theorem sized_fl {H : Type} {P : Program} {ts : List TypeId} {ds : List (DataW H)} (h : (DataW.weightsEach P ts ds).all (· ≤ reachBytes) = true) {j : Nat} {t e : TypeId} {f0 f1 : Field} {d : DataW H} {ls : List Fld} {sp : List (DataW H)}
    (ht : ts[j]? = some t) (hd : ds[j]? = some d) (hx : d = .nil ∧ ls = [] ∨ d = .slice (ls.map fl1) sp) (hu : P.underlying t = some (.slice e)) (he : P.underlying e = some (.struct #[f0, f1])) (hb : P.bytesOf e = 32) : Wide ls := (sized_slim h ht hd hx hu he hb).wide
end Go.Proofs.YtigbjhkkbgdkcaaGreatDoor

/-
  What Print of package etag computes.
-/
namespace Go.Proofs.YtigbjhkkbgdkcaaGreatDoor
open Go.RowKit

set_option maxHeartbeats 1000000 in
set_option maxRecDepth 100000 in
theorem eprint_at (k : Bool) (x s : ByteArray) (c : Int) (h : prE (k, x.data.toList) = (s.data.toList, c)) (w : World) :
    Calls Tryz.prog 13 #[.agg #[.bool k, .string x]] w fun e w' => e = .returned (.tuple #[.string s, .int .i64 c]) ∧ Below w.heap.size w w' := by
  have hw0 : Below w.heap.size w (w.alloc (.cells #[.bool k, .string x] 30)) := (Below.refl _ w).alloc (Nat.le_refl _) _
  rw [prE_ch] at h
  by_cases hc : chE x.data.toList = 0
  · have HC : Hid (chE x.data.toList = 0) := hc
    rw [if_pos hc] at h
    obtain ⟨h1, h2⟩ := Prod.mk.inj h
    obtain rfl : (0 : Int) = c := h2
    have hx : x.size ≤ 100 := by
      rw [← size_list]
      unfold chE at hc
      by_cases hl : 100 < x.data.toList.length
      · rw [if_pos hl] at hc; cases hc
      · omega
    clear hc h
    have hz1 : ¬ 9223372036854775807 < 1 + x.size := by omega
    have hz2 : ¬ 9223372036854775807 < 1 + x.size + 1 := by omega
    cases k
    · have HR : Hid ((⟨#[34]⟩ : ByteArray) ++ x ++ ⟨#[34]⟩ = s) := by
        show _ = _
        apply ByteArray.ext; apply Array.ext'
        rw [← h1, ByteArray.data_append, Array.toList_append, ByteArray.data_append, Array.toList_append]
        simp [prG]
      clear h1
      go_enter Tryz.func13, Tryz.ntmps13
      go_wp2_with fail
      refine (echeck_is x 0 HC.out _).mono ?_
      rintro e w1 ⟨rfl, rfl⟩
      go_wp2_with fail
      go_ret2
      rw [HR.out]
      exact ⟨rfl, hw0⟩
    · have HR : Hid ((⟨#[87, 47]⟩ : ByteArray) ++ (⟨#[34]⟩ ++ x ++ ⟨#[34]⟩) = s) := by
        show _ = _
        apply ByteArray.ext; apply Array.ext'
        rw [← h1, ByteArray.data_append, Array.toList_append, ByteArray.data_append, Array.toList_append, ByteArray.data_append, Array.toList_append]
        simp [prG]
      have hz3 : ¬ 9223372036854775807 < 2 + (1 + x.size + 1) := by omega
      clear h1
      go_enter Tryz.func13, Tryz.ntmps13
      go_wp2_with fail
      refine (echeck_is x 0 HC.out _).mono ?_
      rintro e w1 ⟨rfl, rfl⟩
      go_wp2_with fail
      go_ret2
      rw [HR.out]
      exact ⟨rfl, hw0⟩
  · have hcb : (chE x.data.toList != 0) = true := by simpa using hc
    rw [if_neg hc] at h
    obtain ⟨h1, h2⟩ := Prod.mk.inj h
    have HC : Hid (chE x.data.toList = c) := h2
    rw [show chE x.data.toList = c from h2] at hcb
    obtain rfl : (⟨#[]⟩ : ByteArray) = s := by apply ByteArray.ext; apply Array.ext'; exact h1
    clear h h1 h2 hc
    go_enter Tryz.func13, Tryz.ntmps13
    go_wp2_with fail
    refine (echeck_is x c HC.out _).mono ?_
    rintro e w1 ⟨rfl, rfl⟩
    go_wp2_with fail
    go_ret2
    exact ⟨rfl, hw0⟩
end Go.Proofs.YtigbjhkkbgdkcaaGreatDoor

/-
  The walk through CondMine: it answers true and turns nothing that was there; lists and texts are no longer than the claim's first form allows, and the listed variables hold what their text lays.
-/
namespace Go.Proofs.YtigbjhkkbgdkcaaGreatDoor
open Go.RowKit

set_option maxHeartbeats 4000000 in
set_option maxRecDepth 100000 in
theorem walkCondMine (a0 : ByteArray) (a1 : Value) (l1 : List Fld) (b2 : Bool) (a2 : ByteArray) (a3 : Int) (w : World) (_z0 : a0.size ≤ 140737488351232) (z1 : Fl w a1 l1) (b1 : Slim l1) (_z2 : a2.size ≤ maxLen) (_z3 : (Lit.int .i64 a3).wf = true) (hm : ∃ m, w.cell? ⟨2, 0, none⟩ = some (.int .i64 m)) (ht : DTabs w) :
    Calls Tryz.prog 6 #[.string a0, a1, .agg #[.bool b2, .string a2], .int .i64 a3] w fun e w' => e = .returned (.bool true) ∧ Below w.heap.size w w' := by
  have HT : Hid (CoT w) := ⟨ht, hm⟩
  have HF : Hid (Fl w a1 l1) := z1
  have HBK : Hid (Slim l1) := b1
  have HBP : Hid (Slim (plain4 l1)) := b1.plain
  obtain ⟨ad, cap, hv, hnc, hcm, hcx⟩ := id z1
  subst hv
  unfold maxLen at hcm
  clear hcx ht hm z1
  obtain ⟨s, c, hp⟩ := pair_bi (prE (b2, a2.data.toList))
  have HP : Hid (prE (b2, a2.data.toList) = (s.data.toList, c)) := hp
  have hsl : s.size ≤ 104 := pr_small hp
  have HSL : Hid (s.data.toList.length ≤ 104) := by show _ ≤ _; rw [size_list]; exact hsl
  have fin : ∀ W, Below (w.heap.size + 1) (w.alloc (.cells #[.bool b2, .string a2] 30)) W → W.cell? ⟨w.heap.size, 0, none⟩ = some (.bool b2) ∧ W.cell? ⟨w.heap.size, 1, none⟩ = some (.string a2) ∧ Below w.heap.size w W ∧ w.heap.size + 1 ≤ W.heap.size := box_below w _ _ _
  have HS : Hid (∀ W, Below (w.heap.size + 1) (w.alloc (.cells #[.bool b2, .string a2] 30)) W → W.cell? ⟨w.heap.size, 0, none⟩ = some (.bool b2) ∧ W.cell? ⟨w.heap.size, 1, none⟩ = some (.string a2) ∧ Below w.heap.size w W ∧ w.heap.size + 1 ≤ W.heap.size) := fin
  have HBAD : Hid (¬ c = 0 → s = ⟨#[]⟩) := by
    intro h
    have := prE_bad (b2, a2.data.toList) (by rw [hp]; exact h)
    rw [hp] at this
    apply ByteArray.ext; apply Array.ext'; exact this
  have hmt : (rdsB a0.data.toList = true ∧ (a0.toList == [71, 69, 84]) = true) ∨ (rdsB a0.data.toList = true ∧ (a0.toList == [71, 69, 84]) = false ∧ (a0.toList == [72, 69, 65, 68]) = true) ∨ (rdsB a0.data.toList = false ∧ (a0.toList == [71, 69, 84]) = false ∧ (a0.toList == [72, 69, 65, 68]) = false) := by
    rw [← ByteArray.toList_eq]
    unfold rdsB
    cases (a0.toList == [71, 69, 84]) <;> cases (a0.toList == [72, 69, 65, 68]) <;> simp
  have HGOOD : Hid (c = 0 → EvR a0.data.toList (plain4 l1 ++ [((⟨#[73, 102, 45, 78, 111, 110, 101, 45, 77, 97, 116, 99, 104]⟩ : ByteArray).data.toList, s.data.toList)]) true s.data.toList a3 (if rdsB a0.data.toList = true then 304 else 412) ∧
      EvR a0.data.toList (plain4 l1 ++ [((⟨#[73, 102, 45, 77, 97, 116, 99, 104]⟩ : ByteArray).data.toList, s.data.toList)]) true s.data.toList a3 (if b2 = true then 412 else 0) ∧
      EvR a0.data.toList (plain4 l1 ++ [((⟨#[73, 102, 45, 77, 97, 116, 99, 104]⟩ : ByteArray).data.toList, s.data.toList)]) false (⟨#[]⟩ : ByteArray).data.toList a3 412) := by
    intro h
    have hc : (prE (b2, a2.data.toList)).2 = 0 := by rw [hp]; exact h
    have hk := paE_back _ hc
    rw [hp] at hk
    obtain ⟨h2, _, _⟩ := prE_ok _ hc
    rw [hp] at h2
    have hs : s.data.toList = prG (b2, a2.data.toList) := (Prod.mk.inj h2).1
    obtain ⟨m1, m2⟩ := hit_mine (b2, a2.data.toList)
    have hk' : paE s.data.toList = ((b2, a2.data.toList), 0) := hk
    refine ⟨?_, ?_, ?_⟩
    · exact evr_inm a0.data.toList l1 true s.data.toList a3 s.data.toList true (fun l hl => by rw [mt_one true s.data.toList true (b2, a2.data.toList) hc (by rw [hl, hs]), hk', m1])
    · have := evr_im a0.data.toList l1 true s.data.toList a3 s.data.toList (!b2) (fun l hl => by rw [mt_one true s.data.toList false (b2, a2.data.toList) hc (by rw [hl, hs]), hk', m2])
      cases b2 <;> exact this
    · have := evr_im a0.data.toList l1 false [] a3 s.data.toList false (fun l hl => by
        rw [mt_one false [] false (b2, a2.data.toList) hc (by rw [hl, hs])]
        unfold hitT; simp)
      exact this
  clear b1 hp fin
  go_enter Tryz.func6, Tryz.ntmps6
  go_wp2_with fail
  refine (eprint_at b2 a2 s c HP.out _).mono ?_
  rintro e w1 ⟨rfl, hb1⟩
  have HB1 : Hid (Below (w.heap.size + 1) (w.alloc (.cells #[.bool b2, .string a2] 30)) w1) := hb1.mono (by simp)
  clear hb1
  go_wp2_with fail
  refine (eval_at ⟨#[80, 85, 84]⟩ _ [(sIM, [42])] false ⟨#[]⟩ 0 412 evr_put _ (Fl.lit1 ⟨#[73, 102, 45, 77, 97, 116, 99, 104]⟩ ⟨#[42]⟩ _ _) (evsz_put sIM [42] (by decide) (by decide)) (by decide) ((HT.out.below (HS.out _ HB1.out).2.2.1).below ((Below.refl _ _).alloc (Nat.le_refl _) _))).mono ?_
  rintro e w3 ⟨rfl, hb3⟩
  have HB3 : Hid (Below (w.heap.size + 1) (w.alloc (.cells #[.bool b2, .string a2] 30)) w3) := HB1.out.trans (((Below.refl _ w1).alloc (Nat.le_refl _) _).trans (hb3.mono (by simp)) |>.mono (HS.out _ HB1.out).2.2.2)
  clear hb3
  by_cases hc : c = 0
  · obtain ⟨e1, e2, e3⟩ := HGOOD.out hc
    obtain ⟨r1, hr1⟩ : ∃ r, r = if rdsB a0.data.toList = true then (304 : Int) else 412 := ⟨_, rfl⟩
    obtain ⟨r2, hr2⟩ : ∃ r, r = if b2 = true then (412 : Int) else 0 := ⟨_, rfl⟩
    rw [← hr1] at e1
    rw [← hr2] at e2
    have H1 : Hid (EvR a0.data.toList (plain4 l1 ++ [((⟨#[73, 102, 45, 78, 111, 110, 101, 45, 77, 97, 116, 99, 104]⟩ : ByteArray).data.toList, s.data.toList)]) true s.data.toList a3 r1) := e1
    have H2 : Hid (EvR a0.data.toList (plain4 l1 ++ [((⟨#[73, 102, 45, 77, 97, 116, 99, 104]⟩ : ByteArray).data.toList, s.data.toList)]) true s.data.toList a3 r2) := e2
    have H3 : Hid (EvR a0.data.toList (plain4 l1 ++ [((⟨#[73, 102, 45, 77, 97, 116, 99, 104]⟩ : ByteArray).data.toList, s.data.toList)]) false (⟨#[]⟩ : ByteArray).data.toList a3 412) := e3
    have hcs : (r1 = 304 ∧ (a0.toList == [71, 69, 84]) = true) ∨ (r1 = 304 ∧ (a0.toList == [71, 69, 84]) = false ∧ (a0.toList == [72, 69, 65, 68]) = true) ∨ (r1 = 412 ∧ (a0.toList == [71, 69, 84]) = false ∧ (a0.toList == [72, 69, 65, 68]) = false) := by
      rw [hr1]
      rcases hmt with ⟨h, h3⟩ | ⟨h, h3, h4⟩ | ⟨h, h3, h4⟩
      · rw [h]; exact .inl ⟨rfl, h3⟩
      · rw [h]; exact .inr (.inl ⟨rfl, h3, h4⟩)
      · rw [h]; exact .inr (.inr ⟨rfl, h3, h4⟩)
    have hcb : (b2 = true ∧ r2 = 412) ∨ (b2 = false ∧ r2 = 0) := by
      rw [hr2]; cases b2
      · exact .inr ⟨rfl, rfl⟩
      · exact .inl ⟨rfl, rfl⟩
    subst hc
    clear e1 e2 e3 hr1 hr2 hmt HGOOD HBAD
    go_wp2_with fail
    refine (plainly_at _ l1 _ (HF.out.below (HS.out _ HB3.out).2.2.1) HBK.out.wide).mono ?_
    rintro e w4 ⟨v4, rfl, ho4, hb4⟩
    have HO : Hid (Own1 w4 v4 (plain4 l1)) := ho4
    have HB4 : Hid (Below (w.heap.size + 1) (w.alloc (.cells #[.bool b2, .string a2] 30)) w4) := HB3.out.trans (hb4.mono (HS.out _ HB3.out).2.2.2)
    clear ho4 hb4
    go_wp2_with fail
    refine (with_at v4 (plain4 l1) ⟨#[73, 102, 45, 78, 111, 110, 101, 45, 77, 97, 116, 99, 104]⟩ s _ HO.out (by have := HBP.out.2; omega)).mono ?_
    rintro e w5 ⟨v5, rfl, ho5, hb5⟩
    have HO5 : Hid (Own1 w5 v5 _) := ho5
    have HOP5 : Hid (Own1 w5 v4 (plain4 l1)) := HO.out.below hb5
    have HB5 : Hid (Below (w.heap.size + 1) (w.alloc (.cells #[.bool b2, .string a2] 30)) w5) := HB4.out.trans (hb5.mono (HS.out _ HB4.out).2.2.2)
    clear ho5 hb5 HO
    go_wp2_with fail
    refine (eval_at a0 v5 _ true s a3 r1 H1.out _ HO5.out.1 (evsz_one HBK.out _ _ (by decide) (by have := HSL.out; omega)) (by omega) (HT.out.below (HS.out _ HB5.out).2.2.1)).mono ?_
    rintro e w6 ⟨rfl, hb6⟩
    have HO : Hid (Own1 w6 v4 (plain4 l1)) := HOP5.out.below hb6
    have HB6 : Hid (Below (w.heap.size + 1) (w.alloc (.cells #[.bool b2, .string a2] 30)) w6) := HB5.out.trans (hb6.mono (HS.out _ HB5.out).2.2.2)
    clear hb6 HO5 HOP5
    go_wp2_with fail
    refine (with_at v4 (plain4 l1) ⟨#[73, 102, 45, 77, 97, 116, 99, 104]⟩ s _ HO.out (by have := HBP.out.2; omega)).mono ?_
    rintro e w7 ⟨v7, rfl, ho7, hb7⟩
    have HO7 : Hid (Own1 w7 v7 _) := ho7
    have HOP7 : Hid (Own1 w7 v4 (plain4 l1)) := HO.out.below hb7
    have HB7 : Hid (Below (w.heap.size + 1) (w.alloc (.cells #[.bool b2, .string a2] 30)) w7) := HB6.out.trans (hb7.mono (HS.out _ HB6.out).2.2.2)
    clear ho7 hb7 HO
    go_wp2_with fail
    refine (eval_at a0 v7 _ true s a3 r2 H2.out _ HO7.out.1 (evsz_one HBK.out _ _ (by decide) (by have := HSL.out; omega)) (by omega) (HT.out.below (HS.out _ HB7.out).2.2.1)).mono ?_
    rintro e w8 ⟨rfl, hb8⟩
    have HO : Hid (Own1 w8 v4 (plain4 l1)) := HOP7.out.below hb8
    have HB8 : Hid (Below (w.heap.size + 1) (w.alloc (.cells #[.bool b2, .string a2] 30)) w8) := HB7.out.trans (hb8.mono (HS.out _ HB7.out).2.2.2)
    clear hb8 HO7 HOP7
    go_wp2_with fail
    refine (with_at v4 (plain4 l1) ⟨#[73, 102, 45, 77, 97, 116, 99, 104]⟩ s _ HO.out (by have := HBP.out.2; omega)).mono ?_
    rintro e w9 ⟨v9, rfl, ho9, hb9⟩
    have HO9 : Hid (Own1 w9 v9 _) := ho9
    have HOP9 : Hid (Own1 w9 v4 (plain4 l1)) := HO.out.below hb9
    have HB9 : Hid (Below (w.heap.size + 1) (w.alloc (.cells #[.bool b2, .string a2] 30)) w9) := HB8.out.trans (hb9.mono (HS.out _ HB8.out).2.2.2)
    clear ho9 hb9 HO
    go_wp2_with fail
    refine (eval_at a0 v9 _ false ⟨#[]⟩ a3 412 H3.out _ HO9.out.1 (evsz_one HBK.out _ _ (by decide) (by have := HSL.out; omega)) (by decide) (HT.out.below (HS.out _ HB9.out).2.2.1)).mono ?_
    rintro e w10 ⟨rfl, hb10⟩
    have HO : Hid (Own1 w10 v4 (plain4 l1)) := HOP9.out.below hb10
    have HB10 : Hid (Below (w.heap.size + 1) (w.alloc (.cells #[.bool b2, .string a2] 30)) w10) := HB9.out.trans (hb10.mono (HS.out _ HB9.out).2.2.2)
    clear hb10 HO9 HOP9
    obtain ⟨f0, f1, _, _⟩ := HS.out _ HB10.out
    rcases hcs with ⟨rfl, h3⟩ | ⟨rfl, h3, h4⟩ | ⟨rfl, h3, h4⟩
    all_goals
      rcases hcb with ⟨rfl, rfl⟩ | ⟨rfl, rfl⟩
    all_goals
      go_wp2_with fail
      go_ret
      exact ⟨by first | rfl | simp, (HS.out _ HB10.out).2.2.1⟩
  · have hcn : (c != 0) = true := by simpa using hc
    obtain rfl := HBAD.out hc
    go_wp2_with fail
    go_ret
    exact ⟨rfl, (HS.out _ HB3.out).2.2.1⟩
end Go.Proofs.YtigbjhkkbgdkcaaGreatDoor

/-
  What Print of package date computes, as a relation.
-/
namespace Go.Proofs.YtigbjhkkbgdkcaaGreatDoor
open Go.RowKit

theorem dprint_at (n : Int) (w : World) (ht : DTabs w) :
    Calls Tryz.prog 14 #[.int .i64 n] w fun e w' => ∃ (d : ByteArray) (c : Int), e = .returned (.tuple #[.string d, .int .i64 c]) ∧ ((c = 0 ∧ IsDT d.data.toList n) ∨ (c ≠ 0 ∧ d = ⟨#[]⟩ ∧ (n < 0 ∨ 253402300799 < n))) ∧ Below w.heap.size w w' := by
  by_cases h : n < 0 ∨ 253402300799 < n
  · refine (dprint_no n w h).mono ?_
    rintro e w' ⟨rfl, rfl⟩
    exact ⟨⟨#[]⟩, 1, rfl, .inr ⟨by decide, rfl, h⟩, Below.refl _ _⟩
  · refine (dprint_yes n w (by omega) (by omega) ht).mono ?_
    rintro e w' ⟨y, m, d, rfl, hv, hn, hb⟩
    exact ⟨⟨(dtext n y m d).toArray⟩, 0, rfl, .inl ⟨rfl, by omega, by omega, y, m, d, hv, hn, rfl⟩, hb⟩
end Go.Proofs.YtigbjhkkbgdkcaaGreatDoor

/-
  The walk through CondFirst: it answers true and turns nothing that was there; lists and texts are no longer than the claim's first form allows, and the listed variables hold what their text lays.
-/
namespace Go.Proofs.YtigbjhkkbgdkcaaGreatDoor
open Go.RowKit

set_option maxHeartbeats 4000000 in
set_option maxRecDepth 100000 in
theorem walkCondFirst (a0 : ByteArray) (a1 : Value) (l1 : List Fld) (a2 : Bool) (a3 : ByteArray) (a4 a5 : Int) (b6 : Bool) (a6 : ByteArray) (w : World) (_z0 : a0.size ≤ 140737488351232) (z1 : Fl w a1 l1) (b1 : Slim l1) (z3 : a3.size ≤ 140737488351232) (_z4 : (Lit.int .i64 a4).wf = true) (_z5 : (Lit.int .i64 a5).wf = true) (_z6 : a6.size ≤ maxLen) (hm : ∃ m, w.cell? ⟨2, 0, none⟩ = some (.int .i64 m)) (ht : DTabs w) :
    Calls Tryz.prog 7 #[.string a0, a1, .bool a2, .string a3, .int .i64 a4, .int .i64 a5, .agg #[.bool b6, .string a6]] w fun e w' => e = .returned (.bool true) ∧ Below w.heap.size w w' := by
  have HT : Hid (CoT w) := ⟨ht, hm⟩
  have HF : Hid (Fl w a1 l1) := z1
  have HBK : Hid (Slim l1) := b1
  have HBP : Hid (Slim (plain4 l1)) := b1.plain
  obtain ⟨ad, cap, hv, hnc, hcm, hcx⟩ := id z1
  subst hv
  unfold maxLen at hcm
  clear hcx ht hm z1
  obtain ⟨s, c, hp⟩ := pair_bi (prE (b6, a6.data.toList))
  have HP : Hid (prE (b6, a6.data.toList) = (s.data.toList, c)) := hp
  have hsl : s.size ≤ 104 := pr_small hp
  have HSL : Hid (s.data.toList.length ≤ 104) := by show _ ≤ _; rw [size_list]; exact hsl
  have hbad : ¬ c = 0 → s = ⟨#[]⟩ := by
    intro h
    have := prE_bad (b6, a6.data.toList) (by rw [hp]; exact h)
    rw [hp] at this
    apply ByteArray.ext; apply Array.ext'; exact this
  obtain ⟨r1, hr1⟩ := EvR.ex a0.data.toList (plain4 l1 ++ [((⟨#[73, 102, 45, 78, 111, 110, 101, 45, 77, 97, 116, 99, 104]⟩ : ByteArray).data.toList, s.data.toList)]) a2 a3.data.toList a4
  obtain ⟨r2, hr2⟩ := EvR.ex a0.data.toList (plain4 l1 ++ [((⟨#[73, 102, 45, 77, 97, 116, 99, 104]⟩ : ByteArray).data.toList, s.data.toList)]) a2 a3.data.toList a4
  have H1 : Hid (EvR a0.data.toList (plain4 l1 ++ [((⟨#[73, 102, 45, 78, 111, 110, 101, 45, 77, 97, 116, 99, 104]⟩ : ByteArray).data.toList, s.data.toList)]) a2 a3.data.toList a4 r1) := hr1
  have H2 : Hid (EvR a0.data.toList (plain4 l1 ++ [((⟨#[73, 102, 45, 77, 97, 116, 99, 104]⟩ : ByteArray).data.toList, s.data.toList)]) a2 a3.data.toList a4 r2) := hr2
  have HMORE : Hid (c = 0 → ∀ d : ByteArray, EvR a0.data.toList ((plain4 l1 ++ [((⟨#[73, 102, 45, 78, 111, 110, 101, 45, 77, 97, 116, 99, 104]⟩ : ByteArray).data.toList, s.data.toList)]) ++ [((⟨#[73, 102, 45, 77, 111, 100, 105, 102, 105, 101, 100, 45, 83, 105, 110, 99, 101]⟩ : ByteArray).data.toList, d.data.toList)]) a2 a3.data.toList a4 r1 ∧ EvR a0.data.toList ((plain4 l1 ++ [((⟨#[73, 102, 45, 77, 97, 116, 99, 104]⟩ : ByteArray).data.toList, s.data.toList)]) ++ [((⟨#[73, 102, 45, 85, 110, 109, 111, 100, 105, 102, 105, 101, 100, 45, 83, 105, 110, 99, 101]⟩ : ByteArray).data.toList, d.data.toList)]) a2 a3.data.toList a4 r2) := by
    intro h d
    have hc : (prE (b6, a6.data.toList)).2 = 0 := by rw [hp]; exact h
    obtain ⟨h2, _, _⟩ := prE_ok _ hc
    rw [hp] at h2
    have hs : s.data.toList = prG (b6, a6.data.toList) := (Prod.mk.inj h2).1
    obtain ⟨v1, v2, _, _⟩ := vals_plain l1
    refine ⟨?_, ?_⟩
    · exact evr_more2 _ _ _ _ _ d.data.toList r1 _ (mt_one a2 a3.data.toList true (b6, a6.data.toList) hc (by rw [← hs]; exact (vals_with_same (plain4 l1) sINM s.data.toList sINM rfl).trans (by rw [v2]; rfl))) hr1
    · exact evr_more1 _ _ _ _ _ d.data.toList r2 _ (mt_one a2 a3.data.toList false (b6, a6.data.toList) hc (by rw [← hs]; exact (vals_with_same (plain4 l1) sIM s.data.toList sIM rfl).trans (by rw [v1]; rfl))) hr2
  clear b1 hp hr1 hr2
  go_enter Tryz.func7, Tryz.ntmps7
  go_wp2_with fail
  refine (eprint_at b6 a6 s c HP.out _).mono ?_
  rintro e w1 ⟨rfl, hb1⟩
  have HB1 : Hid (Below w.heap.size w w1) := ((Below.refl _ w).alloc (Nat.le_refl _) _).trans (hb1.mono (by simp))
  clear hb1
  go_wp2_with fail
  refine (dprint_at a5 _ (HT.out.below HB1.out).1).mono ?_
  rintro e w2 ⟨d, f, rfl, hd, hb2⟩
  have HB2 : Hid (Below w.heap.size w w2) := HB1.out.trans (hb2.mono HB1.out.size)
  clear hb2
  go_wp2_with fail
  refine (eval_at ⟨#[80, 85, 84]⟩ _ [(sIM, [42])] false ⟨#[]⟩ 0 412 evr_put _ (Fl.lit1 ⟨#[73, 102, 45, 77, 97, 116, 99, 104]⟩ ⟨#[42]⟩ _ _) (evsz_put sIM [42] (by decide) (by decide)) (by decide) ((HT.out.below HB2.out).below ((Below.refl _ _).alloc (Nat.le_refl _) _))).mono ?_
  rintro e w3 ⟨rfl, hb3⟩
  have HB3 : Hid (Below w.heap.size w w3) := HB2.out.trans ((((Below.refl _ w2).alloc (Nat.le_refl _) _).trans (hb3.mono (by simp))).mono HB2.out.size)
  clear hb3
  by_cases hc : c = 0 ∧ f = 0
  · obtain ⟨rfl, rfl⟩ := hc
    obtain ⟨e1, e2⟩ := HMORE.out rfl d
    have H3 : Hid (EvR a0.data.toList ((plain4 l1 ++ [((⟨#[73, 102, 45, 78, 111, 110, 101, 45, 77, 97, 116, 99, 104]⟩ : ByteArray).data.toList, s.data.toList)]) ++ [((⟨#[73, 102, 45, 77, 111, 100, 105, 102, 105, 101, 100, 45, 83, 105, 110, 99, 101]⟩ : ByteArray).data.toList, d.data.toList)]) a2 a3.data.toList a4 r1) := e1
    have H4 : Hid (EvR a0.data.toList ((plain4 l1 ++ [((⟨#[73, 102, 45, 77, 97, 116, 99, 104]⟩ : ByteArray).data.toList, s.data.toList)]) ++ [((⟨#[73, 102, 45, 85, 110, 109, 111, 100, 105, 102, 105, 101, 100, 45, 83, 105, 110, 99, 101]⟩ : ByteArray).data.toList, d.data.toList)]) a2 a3.data.toList a4 r2) := e2
    have HDL : Hid (d.data.toList.length ≤ 29) := by
      rcases hd with ⟨_, h⟩ | ⟨h, _⟩
      · exact Nat.le_of_eq (dt_len h)
      · exact absurd rfl h
    clear hd e1 e2 HMORE hbad
    go_wp2_with fail
    refine (plainly_at _ l1 _ (HF.out.below HB3.out) HBK.out.wide).mono ?_
    rintro e w4 ⟨v4, rfl, ho4, hb4⟩
    have HO : Hid (Own1 w4 v4 (plain4 l1)) := ho4
    have HB4 : Hid (Below w.heap.size w w4) := HB3.out.trans (hb4.mono HB3.out.size)
    clear ho4 hb4
    go_wp2_with fail
    refine (with_at v4 (plain4 l1) ⟨#[73, 102, 45, 78, 111, 110, 101, 45, 77, 97, 116, 99, 104]⟩ s _ HO.out (by have := HBP.out.2; omega)).mono ?_
    rintro e w5 ⟨v5, rfl, ho5, hb5⟩
    have HA : Hid (Own1 w5 v5 _) := ho5
    have HOn : Hid (Own1 w5 v4 (plain4 l1)) := HO.out.below hb5
    have HB5 : Hid (Below w.heap.size w w5) := HB4.out.trans (hb5.mono HB4.out.size)
    clear ho5 hb5 HO
    go_wp2_with fail
    refine (with_at v4 (plain4 l1) ⟨#[73, 102, 45, 77, 97, 116, 99, 104]⟩ s _ HOn.out (by have := HBP.out.2; omega)).mono ?_
    rintro e w6 ⟨v6, rfl, ho6, hb6⟩
    have HC : Hid (Own1 w6 v6 _) := ho6
    have HOnn : Hid (Own1 w6 v4 (plain4 l1)) := HOn.out.below hb6
    have HAn : Hid (Own1 w6 v5 (plain4 l1 ++ [((⟨#[73, 102, 45, 78, 111, 110, 101, 45, 77, 97, 116, 99, 104]⟩ : ByteArray).data.toList, s.data.toList)])) := HA.out.below hb6
    have HB6 : Hid (Below w.heap.size w w6) := HB5.out.trans (hb6.mono HB5.out.size)
    clear ho6 hb6 HOn HA
    go_wp2_with fail
    refine (eval_at a0 v5 _ a2 a3 a4 r1 H1.out _ HAn.out.1 (evsz_one HBK.out _ _ (by decide) (by have := HSL.out; omega)) (by omega) (HT.out.below HB6.out)).mono ?_
    rintro e w7 ⟨rfl, hb7⟩
    have HAnn : Hid (Own1 w7 v5 (plain4 l1 ++ [((⟨#[73, 102, 45, 78, 111, 110, 101, 45, 77, 97, 116, 99, 104]⟩ : ByteArray).data.toList, s.data.toList)])) := HAn.out.below hb7
    have HCn : Hid (Own1 w7 v6 (plain4 l1 ++ [((⟨#[73, 102, 45, 77, 97, 116, 99, 104]⟩ : ByteArray).data.toList, s.data.toList)])) := HC.out.below hb7
    have HB7 : Hid (Below w.heap.size w w7) := HB6.out.trans (hb7.mono HB6.out.size)
    clear hb7 HAn HC
    go_wp2_with fail
    refine (with_at v5 (plain4 l1 ++ [((⟨#[73, 102, 45, 78, 111, 110, 101, 45, 77, 97, 116, 99, 104]⟩ : ByteArray).data.toList, s.data.toList)]) ⟨#[73, 102, 45, 77, 111, 100, 105, 102, 105, 101, 100, 45, 83, 105, 110, 99, 101]⟩ d _ HAnn.out (by have := HBP.out.2; rw [List.length_append]; simp; omega)).mono ?_
    rintro e w8 ⟨v8, rfl, ho8, hb8⟩
    have HE : Hid (Own1 w8 v8 _) := ho8
    have HAnnn : Hid (Own1 w8 v5 (plain4 l1 ++ [((⟨#[73, 102, 45, 78, 111, 110, 101, 45, 77, 97, 116, 99, 104]⟩ : ByteArray).data.toList, s.data.toList)])) := HAnn.out.below hb8
    have HCnn : Hid (Own1 w8 v6 (plain4 l1 ++ [((⟨#[73, 102, 45, 77, 97, 116, 99, 104]⟩ : ByteArray).data.toList, s.data.toList)])) := HCn.out.below hb8
    have HB8 : Hid (Below w.heap.size w w8) := HB7.out.trans (hb8.mono HB7.out.size)
    clear ho8 hb8 HAnn HCn
    go_wp2_with fail
    refine (eval_at a0 v8 _ a2 a3 a4 r1 H3.out _ HE.out.1 (evsz_two HBK.out _ _ _ _ (by decide) (by have := HSL.out; omega) (by decide) (by have := HDL.out; omega)) (by omega) (HT.out.below HB8.out)).mono ?_
    rintro e w9 ⟨rfl, hb9⟩
    have HCnnn : Hid (Own1 w9 v6 (plain4 l1 ++ [((⟨#[73, 102, 45, 77, 97, 116, 99, 104]⟩ : ByteArray).data.toList, s.data.toList)])) := HCnn.out.below hb9
    have HB9 : Hid (Below w.heap.size w w9) := HB8.out.trans (hb9.mono HB8.out.size)
    clear hb9 HCnn
    go_wp2_with fail
    refine (eval_at a0 v6 _ a2 a3 a4 r2 H2.out _ HCnnn.out.1 (evsz_one HBK.out _ _ (by decide) (by have := HSL.out; omega)) (by omega) (HT.out.below HB9.out)).mono ?_
    rintro e w10 ⟨rfl, hb10⟩
    have HCnnnn : Hid (Own1 w10 v6 (plain4 l1 ++ [((⟨#[73, 102, 45, 77, 97, 116, 99, 104]⟩ : ByteArray).data.toList, s.data.toList)])) := HCnnn.out.below hb10
    have HB10 : Hid (Below w.heap.size w w10) := HB9.out.trans (hb10.mono HB9.out.size)
    clear hb10 HCnnn
    go_wp2_with fail
    refine (with_at v6 (plain4 l1 ++ [((⟨#[73, 102, 45, 77, 97, 116, 99, 104]⟩ : ByteArray).data.toList, s.data.toList)]) ⟨#[73, 102, 45, 85, 110, 109, 111, 100, 105, 102, 105, 101, 100, 45, 83, 105, 110, 99, 101]⟩ d _ HCnnnn.out (by have := HBP.out.2; rw [List.length_append]; simp; omega)).mono ?_
    rintro e w11 ⟨v11, rfl, ho11, hb11⟩
    have HG : Hid (Own1 w11 v11 _) := ho11
    have HCnnnnn : Hid (Own1 w11 v6 (plain4 l1 ++ [((⟨#[73, 102, 45, 77, 97, 116, 99, 104]⟩ : ByteArray).data.toList, s.data.toList)])) := HCnnnn.out.below hb11
    have HB11 : Hid (Below w.heap.size w w11) := HB10.out.trans (hb11.mono HB10.out.size)
    clear ho11 hb11 HCnnnn
    go_wp2_with fail
    refine (eval_at a0 v11 _ a2 a3 a4 r2 H4.out _ HG.out.1 (evsz_two HBK.out _ _ _ _ (by decide) (by have := HSL.out; omega) (by decide) (by have := HDL.out; omega)) (by omega) (HT.out.below HB11.out)).mono ?_
    rintro e w12 ⟨rfl, hb12⟩
    have HB12 : Hid (Below w.heap.size w w12) := HB11.out.trans (hb12.mono HB11.out.size)
    clear hb12 
    go_wp2_with fail
    go_ret
    exact ⟨by first | rfl | simp, HB12.out⟩
  · by_cases hc0 : c = 0
    · subst hc0
      rcases hd with ⟨h, _⟩ | ⟨h, rfl, _⟩
      · exact absurd ⟨rfl, h⟩ hc
      · have hfn : (f != 0) = true := by simpa using h
        clear hbad HMORE
        go_wp2_with fail
        go_ret
        exact ⟨by first | rfl | simp, HB3.out⟩
    · obtain rfl := hbad hc0
      have hcn : (c != 0) = true := by simpa using hc0
      have hcn2 : (c == 0) = false := by simpa using hc0
      rcases hd with ⟨rfl, _⟩ | ⟨h, rfl, _⟩
      · clear hbad HMORE
        go_wp2_with fail
        go_ret
        exact ⟨by first | rfl | simp, HB3.out⟩
      · have hfn : (f == 0) = false := by simpa using h
        clear hbad HMORE
        go_wp2_with fail
        go_ret
        exact ⟨by first | rfl | simp, HB3.out⟩
end Go.Proofs.YtigbjhkkbgdkcaaGreatDoor

/-
  What Rest of the document's answers computes, of a number above 0, however great.
-/
namespace Go.Proofs.YtigbjhkkbgdkcaaGreatDoor
open Go.RowKit

set_option maxHeartbeats 1000000 in
set_option maxRecDepth 100000 in
theorem rest_big (x : Int) (n : Nat) (hn : 0 < n) (hn' : n ≤ 281474976710656) (hx : (Lit.int .i64 x).wf = true) (w : World) :
    Calls Tryz.prog 15 #[.int .i64 x, .int .i64 (n : Int)] w fun e w' => ∃ k : Nat, k < n ∧ e = .returned (.int .i64 (k : Int)) ∧ w' = w := by
  have hb : -9223372036854775808 ≤ x ∧ x ≤ 9223372036854775807 := by simpa [Lit.wf, IntKind.min, IntKind.max, IntKind.signed, IntKind.bits] using hx
  obtain ⟨hb1, hb2⟩ := hb
  have hm1 : -(n : Int) < x.tmod n := Int.lt_tmod_of_pos x (by omega)
  have hm2 : x.tmod n < n := Int.tmod_lt_of_pos x (by omega)
  have hz : ((n : Int) == 0) = false := by rw [beq_eq_false_iff_ne]; omega
  have hz1 : (n : Int) ≠ 0 := by omega
  clear hx
  go_enter Tryz.func15, Tryz.ntmps15
  go_wp2
  · have hneg : x.tmod n < 0 := by assumption
    go_ret
    exact ⟨(x.tmod n + n).toNat, by omega, congrArg (fun y => Ending.returned (.int .i64 y)) (by simp; omega), rfl⟩
  · have hpos : 0 ≤ x.tmod n := by assumption
    go_ret
    exact ⟨(x.tmod n).toNat, by omega, congrArg (fun y => Ending.returned (.int .i64 y)) (by simp; omega), rfl⟩
end Go.Proofs.YtigbjhkkbgdkcaaGreatDoor
