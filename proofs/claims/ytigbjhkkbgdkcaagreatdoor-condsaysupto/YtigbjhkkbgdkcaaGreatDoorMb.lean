/-
  What Eval answers of some lists of fields, dates as relations; no program is named here.
-/
import Derived.Test.YtigbjhkkbgdkcaaGreatDoorMa
import Derived.Test.YtigbjhkkbgdkcaaGreatDoorShelf
import Derived.Test.YtigbjhkkbgdkcaaGreatDoorRows
import Derived.Deep.RegionHeld3
import Derived.Lib.Strings
import Derived.Handy
namespace Go.Proofs.YtigbjhkkbgdkcaaGreatDoor
open Go.RowKit

theorem PR_nil : PR [] 0 3 := .inr ⟨rfl, rfl, fun k h => by have := dt_len h; simp at this⟩
theorem PR_ex (l : List UInt8) : ∃ n c, PR l n c := by
  by_cases h : ∃ k, IsDT l k
  · obtain ⟨k, hk⟩ := h
    exact ⟨k, 0, .inl ⟨rfl, hk⟩⟩
  · exact ⟨0, 3, .inr ⟨rfl, rfl, fun k hk => h ⟨k, hk⟩⟩⟩
/-- What Eval answers. -/
def EvR (m : List UInt8) (ls : List Fld) (there : Bool) (tag : List UInt8) (mo r : Int) : Prop :=
  ∃ n1 c1 n2 c2, PR (jn (vals ls sIUS)) n1 c1 ∧ PR (jn (vals ls sIMS)) n2 c2 ∧
    evE (rdsB m) (there && decide (0 ≤ mo)) mo (mtE ls sIM there tag false) (mtE ls sINM there tag true) n1 (!(vals ls sIUS).isEmpty && (c1 == 0)) n2 (!(vals ls sIMS).isEmpty && (c2 == 0)) = r
theorem EvR.ex (m : List UInt8) (ls : List Fld) (there : Bool) (tag : List UInt8) (mo : Int) : ∃ r, EvR m ls there tag mo r := by
  obtain ⟨n1, c1, h1⟩ := PR_ex (jn (vals ls sIUS))
  obtain ⟨n2, c2, h2⟩ := PR_ex (jn (vals ls sIMS))
  exact ⟨_, n1, c1, n2, c2, h1, h2, rfl⟩
theorem EvR.one {m : List UInt8} {ls : List Fld} {there : Bool} {tag : List UInt8} {mo r r' : Int} (h : EvR m ls there tag mo r) (h' : EvR m ls there tag mo r') : r = r' := by
  obtain ⟨n1, c1, n2, c2, p1, p2, rfl⟩ := h
  obtain ⟨k1, d1, k2, d2, q1, q2, rfl⟩ := h'
  obtain ⟨rfl, rfl⟩ := PR_one p1 q1
  obtain ⟨rfl, rfl⟩ := PR_one p2 q2
  rfl
theorem EvR.range {m : List UInt8} {ls : List Fld} {there : Bool} {tag : List UInt8} {mo r : Int} (h : EvR m ls there tag mo r) : r = 0 ∨ r = 412 ∨ (r = 304 ∧ rdsB m = true ∧ there = true) := by
  obtain ⟨n1, c1, n2, c2, p1, p2, h⟩ := h
  obtain ⟨a, b, hab⟩ : ∃ a b, mtE ls sINM there tag true = (a, b) := ⟨_, _, rfl⟩
  rw [hab] at h
  have h3 := ev_range (rdsB m) (there && decide (0 ≤ mo)) mo (mtE ls sIM there tag false) (a, b) n1 (!(vals ls sIUS).isEmpty && (c1 == 0)) n2 (!(vals ls sIMS).isEmpty && (c2 == 0))
  rcases h3 with h3 | h3 | h3
  · exact .inl (h.symm.trans h3)
  · obtain ⟨h4, h5⟩ := ev_reads (inm := (a, b)) (fun hb => mt_there hab hb) h3
    exact .inr (.inr ⟨h.symm.trans h3, h4, h5⟩)
  · exact .inr (.inl (h.symm.trans h3))
theorem evr_put : EvR [80, 85, 84] [(sIM, [42])] false [] 0 412 := by
  refine ⟨0, 3, 0, 3, PR_nil, PR_nil, ?_⟩
  rw [mt_star (ls := [(sIM, [42])]) false [] false rfl, mt_none (ls := [(sIM, [42])]) false [] true rfl]
  rfl
theorem evr_plain (m : List UInt8) (ls : List Fld) (there : Bool) (tag : List UInt8) (mo : Int) : EvR m (plain4 ls) there tag mo 0 := by
  obtain ⟨v1, v2, v3, v4⟩ := vals_plain ls
  refine ⟨0, 3, 0, 3, by rw [v4]; exact PR_nil, by rw [v3]; exact PR_nil, ?_⟩
  rw [mt_none there tag false v1, mt_none there tag true v2, v3, v4]
  rfl
theorem evr_im (m : List UInt8) (ls : List Fld) (there : Bool) (tag : List UInt8) (mo : Int) (v : List UInt8) (b : Bool) (h : ∀ l : List Fld, vals l sIM = [v] → mtE l sIM there tag false = (true, b)) : EvR m (plain4 ls ++ [(sIM, v)]) there tag mo (if b = true then 0 else 412) := by
  obtain ⟨v1, v2, v3, v4⟩ := vals_plain ls
  obtain ⟨a1, a2, a3, a4, a5, a6⟩ := names_apart
  have w1 : vals (plain4 ls ++ [(sIM, v)]) sIM = [v] := by rw [vals_with_same _ _ _ _ rfl, v1]; rfl
  have w2 : vals (plain4 ls ++ [(sIM, v)]) sINM = [] := by rw [vals_with_other _ _ _ _ a1, v2]
  have w3 : vals (plain4 ls ++ [(sIM, v)]) sIMS = [] := by rw [vals_with_other _ _ _ _ a2, v3]
  have w4 : vals (plain4 ls ++ [(sIM, v)]) sIUS = [] := by rw [vals_with_other _ _ _ _ a3, v4]
  refine ⟨0, 3, 0, 3, by rw [w4]; exact PR_nil, by rw [w3]; exact PR_nil, ?_⟩
  rw [h _ w1, mt_none there tag true w2, w3, w4]
  exact ev_im _ _ _ _ _ _
theorem evr_inm (m : List UInt8) (ls : List Fld) (there : Bool) (tag : List UInt8) (mo : Int) (v : List UInt8) (b : Bool) (h : ∀ l : List Fld, vals l sINM = [v] → mtE l sINM there tag true = (true, b)) : EvR m (plain4 ls ++ [(sINM, v)]) there tag mo (if b = true then (if rdsB m = true then 304 else 412) else 0) := by
  obtain ⟨v1, v2, v3, v4⟩ := vals_plain ls
  obtain ⟨a1, a2, a3, a4, a5, a6⟩ := names_apart
  have w1 : vals (plain4 ls ++ [(sINM, v)]) sIM = [] := by rw [vals_with_other _ _ _ _ a1.symm, v1]
  have w2 : vals (plain4 ls ++ [(sINM, v)]) sINM = [v] := by rw [vals_with_same _ _ _ _ rfl, v2]; rfl
  have w3 : vals (plain4 ls ++ [(sINM, v)]) sIMS = [] := by rw [vals_with_other _ _ _ _ a4, v3]
  have w4 : vals (plain4 ls ++ [(sINM, v)]) sIUS = [] := by rw [vals_with_other _ _ _ _ a5, v4]
  refine ⟨0, 3, 0, 3, by rw [w4]; exact PR_nil, by rw [w3]; exact PR_nil, ?_⟩
  rw [h _ w2, mt_none there tag false w1, w3, w4]
  exact ev_inm _ _ _ _ _ _
theorem evr_ims (m : List UInt8) (ls : List Fld) (there : Bool) (tag : List UInt8) (mo : Int) (d : List UInt8) (n : Int) (hd : IsDT d n) : EvR m (plain4 ls ++ [(sIMS, d)]) there tag mo (if ((there && decide (0 ≤ mo)) && (rdsB m && decide (mo ≤ n))) = true then 304 else 0) := by
  obtain ⟨v1, v2, v3, v4⟩ := vals_plain ls
  obtain ⟨a1, a2, a3, a4, a5, a6⟩ := names_apart
  have w1 : vals (plain4 ls ++ [(sIMS, d)]) sIM = [] := by rw [vals_with_other _ _ _ _ a2.symm, v1]
  have w2 : vals (plain4 ls ++ [(sIMS, d)]) sINM = [] := by rw [vals_with_other _ _ _ _ a4.symm, v2]
  have w3 : vals (plain4 ls ++ [(sIMS, d)]) sIMS = [d] := by rw [vals_with_same _ _ _ _ rfl, v3]; rfl
  have w4 : vals (plain4 ls ++ [(sIMS, d)]) sIUS = [] := by rw [vals_with_other _ _ _ _ a6, v4]
  refine ⟨0, 3, n, 0, by rw [w4]; exact PR_nil, by rw [w3, jn_one]; exact .inl ⟨rfl, hd⟩, ?_⟩
  rw [mt_none there tag false w1, mt_none there tag true w2, w3, w4]
  exact ev_ims _ _ _ _ _
theorem evr_ius (m : List UInt8) (ls : List Fld) (there : Bool) (tag : List UInt8) (mo : Int) (d : List UInt8) (n : Int) (hd : IsDT d n) : EvR m (plain4 ls ++ [(sIUS, d)]) there tag mo (if ((there && decide (0 ≤ mo)) && decide (n < mo)) = true then 412 else 0) := by
  obtain ⟨v1, v2, v3, v4⟩ := vals_plain ls
  obtain ⟨a1, a2, a3, a4, a5, a6⟩ := names_apart
  have w1 : vals (plain4 ls ++ [(sIUS, d)]) sIM = [] := by rw [vals_with_other _ _ _ _ a3.symm, v1]
  have w2 : vals (plain4 ls ++ [(sIUS, d)]) sINM = [] := by rw [vals_with_other _ _ _ _ a5.symm, v2]
  have w3 : vals (plain4 ls ++ [(sIUS, d)]) sIMS = [] := by rw [vals_with_other _ _ _ _ a6.symm, v3]
  have w4 : vals (plain4 ls ++ [(sIUS, d)]) sIUS = [d] := by rw [vals_with_same _ _ _ _ rfl, v4]; rfl
  refine ⟨n, 0, 0, 3, by rw [w4, jn_one]; exact .inl ⟨rfl, hd⟩, by rw [w3]; exact PR_nil, ?_⟩
  rw [mt_none there tag false w1, mt_none there tag true w2, w3, w4]
  exact ev_iuse _ _ _ _ _
theorem mt_same {l l' : List Fld} {name : List UInt8} (there : Bool) (tag : List UInt8) (weak : Bool) (h : vals l' name = vals l name) : mtE l' name there tag weak = mtE l name there tag weak := by
  unfold mtE; rw [h]
/-- Where there are tags that can be read, dates are of no matter. -/
theorem evr_more2 (m : List UInt8) (l : List Fld) (there : Bool) (tag : List UInt8) (mo : Int) (d : List UInt8) (r : Int) (b : Bool) (hi : mtE l sINM there tag true = (true, b)) (h : EvR m l there tag mo r) : EvR m (l ++ [(sIMS, d)]) there tag mo r := by
  obtain ⟨a1, a2, a3, a4, a5, a6⟩ := names_apart
  obtain ⟨n1, c1, n2, c2, p1, p2, h⟩ := h
  obtain ⟨k, e, hk⟩ := PR_ex (jn (vals (l ++ [(sIMS, d)]) sIMS))
  have w4 := vals_with_other l sIMS d sIUS a6
  refine ⟨n1, c1, k, e, by rw [w4]; exact p1, hk, ?_⟩
  rw [mt_same there tag false (vals_with_other l sIMS d sIM a2.symm), mt_same there tag true (vals_with_other l sIMS d sINM a4.symm), w4, ← h, hi]
  exact ev_first2 _ _ _ _ _ _ _ _ _ _ _
theorem evr_more1 (m : List UInt8) (l : List Fld) (there : Bool) (tag : List UInt8) (mo : Int) (d : List UInt8) (r : Int) (b : Bool) (hi : mtE l sIM there tag false = (true, b)) (h : EvR m l there tag mo r) : EvR m (l ++ [(sIUS, d)]) there tag mo r := by
  obtain ⟨a1, a2, a3, a4, a5, a6⟩ := names_apart
  obtain ⟨n1, c1, n2, c2, p1, p2, h⟩ := h
  obtain ⟨k, e, hk⟩ := PR_ex (jn (vals (l ++ [(sIUS, d)]) sIUS))
  have w3 := vals_with_other l sIUS d sIMS a6.symm
  refine ⟨k, e, n2, c2, hk, by rw [w3]; exact p2, ?_⟩
  rw [mt_same there tag false (vals_with_other l sIUS d sIM a3.symm), mt_same there tag true (vals_with_other l sIUS d sINM a5.symm), w3, ← h, hi]
  exact ev_first1 _ _ _ _ _ _ _ _ _ _ _
theorem bulk_rest (s : List UInt8) (ls : List Fld) : bulkF (rest1 s ls) ≤ bulkF ls := by
  induction ls with
  | nil => simp [rest1, bulkF]
  | cons x ls ih =>
    unfold rest1 at ih ⊢
    rw [List.filter_cons]
    split
    · rw [bulkF_cons, bulkF_cons]; omega
    · rw [bulkF_cons]; omega
theorem bulk_plain (ls : List Fld) : bulkF (plain4 ls) ≤ bulkF ls := by
  unfold plain4
  have h1 := bulk_rest sIM ls
  have h2 := bulk_rest sINM (rest1 sIM ls)
  have h3 := bulk_rest sIMS (rest1 sINM (rest1 sIM ls))
  have h4 := bulk_rest sIUS (rest1 sIMS (rest1 sINM (rest1 sIM ls)))
  omega
theorem bulk_with (ls : List Fld) (n v : List UInt8) : bulkF (ls ++ [(n, v)]) = bulkF ls + (n.length + v.length + 3) := by
  rw [bulkF_app]; simp [bulkF]
end Go.Proofs.YtigbjhkkbgdkcaaGreatDoor

/-
  Eval of conditions by parts: what is meant, what is known already; no program is named here.
-/
namespace Go.Proofs.YtigbjhkkbgdkcaaGreatDoor
open Go.RowKit

/-- One tag of a list is what the thing's own text asks for. -/
def hitD (weak : Bool) (o : Tg × Int) (t : Tg) : Bool := (o.2 == 0) && (if weak = true then (o.1.2 == t.2) else (!o.1.1 && (!t.1 && (o.1.2 == t.2))))
theorem any_hit (weak there : Bool) (o : Tg × Int) (l : List Tg) : l.any (hitT weak there o) = (there && l.any (hitD weak o)) := by
  have h1 : ∀ t, hitT weak there o t = (there && hitD weak o t) := by
    intro t
    unfold hitT hitD
    have e : (t.2 == o.1.2) = (o.1.2 == t.2) := by rw [Bool.eq_iff_iff, beq_iff_eq, beq_iff_eq]; exact eq_comm
    rw [e]
    generalize (o.1.2 == t.2) = q
    generalize (o.2 == 0) = r
    generalize o.1.1 = a
    generalize t.1 = b
    cases q <;> cases r <;> cases there <;> cases weak <;> cases a <;> cases b <;> rfl
  induction l with
  | nil => simp
  | cons t l ih =>
    rw [List.any_cons, List.any_cons, ih, h1]
    cases there <;> simp
theorem liE_nil : liE [] = (([], false), 3) := by
  have h : qps [] = [[]] := rfl
  unfold liE
  rw [h]
  rfl
theorem vals_none {ls : List Fld} {name : List UInt8} (h : (vals ls name).isEmpty = true) : jn (vals ls name) = [] := by
  rw [List.isEmpty_iff.1 h]; rfl
theorem mtE_bad {ls : List Fld} {name : List UInt8} (there : Bool) (tag : List UInt8) (weak : Bool) (h : (liE (jn (vals ls name))).2 ≠ 0) : mtE ls name there tag weak = (false, false) := by
  unfold mtE
  rw [if_pos (.inr h)]
theorem mtE_good {ls : List Fld} {name : List UInt8} (there : Bool) (tag : List UInt8) (weak : Bool) (h : (liE (jn (vals ls name))).2 = 0) : mtE ls name there tag weak = (true, there && ((liE (jn (vals ls name))).1.2 || (liE (jn (vals ls name))).1.1.any (hitD weak (paE tag)))) := by
  have hn : ¬ ((vals ls name).isEmpty = true) := by
    intro h0
    rw [vals_none h0, liE_nil] at h
    exact absurd h (by decide)
  unfold mtE
  rw [if_neg (fun h1 => h1.elim hn (fun h2 => h2 h)), any_hit]
  cases hs : (liE (jn (vals ls name))).1.2 <;> simp
/-- What was meant. -/
def okM (known : Bool) (mo : Int) (im : Bool × Bool) (n1 : Int) (h1 : Bool) : Bool := if im.1 = true then im.2 else (!h1 || (!known || decide (mo ≤ n1)))
/-- What is known already. -/
def okK (reads known : Bool) (mo : Int) (inm : Bool × Bool) (n2 : Int) (h2 : Bool) : Bool := if inm.1 = true then inm.2 else (h2 && (reads && (known && decide (mo ≤ n2))))
theorem evE_parts (reads known : Bool) (mo : Int) (im inm : Bool × Bool) (n1 : Int) (h1 : Bool) (n2 : Int) (h2 : Bool) :
    evE reads known mo im inm n1 h1 n2 h2 = if okM known mo im n1 h1 = true then (if okK reads known mo inm n2 h2 = true then (if reads = true then 304 else 412) else 0) else 412 := by
  obtain ⟨a, b⟩ := im
  obtain ⟨c, d⟩ := inm
  have e : decide (n1 < mo) = !decide (mo ≤ n1) := by
    by_cases h : mo ≤ n1
    · rw [decide_eq_true h, decide_eq_false (by omega)]; rfl
    · rw [decide_eq_false h, decide_eq_true (by omega)]; rfl
  unfold evE ev2 okM okK
  simp only [e]
  cases a <;> cases b <;> cases c <;> cases d <;> cases h1 <;> cases h2 <;> cases known <;> cases reads <;> cases decide (mo ≤ n1) <;> cases decide (mo ≤ n2) <;> rfl
theorem has_dt {ls : List Fld} {name : List UInt8} {n c : Int} (h : PR (jn (vals ls name)) n c) : (!(vals ls name).isEmpty && (c == 0)) = (c == 0) := by
  cases hv : (vals ls name).isEmpty
  · rfl
  · rw [vals_none hv] at h
    obtain ⟨rfl, rfl⟩ := PR_one h PR_nil
    rfl
theorem evr_parts {m : List UInt8} {ls : List Fld} {there : Bool} {tag : List UInt8} {mo r n1 c1 n2 c2 : Int} (h : EvR m ls there tag mo r) (h1 : PR (jn (vals ls sIUS)) n1 c1) (h2 : PR (jn (vals ls sIMS)) n2 c2) :
    r = if okM (there && decide (0 ≤ mo)) mo (mtE ls sIM there tag false) n1 (c1 == 0) = true then (if okK (rdsB m) (there && decide (0 ≤ mo)) mo (mtE ls sINM there tag true) n2 (c2 == 0) = true then (if rdsB m = true then 304 else 412) else 0) else 412 := by
  obtain ⟨a1, b1, a2, b2, p1, p2, h⟩ := h
  obtain ⟨rfl, rfl⟩ := PR_one p1 h1
  obtain ⟨rfl, rfl⟩ := PR_one p2 h2
  rw [evE_parts, has_dt p1, has_dt p2] at h
  exact h.symm
end Go.Proofs.YtigbjhkkbgdkcaaGreatDoor

/-
  A slice of entity tags that can be read, as a plain list; no program is named here.
-/
namespace Go.Proofs.YtigbjhkkbgdkcaaGreatDoor
open Go.RowKit

def Tl (w : World) (v : Value) (ts : List Tg) : Prop :=
  ∃ ad cap, v = .slice ad ts.length cap ∧ ts.length ≤ cap ∧ cap ≤ maxLen ∧ (0 < ts.length → ∃ g off, ad = some ⟨g, off, none⟩ ∧ g < w.heap.size ∧
    ∀ (k : Nat) (h : k < ts.length), w.cell? ⟨g, off + k * 2, none⟩ = some (.bool (ts[k]).1) ∧ w.cell? ⟨g, off + k * 2 + 1, none⟩ = some (.string ⟨(ts[k]).2.toArray⟩))
theorem Tl.below {w w' : World} {v : Value} {ts : List Tg} (h : Tl w v ts) (hb : Below w.heap.size w w') : Tl w' v ts := by
  obtain ⟨ad, cap, hv, h1, h2, h3⟩ := h
  refine ⟨ad, cap, hv, h1, h2, fun h0 => ?_⟩
  obtain ⟨g, off, ha, hg, hc⟩ := h3 h0
  refine ⟨g, off, ha, Nat.lt_of_lt_of_le hg hb.size, fun k hk => ?_⟩
  obtain ⟨c1, c2⟩ := hc k hk
  exact ⟨(hb.cell (p := ⟨g, off + k * 2, none⟩) hg).trans c1, (hb.cell (p := ⟨g, off + k * 2 + 1, none⟩) hg).trans c2⟩
theorem Tl.nil (w : World) : Tl w (.slice none 0 0) [] := ⟨none, 0, rfl, Nat.le_refl _, by unfold maxLen; omega, fun h => absurd h (by simp)⟩
theorem Tl.own {w : World} {B : Nat} {e : TypeId} {v : Value} {ts : List Tg} (h : w.ownsRow B e 2 v ts.length (tgs ts)) : Tl w v ts := by
  obtain ⟨ad, cap, hv, hcm, hnc, hc⟩ := own_form2 h
  refine ⟨ad, cap, hv, hnc, hcm, fun h0 => ?_⟩
  obtain ⟨g, ha, _, hg, hce⟩ := hc h0
  refine ⟨g, 0, ha, hg, fun k hk => ?_⟩
  obtain ⟨p1, p2⟩ := tgs_get ts k hk
  rw [Nat.zero_add, hce _ (by omega), hce _ (by omega)]
  exact ⟨p1, p2⟩
end Go.Proofs.YtigbjhkkbgdkcaaGreatDoor

/-
  The letters A to Z as a to z, byte by byte; no program is named here.
-/
namespace Go.Proofs.YtigbjhkkbgdkcaaGreatDoor
open Go.RowKit

theorem low_yes (c : UInt8) (h : 65 ≤ (c.toNat : Int)) (h' : (c.toNat : Int) ≤ 90) : ((low c).toNat : Int) = (c.toNat : Int) + 32 := by
  have e : (65 ≤ c && c ≤ 90) = true := by simp [UInt8.le_iff_toNat_le]; omega
  unfold low
  rw [if_pos e, UInt8.toNat_add]
  have : (32 : UInt8).toNat = 32 := rfl
  omega
theorem low_no (c : UInt8) (h : (c.toNat : Int) < 65 ∨ 90 < (c.toNat : Int)) : low c = c := by
  have e : (65 ≤ c && c ≤ 90) = false := by rw [Bool.eq_false_iff]; simp [UInt8.le_iff_toNat_le]; omega
  unfold low
  rw [e]; rfl

theorem lower_snoc (l : List UInt8) (c : UInt8) : lower (l ++ [c]) = lower l ++ [low c] := by simp [lower]
end Go.Proofs.YtigbjhkkbgdkcaaGreatDoor

/-
  What Lower of package token computes: the letters A to Z as a to z; the string fits in the memory that Go's limits allow.
-/
namespace Go.Proofs.YtigbjhkkbgdkcaaGreatDoor
open Go.RowKit

theorem cells_snoc (l : List UInt8) (c : UInt8) (n : Int) (h : n = ((low c).toNat : Int)) : Lib.byteCells (lower l) ++ [Value.int .u8 n] = Lib.byteCells (lower (l ++ [c])) := by
  rw [lower_snoc, Lib.byteCells_append, h]; rfl

set_option maxHeartbeats 1000000 in
set_option maxRecDepth 100000 in
theorem lower_any (s : ByteArray) (w : World) (hs : s.size ≤ 140737488351232) :
    Calls Tryz.prog 72 #[.string s] w fun e w' => e = .returned (.string ⟨(lower s.data.toList).toArray⟩) ∧ Below w.heap.size w w' := by
  go_enter Tryz.func72, Tryz.ntmps72
  go_wp2_with fail
  refine (Tryz.Builder_Grow_fresh w.heap.size w.heap.size s.size _ (Nat.le_refl _) ?hbk ?hBw (by omega)).mono ?_
  case hbk => exact heap_alloc_new _ _
  case hBw => simp
  rintro e w1 ⟨rfl, hb1, hw1⟩
  have hw1' : Below w.heap.size w w1 := ((Below.refl _ w).alloc (Nat.le_refl _) _).trans hw1
  clear hw1
  go_wp2_with fail
  go_loopw [11] (fun i wr => ∃ k : Nat, k ≤ s.size ∧ i = .int .i64 k ∧ Lib.BuilderAt 58 5 w.heap.size w.heap.size (.pointer (some ⟨w.heap.size, 0, none⟩)) (Lib.byteCells (lower (s.data.toList.take k))) wr ∧ Below w.heap.size w wr) (fun i _ => s.size - (intOf i).toNat)
  case atStart => exact ⟨0, Nat.zero_le _, rfl, hb1, hw1'⟩
  case round =>
    obtain ⟨k, hk, rfl, hb, hw⟩ := hrel
    clear hb1 hw1'
    by_cases hlt : k < s.size
    · have hlen : (Lib.byteCells (lower (s.data.toList.take k))).length + 1 ≤ 140737488355328 := by
        rw [Lib.byteCells_length]; simp [lower]; omega
      have hc1 : (s[k].toNat : Int) < 256 := by have := s[k].toNat_lt; omega
      have hsz := hw.size
      rcases (show (s[k].toNat : Int) < 65 ∨ (65 ≤ (s[k].toNat : Int) ∧ (s[k].toNat : Int) ≤ 90) ∨ 91 ≤ (s[k].toNat : Int) from by omega) with h | ⟨h, h'⟩ | h
      · go_wp2_with fail
        refine (Tryz.Builder_WriteByte w.heap.size w.heap.size _ _ _ (.inr hb) hlen hsz).mono ?_
        rintro e w2 ⟨rfl, hb2, hw2⟩
        go_wp2_with fail
        go_roundw
        case rel => exact ⟨k + 1, by omega, by go_num, by rw [take_snoc s k hlt, ← cells_snoc _ _ _ (by rw [low_no _ (by omega)])]; exact hb2, hw.trans hw2⟩
        case measure => simp [intOf]; omega
      · go_wp2_with fail
        refine (Tryz.Builder_WriteByte w.heap.size w.heap.size _ _ _ (.inr hb) hlen hsz).mono ?_
        rintro e w2 ⟨rfl, hb2, hw2⟩
        go_wp2_with fail
        go_roundw
        case rel => exact ⟨k + 1, by omega, by go_num, by rw [take_snoc s k hlt, ← cells_snoc _ _ _ ((low_yes _ h h').symm)]; exact hb2, hw.trans hw2⟩
        case measure => simp [intOf]; omega
      · go_wp2_with fail
        refine (Tryz.Builder_WriteByte w.heap.size w.heap.size _ _ _ (.inr hb) hlen hsz).mono ?_
        rintro e w2 ⟨rfl, hb2, hw2⟩
        go_wp2_with fail
        go_roundw
        case rel => exact ⟨k + 1, by omega, by go_num, by rw [take_snoc s k hlt, ← cells_snoc _ _ _ (by rw [low_no _ (by omega)])]; exact hb2, hw.trans hw2⟩
        case measure => simp [intOf]; omega
    · obtain rfl : k = s.size := by omega
      have hsz := hw.size
      go_wp2_with fail
      refine (Tryz.Builder_String_any w.heap.size w.heap.size _ _ (.inr hb) hsz).mono ?_
      rintro e w2 ⟨rfl, hw2⟩
      go_wp2_with fail
      go_ret
      exact ⟨by rw [take_all]; rfl, hw.trans hw2⟩
end Go.Proofs.YtigbjhkkbgdkcaaGreatDoor

/-
  What named of package field hands back: a function of a field; what it answers in whatever later world. A name is no longer than Go allows.
-/
namespace Go.Proofs.YtigbjhkkbgdkcaaGreatDoor
open Go.RowKit

/-- A function value that answers p of each field, in whatever later world, and turns nothing. -/
def Pred (w : World) (f : Value) (p : Fld → Bool) : Prop :=
  ∃ (g : Nat) (lb : Array Value), f = .func (.func g) #[] lb ∧ (∀ args w, (callFunc g args).run Tryz.prog w = .ok (.enter g args) w) ∧
    ∀ (W : World) (n u : ByteArray), Below w.heap.size w W → n.size ≤ 140737488351232 → Calls Tryz.prog g (#[.agg #[.string n, .string u]] ++ lb) W fun e w' => e = .returned (.bool (p (n.data.toList, u.data.toList))) ∧ Below W.heap.size W w'
theorem Pred.later {w w' : World} {f : Value} {p : Fld → Bool} (h : Pred w f p) (hb : Below w.heap.size w w') : Pred w' f p := by
  obtain ⟨g, lb, hf, eg, hc⟩ := h
  exact ⟨g, lb, hf, eg, fun W n u hW hn => hc W n u (hb.trans (hW.mono hb.size)) hn⟩

theorem lower_at (s t : ByteArray) (h : t.data.toList = lower s.data.toList) (w : World) (hs : s.size ≤ 140737488351232) :
    Calls Tryz.prog 72 #[.string s] w fun e w' => e = .returned (.string t) ∧ Below w.heap.size w w' := by
  refine (lower_any s w hs).mono ?_
  rintro e w' ⟨rfl, hb⟩
  refine ⟨ret_str ?_, hb⟩
  apply ByteArray.ext; apply Array.ext'; exact h.symm

set_option maxHeartbeats 1000000 in
set_option maxRecDepth 100000 in
theorem named1_any (n u low : ByteArray) (B : Nat) (w : World) (hc : w.cell? ⟨B, 0, none⟩ = some (.string low)) (hn : n.size ≤ 140737488351232) :
    Calls Tryz.prog 73 #[.agg #[.string n, .string u], .pointer (some ⟨B, 0, none⟩)] w fun e w' => e = .returned (.bool (lower n.data.toList == low.data.toList)) ∧ Below w.heap.size w w' := by
  obtain ⟨t, ht⟩ : ∃ t : ByteArray, t.data.toList = lower n.data.toList := ⟨⟨(lower n.data.toList).toArray⟩, rfl⟩
  have HT : Hid (t.data.toList = lower n.data.toList) := ht
  have HQ : Hid ((lower n.data.toList == low.data.toList) = (t.toList == low.toList)) := by show _ = _; rw [ByteArray.toList_eq, ByteArray.toList_eq, ht]
  have hBs : B < w.heap.size := cell_in hc
  have hcl := hc
  clear ht
  go_enter Tryz.func73, Tryz.ntmps73
  go_wp2_with fail
  go_region_held3 (fun w' => w'.cell? ⟨w.heap.size, 0, none⟩ = some (.string n) ∧ w'.cell? ⟨B, 0, none⟩ = some (.string low)) (go_keep) (first | (go_at_call 72; refine (lower_at n t HT.out _ hn).mono ?_; rintro e w3 ⟨rfl, hb⟩; have hk1 : w3.cell? ⟨w.heap.size, 0, none⟩ = some (.string n) := (hb.cell (p := ⟨w.heap.size, 0, none⟩) (by simp)).trans (by simp); have hk2 : w3.cell? ⟨B, 0, none⟩ = some (.string low) := (hb.cell (p := ⟨B, 0, none⟩) (by simp; omega)).trans ((World.cell?_alloc_lt _ _ _ hBs).trans hcl)))
  all_goals
    go_wp2_with fail
    go_ret
    exact ⟨ret_bool HQ.out.symm, ((Below.refl _ w).alloc (Nat.le_refl _) _).drew.trans (hb.mono (by simp))⟩

set_option maxHeartbeats 1000000 in
set_option maxRecDepth 100000 in
theorem named_any (s : ByteArray) (w : World) (hs : s.size ≤ 140737488351232) :
    Calls Tryz.prog 43 #[.string s] w fun e w' => ∃ f, e = .returned f ∧ Pred w' f (fun x => lower x.1 == lower s.data.toList) ∧ Below w.heap.size w w' := by
  have hmf : ∀ (fn : Fn) (first cap : Array Value) (w : World), (Instr.makeFunc fn first cap).run Tryz.prog w = .ok (.func fn first cap) w := fun _ _ _ _ => rfl
  obtain ⟨t, ht⟩ : ∃ t : ByteArray, t.data.toList = lower s.data.toList := ⟨⟨(lower s.data.toList).toArray⟩, rfl⟩
  have HT : Hid (t.data.toList = lower s.data.toList) := ht
  clear ht
  go_enter Tryz.func43, Tryz.ntmps43
  go_wp2_with fail
  refine (lower_at s t HT.out _ hs).mono ?_
  rintro e w1 ⟨rfl, hb⟩
  have hsz := hb.size
  go_wp2_with fail
  go_ret
  refine ⟨_, rfl, ⟨73, _, rfl, enters_of Tryz.func73 (by kernel_rfl) rfl, fun W n u hW hn => ?_⟩, hb.alloc hsz _⟩
  rw [← HT.out]
  refine named1_any n u t w1.heap.size W ?_ hn
  exact (hW.cell (p := ⟨w1.heap.size, 0, none⟩) (by simp)).trans (by simp)
end Go.Proofs.YtigbjhkkbgdkcaaGreatDoor

/-
  What strings.Clone computes; a string is no longer than Go allows.
-/
namespace Go.Proofs.YtigbjhkkbgdkcaaGreatDoor
open Go.RowKit

set_option maxRecDepth 100000 in
theorem clone_big (s : ByteArray) (w : World) (hs : s.size ≤ 281474976710656) :
    Calls Tryz.prog 31 #[.string s] w fun e w' => e = .returned (.string s) ∧ Below w.heap.size w w' := by
  go_enter Tryz.func31, Tryz.ntmps31
  go_wp2_with fail
  refine (Tryz.stringslite_Clone s _ (by omega)).mono ?_
  rintro e w1 ⟨rfl, hb⟩
  go_wp2_with fail
  go_ret
  exact ⟨rfl, hb⟩
end Go.Proofs.YtigbjhkkbgdkcaaGreatDoor

/-
  What clone of package field computes; a string is no longer than Go allows.
-/
namespace Go.Proofs.YtigbjhkkbgdkcaaGreatDoor
open Go.RowKit

theorem pair_all {w : World} {g : Nat} {t : TypeId} {n u : Value} (h : w.heap[g]? = some (.cells #[n, u] t (0, 0))) :
    w.cell? ⟨g, 0, none⟩ = some n ∧ w.cell? ⟨g, 1, none⟩ = some u ∧ w.frozen? ⟨g, 0, none⟩ = false ∧ w.frozen? ⟨g, 1, none⟩ = false ∧ g < w.heap.size := by
  refine ⟨?_, ?_, Lib.frozen_of_heap h 0, Lib.frozen_of_heap h 1, (Array.getElem?_eq_some_iff.1 h).1⟩ <;> rw [Lib.cell_of_heap h] <;> rfl

theorem sc_keep {w W w3 : World} {n u : ByteArray} (h : W.cell? ⟨w.heap.size, 0, none⟩ = some (.string n) ∧ W.cell? ⟨w.heap.size, 1, none⟩ = some (.string u) ∧ W.cell? ⟨w.heap.size + 1, 0, none⟩ = some (.string ⟨#[]⟩) ∧ W.cell? ⟨w.heap.size + 1, 1, none⟩ = some (.string ⟨#[]⟩) ∧ W.frozen? ⟨w.heap.size + 1, 0, none⟩ = false ∧ W.frozen? ⟨w.heap.size + 1, 1, none⟩ = false ∧ w.heap.size + 1 < W.heap.size ∧ Below w.heap.size w W) (hb : Below W.heap.size W w3) :
    w3.cell? ⟨w.heap.size, 0, none⟩ = some (.string n) ∧ w3.cell? ⟨w.heap.size, 1, none⟩ = some (.string u) ∧ w3.cell? ⟨w.heap.size + 1, 0, none⟩ = some (.string ⟨#[]⟩) ∧ w3.cell? ⟨w.heap.size + 1, 1, none⟩ = some (.string ⟨#[]⟩) ∧ w3.frozen? ⟨w.heap.size + 1, 0, none⟩ = false ∧ w3.frozen? ⟨w.heap.size + 1, 1, none⟩ = false ∧ w.heap.size + 1 < w3.heap.size ∧ Below w.heap.size w w3 := by
  obtain ⟨h1, h2, h3, h4, h5, h6, h7, h8⟩ := h
  have hs := hb.size
  exact ⟨(hb.cell (p := ⟨w.heap.size, 0, none⟩) (by show w.heap.size < _; omega)).trans h1, (hb.cell (p := ⟨w.heap.size, 1, none⟩) (by show w.heap.size < _; omega)).trans h2, (hb.cell (p := ⟨w.heap.size + 1, 0, none⟩) h7).trans h3, (hb.cell (p := ⟨w.heap.size + 1, 1, none⟩) h7).trans h4, (hb.frozen (p := ⟨w.heap.size + 1, 0, none⟩) h7).trans h5, (hb.frozen (p := ⟨w.heap.size + 1, 1, none⟩) h7).trans h6, by omega, h8.trans (hb.mono (by omega))⟩
theorem sc_start (w : World) (n u : ByteArray) (t : TypeId) : ((w.alloc (.cells #[.string n, .string u] t)).alloc (.cells #[.string ⟨#[]⟩, .string ⟨#[]⟩] t)).drew.cell? ⟨w.heap.size, 0, none⟩ = some (.string n) ∧ ((w.alloc (.cells #[.string n, .string u] t)).alloc (.cells #[.string ⟨#[]⟩, .string ⟨#[]⟩] t)).drew.cell? ⟨w.heap.size, 1, none⟩ = some (.string u) ∧ ((w.alloc (.cells #[.string n, .string u] t)).alloc (.cells #[.string ⟨#[]⟩, .string ⟨#[]⟩] t)).drew.cell? ⟨w.heap.size + 1, 0, none⟩ = some (.string ⟨#[]⟩) ∧ ((w.alloc (.cells #[.string n, .string u] t)).alloc (.cells #[.string ⟨#[]⟩, .string ⟨#[]⟩] t)).drew.cell? ⟨w.heap.size + 1, 1, none⟩ = some (.string ⟨#[]⟩) ∧ ((w.alloc (.cells #[.string n, .string u] t)).alloc (.cells #[.string ⟨#[]⟩, .string ⟨#[]⟩] t)).drew.frozen? ⟨w.heap.size + 1, 0, none⟩ = false ∧ ((w.alloc (.cells #[.string n, .string u] t)).alloc (.cells #[.string ⟨#[]⟩, .string ⟨#[]⟩] t)).drew.frozen? ⟨w.heap.size + 1, 1, none⟩ = false ∧ w.heap.size + 1 < ((w.alloc (.cells #[.string n, .string u] t)).alloc (.cells #[.string ⟨#[]⟩, .string ⟨#[]⟩] t)).drew.heap.size ∧ Below w.heap.size w ((w.alloc (.cells #[.string n, .string u] t)).alloc (.cells #[.string ⟨#[]⟩, .string ⟨#[]⟩] t)).drew := by
  have e : (w.alloc (.cells #[.string n, .string u] t)).heap.size = w.heap.size + 1 := by simp
  have f0 := new_free (w.alloc (.cells #[.string n, .string u] t)) #[.string ⟨#[]⟩, .string ⟨#[]⟩] t 0
  have f1 := new_free (w.alloc (.cells #[.string n, .string u] t)) #[.string ⟨#[]⟩, .string ⟨#[]⟩] t 1
  rw [e] at f0 f1
  exact ⟨by simp, by simp, by simp, by simp, f0, f1, by simp, (((Below.refl _ w).alloc (Nat.le_refl _) _).alloc (by simp) _).drew⟩

set_option maxHeartbeats 2000000 in
set_option maxRecDepth 100000 in
theorem fclone_any (n u : ByteArray) (w : World) (hn : n.size ≤ 281474976710656) (hu : u.size ≤ 281474976710656) :
    Calls Tryz.prog 70 #[.agg #[.string n, .string u]] w fun e w' => e = .returned (.agg #[.string n, .string u]) ∧ Below w.heap.size w w' := by
  go_enter Tryz.func70, Tryz.ntmps70
  go_wp2_with fail
  go_region_held3 (fun w' => w'.cell? ⟨w.heap.size, 0, none⟩ = some (.string n) ∧ w'.cell? ⟨w.heap.size, 1, none⟩ = some (.string u)) (go_keep) (first | (go_at_call 31; refine (clone_big _ _ (by omega)).mono ?_; rintro e w3 ⟨rfl, hb⟩; first | (have hx := sc_keep (by assumption) hb) | (have hx := sc_keep (sc_start w n u _) hb)))
  all_goals
    obtain ⟨_, _, h1, h2, h3, h4, h5, h6⟩ := hx
    go_wp2_with fail
    refine bodyPost_ret (v := .agg #[.string n, .string u]) (by simp [results, Tryz.results70, go_sem, h1, h2]) rfl ⟨rfl, ?_⟩
    exact (h6.setCell (p := ⟨w.heap.size + 1, 0, none⟩) (by simp) _).setCell (p := ⟨w.heap.size + 1, 1, none⟩) (by simp) _
end Go.Proofs.YtigbjhkkbgdkcaaGreatDoor

/-
  The row of the type of fields, and blocks of one field; over the program's table of types.
-/
namespace Go.Proofs.YtigbjhkkbgdkcaaGreatDoor
open Go.RowKit

theorem infoF : (Tryz.prog.info? 26).map (fun i => (i.zero, i.size, i.bytes)) = some (some (.agg #[.string ⟨#[]⟩, .string ⟨#[]⟩]), 2, 32) := by kernel_rfl
theorem pair_below {w w' : World} {g : Nat} {t : TypeId} {n u : Value} (h : w.heap[g]? = some (.cells #[n, u] t (0, 0))) (hb : Below w.heap.size w w') : w'.heap[g]? = some (.cells #[n, u] t (0, 0)) :=
  (hb.block g (Array.getElem?_eq_some_iff.1 h).1).trans h
theorem pair_new (w : World) (t : TypeId) (n u : Value) : (w.alloc (.cells #[n, u] t)).heap[w.heap.size]? = some (.cells #[n, u] t (0, 0)) := heap_alloc_new _ _
theorem flds_one (ls : List Fld) : ∀ u ∈ flds ls, u.oneCell' = true := by
  intro u hu
  unfold flds at hu
  obtain ⟨x, _, hx⟩ := List.mem_flatMap.1 hu
  simp at hx
  rcases hx with rfl | rfl <;> rfl
end Go.Proofs.YtigbjhkkbgdkcaaGreatDoor

/-
  What pick of package field and slices.IndexFunc compute over a function value that answers p of each field; lists and texts are no longer than Go allows.
-/
namespace Go.Proofs.YtigbjhkkbgdkcaaGreatDoor
open Go.RowKit

/-- What fits in the memory that Go's limits allow. -/
def Wide (ls : List Fld) : Prop := (∀ x ∈ ls, x.1.length ≤ 140737488351232 ∧ x.2.length ≤ 140737488351232) ∧ ls.length * 32 ≤ 140737488353000
/-- What a list that came in is at most: some room is left for fields that a law itself adds. -/
def Slim (ls : List Fld) : Prop := (∀ x ∈ ls, x.1.length ≤ 140737488351232 ∧ x.2.length ≤ 140737488351232) ∧ ls.length * 32 ≤ 140737488351232
theorem Slim.wide {ls : List Fld} (h : Slim ls) : Wide ls := ⟨h.1, Nat.le_trans h.2 (by decide)⟩
theorem Slim.filter {ls : List Fld} (h : Slim ls) (p : Fld → Bool) : Slim (ls.filter p) := by
  refine ⟨fun x hx => h.1 x (List.mem_filter.1 hx).1, ?_⟩
  have := List.length_filter_le p ls
  have := h.2
  omega
theorem Wide.filter {ls : List Fld} (h : Wide ls) (p : Fld → Bool) : Wide (ls.filter p) := by
  refine ⟨fun x hx => h.1 x (List.mem_filter.1 hx).1, ?_⟩
  have := List.length_filter_le p ls
  have := h.2
  omega
theorem Wide.take {ls : List Fld} (h : Wide ls) (k : Nat) : Wide (ls.take k) := by
  refine ⟨fun x hx => h.1 x (List.mem_of_mem_take hx), ?_⟩
  have := List.length_take_le' k ls
  have := h.2
  omega
theorem Wide.drop {ls : List Fld} (h : Wide ls) (k : Nat) : Wide (ls.drop k) := by
  refine ⟨fun x hx => h.1 x (List.mem_of_mem_drop hx), ?_⟩
  have := h.2
  rw [List.length_drop]
  omega
theorem filter_take (ls : List Fld) (p : Fld → Bool) (k : Nat) (h : k < ls.length) : (ls.take (k + 1)).filter p = (ls.take k).filter p ++ (if p ls[k] then [ls[k]] else []) := by
  rw [List.take_succ_eq_append_getElem h, List.filter_append]
  congr 1
  rw [List.filter_cons]; rfl

set_option maxHeartbeats 2000000 in
set_option maxRecDepth 100000 in
theorem pick_any (v f : Value) (ls : List Fld) (p : Fld → Bool) (w : World) (hf : Fl w v ls) (hl : Wide ls) (hp : Pred w f p) :
    Calls Tryz.prog 41 #[v, f] w fun e w' => ∃ v', e = .returned v' ∧ w'.ownsRow w.heap.size 26 2 v' (ls.filter p).length (flds (ls.filter p)) ∧ Below w.heap.size w w' := by
  obtain ⟨i0, hi, hz0, hz1, hz2⟩ := info_parts infoF
  obtain ⟨ad, cap, hv, hcap, hcm, hc⟩ := hf
  obtain ⟨g0, lb, hfv, eg, hpc⟩ := hp
  subst hv hfv
  have HC : Hid (0 < ls.length → ∃ g off, ad = some ⟨g, off, none⟩ ∧ g < w.heap.size ∧
    ∀ (k : Nat) (h : k < ls.length), w.cell? ⟨g, off + k * 2, none⟩ = some (.string ⟨(ls[k]).1.toArray⟩) ∧ w.cell? ⟨g, off + k * 2 + 1, none⟩ = some (.string ⟨(ls[k]).2.toArray⟩)) := hc
  have HPC : Hid (∀ (W : World) (n u : ByteArray), Below w.heap.size w W → n.size ≤ 140737488351232 → Calls Tryz.prog g0 (#[.agg #[.string n, .string u]] ++ lb) W fun e w' => e = .returned (.bool (p (n.data.toList, u.data.toList))) ∧ Below W.heap.size W w') := hpc
  have HL : Hid (Wide ls) := hl
  have hll := hl.2
  clear hc hpc hl
  unfold maxLen at hcm
  go_enter Tryz.func41, Tryz.ntmps41
  go_wp2_with fail
  go_loopw [5, 10] (fun o i wr => ∃ k : Nat, k ≤ ls.length ∧ i = .int .i64 k ∧ wr.ownsRow w.heap.size 26 2 o ((ls.take k).filter p).length (flds ((ls.take k).filter p)) ∧ Below w.heap.size w wr) (fun _ i _ => ls.length - (intOf i).toNat)
  case atStart => exact ⟨0, Nat.zero_le _, rfl, World.ownsRow_nil _ _ _ _, Below.refl _ _⟩
  case round =>
    obtain ⟨k, hk, rfl, hown, hw⟩ := hrel
    have hsz := hw.size
    by_cases hlt : k < ls.length
    · obtain ⟨g, off, rfl, hgs, hce⟩ := HC.out (by omega)
      obtain ⟨c1, c2⟩ := hce k hlt
      have hmo := HL.out.1 ls[k] (List.getElem_mem hlt)
      obtain ⟨n, hn⟩ : ∃ n : ByteArray, n = ⟨(ls[k]).1.toArray⟩ := ⟨_, rfl⟩
      obtain ⟨u, hu⟩ : ∃ u : ByteArray, u = ⟨(ls[k]).2.toArray⟩ := ⟨_, rfl⟩
      have hns : n.size ≤ 140737488351232 := by rw [← size_list, hn]; exact hmo.1
      have hus : u.size ≤ 140737488351232 := by rw [← size_list, hu]; exact hmo.2
      have HE : Hid ((n.data.toList, u.data.toList) = ls[k]) := by show _ = _; rw [hn, hu]
      have d1 : wr.cell? ⟨g, off + k * 2, none⟩ = some (.string n) := by rw [hw.cell (p := ⟨g, off + k * 2, none⟩) hgs, hn]; exact c1
      have d2 : wr.cell? ⟨g, off + k * 2 + 1, none⟩ = some (.string u) := by rw [hw.cell (p := ⟨g, off + k * 2 + 1, none⟩) hgs, hu]; exact c2
      have hgr : g < wr.heap.size := by omega
      clear hce c1 c2 hmo hn hu
      have hki : (k : Int) < (ls.length : Int) := by omega
      have hk0 : (0 : Int) ≤ (k : Int) := by omega
      have HN0 : Hid ((wr.alloc (.cells #[.string n, .string u] 26)).heap[wr.heap.size]? = some (.cells #[.string n, .string u] 26 (0, 0))) := pair_new _ _ _ _
      have hw0 := hw.alloc hsz (.cells #[.string n, .string u] 26)
      have hown0 := hown.alloc (.cells #[.string n, .string u] 26)
      have HF := filter_take ls p k hlt
      have hfl : ((ls.take k).filter p).length ≤ k := by
        have h1 := List.length_filter_le p (ls.take k)
        have h2 := List.length_take_le k ls
        omega
      cases hq : p (n.data.toList, u.data.toList)
      · have HQ : Hid (p (n.data.toList, u.data.toList) = false) := hq
        rw [← HE.out, hq] at HF
        have HF2 : Hid ((ls.take (k + 1)).filter p = (ls.take k).filter p) := by show _ = _; rw [HF]; simp
        clear HF hq hown
        go_wp2_with (go_at_fn g0; refine (HPC.out _ n u hw0 hns).mono ?_; rintro e w2 ⟨rfl, hb2⟩; rw [HQ.out])
        go_roundw
        case rel => exact ⟨k + 1, by omega, by go_num, by rw [HF2.out]; exact own_below3 hown0 hb2, hw0.trans (hb2.mono hw0.size)⟩
        case measure => simp [intOf]; omega
      · have HQ : Hid (p (n.data.toList, u.data.toList) = true) := hq
        rw [← HE.out, hq] at HF
        have HF2 : Hid ((ls.take (k + 1)).filter p = (ls.take k).filter p ++ [(n.data.toList, u.data.toList)]) := by show _ = _; rw [HF]; simp
        clear HF hq hown
        go_wp2_with (go_at_fn g0; refine (HPC.out _ n u hw0 hns).mono ?_; rintro e w2 ⟨rfl, hb2⟩; rw [HQ.out]; have hown2 := own_below3 hown0 hb2; have hw2 := hw0.trans (hb2.mono hw0.size); obtain ⟨n1, n2, n3, n4, n5⟩ := pair_all (pair_below HN0.out hb2))
        refine (fclone_any n u _ (by omega) (by omega)).mono ?_
        rintro e w3 ⟨rfl, hb3⟩
        have hown3 := own_below3 hown2 hb3
        have hw3 := hw2.trans (hb3.mono hw2.size)
        have hsz3 := hw3.size
        clear hown2 hb3 hb2 hown0 n1 n2 n3 n4
        go_wp2_with (at_builtin; refine wpList_append_own _ rfl _ _ 22 rfl w.heap.size 26 i0 (.agg #[.string ⟨#[]⟩, .string ⟨#[]⟩]) 2 32 Tryz.underlying22 hi hz0 hz1 hz2 rfl (by decide) _ _ _ rfl (hown3.alloc _) ⟨w3.heap.size, 0, none⟩ 1 1 [.string n, .string u] rfl rfl ?c1 ?c2 ?c3 ?c4 ?c5 ?_)
        case c1 =>
          intro j z h
          match j, h with
          | 0, h => simp at h; subst h; simp [Addr.add]
          | 1, h => simp at h; subst h; simp [Addr.add]
        case c2 => intro z hx; simp at hx; rcases hx with rfl | rfl <;> rfl
        case c3 => unfold maxLen; omega
        case c4 => omega
        case c5 => simp; omega
        · intro v' w4 hown' hgrow _
          have hB : Below w.heap.size w w4 := (hw3.alloc (by omega) _).grown hgrow (by simp; omega) (fun b hb => ((hown3.alloc (.cells #[.string n, .string u] 26)).lt b hb).1)
          have hown4 : w4.ownsRow w.heap.size 26 2 v' ((ls.take (k + 1)).filter p).length (flds ((ls.take (k + 1)).filter p)) := by
            rw [HF2.out, ← flds_snoc, List.length_append]; exact hown'
          clear hown' hgrow hown3 hw3
          go_wp2_with fail
          go_roundw
          case rel => exact ⟨k + 1, by omega, by go_num, hown4, hB⟩
          case measure => simp [intOf]; omega
    · obtain rfl : k = ls.length := by omega
      rw [List.take_length] at hown
      go_wp2_with fail
      go_ret
      exact ⟨_, rfl, hown, hw⟩
end Go.Proofs.YtigbjhkkbgdkcaaGreatDoor

/-
  The row of the type of texts, and the cells of a block of one; over the program's table of types.
-/
namespace Go.Proofs.YtigbjhkkbgdkcaaGreatDoor
open Go.RowKit

theorem info9 : (Tryz.prog.info? 9).map (fun i => (i.zero, i.size, i.bytes)) = some (some (.string ⟨#[]⟩), 1, 16) := by kernel_rfl
theorem one_cell (w : World) (v : Value) (t : TypeId) : ∀ (j : Nat) u, [v][j]? = some u → (w.alloc (.cells #[v] t)).cell? ((⟨w.heap.size, 0, none⟩ : Addr).add j) = some u := by
  intro j u h
  match j, h with
  | 0, h => simp at h; subst h; simp [Addr.add]
end Go.Proofs.YtigbjhkkbgdkcaaGreatDoor

/-
  Small laws on rows of memory that a call made itself; no program is named here.
-/
namespace Go.Proofs.YtigbjhkkbgdkcaaGreatDoor
open Go.RowKit

theorem own_nil {w : World} {B : Nat} {e : TypeId} {v : Value} {xs : List Value} (h : w.ownsRow B e 1 v 0 xs) : xs = [] := by
  have := h.1
  simpa using this

theorem own_cell {w : World} {B : Nat} {v : Value} {n : Nat} {ps : List (List UInt8)} (h : w.ownsRow B 9 1 v n (strs ps)) : n = ps.length := by
  have := h.1
  rw [strs_length] at this
  omega

theorem own_slice {w : World} {B : Nat} {e : TypeId} {v : Value} {n : Nat} {xs : List Value} (h : w.ownsRow B e 1 v n xs) : ∃ ad cap, v = .slice ad n cap ∧ cap ≤ maxLen ∧ n ≤ cap ∧ (0 < n → ∃ g, ad = some ⟨g, 0, none⟩ ∧ B ≤ g ∧ g < w.heap.size ∧ ∀ j, j < n → w.cell? ⟨g, j, none⟩ = xs[j]?) := by
  rcases h.2 with ⟨rfl, rfl⟩ | ⟨g, cap, cur, hv, hb, hg, hnc, hcm, _, _⟩
  · exact ⟨none, 0, rfl, by unfold maxLen; omega, Nat.le_refl _, fun h => absurd h (by omega)⟩
  · refine ⟨some ⟨g, 0, none⟩, cap, hv, hcm, hnc, fun _ => ⟨g, rfl, hb, (Array.getElem?_eq_some_iff.1 hg).1, fun j hj => ?_⟩⟩
    subst hv
    exact h.cellAt j (by omega)

theorem own_below2 {w w1 : World} {B : Nat} {e : TypeId} {v : Value} {n : Nat} {xs : List Value} (h : w.ownsRow B e 1 v n xs) (hb : Below w.heap.size w w1) : w1.ownsRow B e 1 v n xs := by
  refine ⟨h.1, ?_⟩
  rcases h.2 with h0 | ⟨g, cap, cur, hv, hB, hg, h3⟩
  · exact .inl h0
  · exact .inr ⟨g, cap, cur, hv, hB, (hb.block g (Array.getElem?_eq_some_iff.1 hg).1).trans hg, h3⟩
theorem ownsRow_le' {w : World} {B B' : Nat} {e : TypeId} {v : Value} {n : Nat} {xs : List Value} (h : w.ownsRow B e 1 v n xs) (hb : B' ≤ B) : w.ownsRow B' e 1 v n xs := by
  refine ⟨h.1, ?_⟩
  rcases h.2 with h0 | ⟨g, cap, cur, hv, hB, h3⟩
  · exact .inl h0
  · exact .inr ⟨g, cap, cur, hv, Nat.le_trans hb hB, h3⟩
end Go.Proofs.YtigbjhkkbgdkcaaGreatDoor

/-
  What strings.Join computes, of a row of texts of the call's own.
-/
namespace Go.Proofs.YtigbjhkkbgdkcaaGreatDoor
open Go.RowKit

def bas (ps : List (List UInt8)) : List ByteArray := ps.map fun p => ⟨p.toArray⟩
theorem bas_len (ps : List (List UInt8)) : (bas ps).length = ps.length := by simp [bas]
theorem bas_map (ps : List (List UInt8)) : (bas ps).map (·.data.toList) = ps := by
  induction ps with
  | nil => rfl
  | cons p ps ih => simp [bas] at ih ⊢; exact ih
theorem bas_get (ps : List (List UInt8)) (j : Nat) (x : ByteArray) (h : (bas ps)[j]? = some x) : (strs ps)[j]? = some (.string x) := by
  unfold bas at h
  unfold strs
  rw [List.getElem?_map] at h ⊢
  cases hp : ps[j]? with
  | none => rw [hp] at h; cases h
  | some p => rw [hp] at h; simp at h ⊢; exact h

theorem join_at (v : Value) (ps : List (List UInt8)) (B : Nat) (sep t : ByteArray) (ht : t.data.toList = Lib.join ps sep.data.toList) (w : World) (hown : w.ownsRow B 9 1 v ps.length (strs ps)) (hl : ps.length ≤ 140737488355328) (hj : t.size ≤ 140737488355328) :
    Calls Tryz.prog 83 #[v, .string sep] w fun e w' => e = .returned (.string t) ∧ Below w.heap.size w w' := by
  obtain ⟨ad, cap, hv, hcm, hnc, hc⟩ := own_slice hown
  subst hv
  by_cases h0 : ps.length = 0
  · have hp := List.eq_nil_of_length_eq_zero h0
    subst hp
    refine (Tryz.strings_Join_none ad cap sep w).mono ?_
    rintro e w' ⟨rfl, rfl⟩
    refine ⟨ret_str ?_, Below.refl _ _⟩
    apply ByteArray.ext; apply Array.ext'
    rw [ht]; rfl
  · obtain ⟨g, rfl, hgB, hgs, hce⟩ := hc (by omega)
    have c := Tryz.strings_Join g 0 cap (bas ps) sep w (fun j x hx => by
      have hjl : j < ps.length := by
        rw [← bas_len]
        rcases Nat.lt_or_ge j (bas ps).length with h | h
        · exact h
        · rw [List.getElem?_eq_none h] at hx; cases hx
      rw [Nat.zero_add, hce j hjl]
      exact bas_get ps j x hx) hgs (by rw [bas_len]; omega) (by rw [bas_len]; exact hnc) (by rw [bas_map, ← ht, size_list]; omega)
    rw [bas_len, bas_map] at c
    refine c.mono ?_
    rintro e w' ⟨rfl, hb⟩
    refine ⟨ret_str ?_, hb⟩
    apply ByteArray.ext; apply Array.ext'
    rw [ht]
end Go.Proofs.YtigbjhkkbgdkcaaGreatDoor

/-
  What Get of package field computes; lists and texts are no longer than Go allows, and the values, with what stands between them, fit in 2^47 bytes.
-/
namespace Go.Proofs.YtigbjhkkbgdkcaaGreatDoor
open Go.RowKit

theorem ret_sb {a b : ByteArray} {c d : Bool} (h : a = b) (h' : c = d) : Ending.returned (.tuple #[.string a, .bool c]) = .returned (.tuple #[.string b, .bool d]) := by rw [h, h']

set_option maxHeartbeats 2000000 in
set_option maxRecDepth 100000 in
theorem get_at (v : Value) (ls : List Fld) (s t : ByteArray) (b : Bool) (ht : t.data.toList = jn (vals ls s.data.toList)) (hb : b = !(vals ls s.data.toList).isEmpty) (w : World) (hf : Fl w v ls) (hl : Wide ls) (hs : s.size ≤ 140737488351232) (hj : t.size ≤ 140737488355328) :
    Calls Tryz.prog 54 #[v, .string s] w fun e w' => e = .returned (.tuple #[.string t, .bool b]) ∧ Below w.heap.size w w' := by
  obtain ⟨i0, hi, hz0, hz1, hz2⟩ := info_parts info9
  have HF : Hid (Fl w v ls) := hf
  have HL : Hid (Wide ls) := hl
  have HT : Hid (t.data.toList = jn (vals ls s.data.toList)) := ht
  have HB : Hid (b = !(vals ls s.data.toList).isEmpty) := hb
  clear hf hl ht hb
  go_enter Tryz.func54, Tryz.ntmps54
  go_wp2_with fail
  refine (named_any s _ hs).mono ?_
  rintro e w1 ⟨f, rfl, hp1, hb1⟩
  have HP1 : Hid (Pred w1 f (fun x => lower x.1 == lower s.data.toList)) := hp1
  clear hp1
  go_wp2_with fail
  refine (pick_any _ _ ls _ _ (HF.out.below hb1) HL.out HP1.out).mono ?_
  rintro e w2 ⟨v2, rfl, hown2, hb2⟩
  obtain ⟨P, hP⟩ : ∃ P, P = ls.filter (nm s.data.toList) := ⟨_, rfl⟩
  have HP : Hid (vals ls s.data.toList = P.map (·.2)) := by show _ = _; rw [hP]; rfl
  have hPl : P.length * 32 ≤ 140737488353000 := by rw [hP]; exact (HL.out.filter (nm s.data.toList)).2
  have hF2 : Fl w2 v2 P := by rw [hP]; exact Fl.own hown2
  have hw2 := hb1.trans (hb2.mono hb1.size)
  obtain ⟨ad, cap, hv, hcap, hcm, hc⟩ := hF2
  subst hv
  have HC : Hid (0 < P.length → ∃ g off, ad = some ⟨g, off, none⟩ ∧ g < w2.heap.size ∧
    ∀ (k : Nat) (h : k < P.length), w2.cell? ⟨g, off + k * 2, none⟩ = some (.string ⟨(P[k]).1.toArray⟩) ∧ w2.cell? ⟨g, off + k * 2 + 1, none⟩ = some (.string ⟨(P[k]).2.toArray⟩)) := hc
  clear hc hown2 hb2 hb1 HP1 hP
  unfold maxLen at hcm
  have hsz2 := hw2.size
  go_wp2_with fail
  go_loopw [6, 14] (fun o i wr => ∃ k : Nat, k ≤ P.length ∧ i = .int .i64 k ∧ wr.ownsRow w2.heap.size 9 1 o ((P.take k).map (·.2)).length (strs ((P.take k).map (·.2))) ∧ Below w2.heap.size w2 wr) (fun _ i _ => P.length - (intOf i).toNat)
  case atStart => exact ⟨0, Nat.zero_le _, rfl, by simpa [strs] using World.ownsRow_nil w2 w2.heap.size 9 1, Below.refl _ _⟩
  case round =>
    obtain ⟨k, hk, rfl, hown, hw⟩ := hrel
    have hsz := hw.size
    have hml : ((P.take k).map (·.2)).length = k := by rw [List.length_map, List.length_take]; omega
    by_cases hlt : k < P.length
    · obtain ⟨g, off, rfl, hgs, hce⟩ := HC.out (by omega)
      obtain ⟨c1, c2⟩ := hce k hlt
      obtain ⟨n, hn⟩ : ∃ n : ByteArray, n = ⟨(P[k]).1.toArray⟩ := ⟨_, rfl⟩
      obtain ⟨u, hu⟩ : ∃ u : ByteArray, u = ⟨(P[k]).2.toArray⟩ := ⟨_, rfl⟩
      have HE : Hid ((P.take (k + 1)).map (·.2) = (P.take k).map (·.2) ++ [u.data.toList]) := by
        show _ = _
        rw [List.take_succ_eq_append_getElem hlt, List.map_append, hu]; rfl
      have d1 : wr.cell? ⟨g, off + k * 2, none⟩ = some (.string n) := by rw [hw.cell (p := ⟨g, off + k * 2, none⟩) hgs, hn]; exact c1
      have d2 : wr.cell? ⟨g, off + k * 2 + 1, none⟩ = some (.string u) := by rw [hw.cell (p := ⟨g, off + k * 2 + 1, none⟩) hgs, hu]; exact c2
      have hgr : g < wr.heap.size := by omega
      clear hce c1 c2 hn hu
      have hki : (k : Int) < (P.length : Int) := by omega
      have hk0 : (0 : Int) ≤ (k : Int) := by omega
      have hown0 := hown.alloc (.cells #[.string n, .string u] 26)
      have hw0 := hw.alloc hsz (.cells #[.string n, .string u] 26)
      have HML : Hid (((P.take k).map (·.2)).length = k) := hml
      clear hown hml
      go_wp2_with (at_builtin; refine wpList_append_own _ rfl _ _ 50 rfl w2.heap.size 9 i0 (.string ⟨#[]⟩) 1 16 Tryz.underlying50 hi hz0 hz1 hz2 rfl (by decide) _ _ _ rfl (hown0.alloc _) ⟨wr.heap.size + 1, 0, none⟩ 1 1 [.string u] rfl rfl ?c1 ?c2 ?c3 ?c4 ?c5 ?_)
      case c2 => rfl
      case c3 => unfold maxLen; omega
      case c4 => omega
      case c5 => omega
      · intro v' w4 hown' hgrow _
        have hB : Below w2.heap.size w2 w4 := (hw0.alloc (by simp; omega) _).grown hgrow (by simp; omega) (fun b hb => ((hown0.alloc (.cells #[.string u] 9)).lt b hb).1)
        have hown4 : w4.ownsRow w2.heap.size 9 1 v' ((P.take (k + 1)).map (·.2)).length (strs ((P.take (k + 1)).map (·.2))) := by
          rw [HE.out, ← strs_snoc, List.length_append, HML.out, List.map_take]; exact hown'
        clear hown' hgrow hown0 hw0
        go_wp2_with fail
        go_roundw
        case rel => exact ⟨k + 1, by omega, by go_num, hown4, hB⟩
        case measure => simp [intOf]; omega
    · obtain rfl : k = P.length := by omega
      rw [List.take_length] at hown
      have HJ : Hid (t.data.toList = Lib.join (P.map (·.2)) (⟨#[44, 32]⟩ : ByteArray).data.toList) := by show _ = _; rw [← HP.out]; exact HT.out
      obtain ⟨ad', cap', hv', hcm', hnc', hcx⟩ := own_slice hown
      have hml2 : (P.map (·.2)).length = P.length := List.length_map _
      have HBB : Hid (decide (0 < P.length) = b) := by
        show _ = _
        rw [HB.out, HP.out]
        cases P <;> simp
      have HO : Hid (wr.ownsRow w2.heap.size 9 1 (.slice ad' (P.map (·.2)).length cap') (P.map (·.2)).length (strs (P.map (·.2)))) := by show World.ownsRow _ _ _ _ _ _ _; rw [← hv']; exact hown
      subst hv'
      clear hcx hown
      rw [hml2] at HO hnc' ⊢
      go_wp2_with fail
      refine (join_at _ (P.map (·.2)) w2.heap.size _ t HJ.out _ (by rw [hml2]; exact HO.out) (by rw [hml2]; omega) hj).mono ?_
      rintro e w5 ⟨rfl, hb5⟩
      have hw5 := hw2.trans ((hw.trans (hb5.mono hsz)).mono hsz2)
      go_wp2_with fail
      go_ret2
      exact ⟨ret_sb rfl HBB.out, hw5⟩
end Go.Proofs.YtigbjhkkbgdkcaaGreatDoor

/-
  A text without its end or its beginning, and whether it has it; no program is named here.
-/
namespace Go.Proofs.YtigbjhkkbgdkcaaGreatDoor
open Go.RowKit

/-- A text without its end, and whether it ends so. -/
def cutSuf (s p : List UInt8) : List UInt8 × Bool := (Lib.trimSuffix s p, Lib.hasSuffix s p)
/-- A text without its beginning, and whether it begins so. -/
def cutPre (s p : List UInt8) : List UInt8 × Bool := (Lib.trimPrefix s p, Lib.hasPrefix s p)
end Go.Proofs.YtigbjhkkbgdkcaaGreatDoor

/-
  Entity tags in plain lists: Parse by taking off what stands ahead and behind; no program is named here.
-/
namespace Go.Proofs.YtigbjhkkbgdkcaaGreatDoor
open Go.RowKit

/-- What is wrong with a tag's text. -/
def chE (x : List UInt8) : Int := if 100 < x.length then 2 else if x.all etB = true then 0 else 3
theorem prE_ch (t : Tg) : prE t = if chE t.2 = 0 then (prG t, 0) else ([], chE t.2) := by
  unfold prE chE
  by_cases h1 : 100 < t.2.length
  · rw [if_pos h1, if_pos h1, if_neg (by decide)]
  · rw [if_neg h1, if_neg h1]
    cases h2 : t.2.all etB <;> rfl
theorem paE_parts (s r b t : List UInt8) (wk op cl : Bool) (h1 : cutPre s [87, 47] = (r, wk)) (h2 : cutPre r [34] = (b, op)) (h3 : cutSuf b [34] = (t, cl)) :
    paE s = if op = true ∧ cl = true ∧ chE t = 0 then ((wk, t), 0) else ((false, []), 3) := by
  unfold cutPre at h1 h2
  unfold cutSuf at h3
  simp only [Prod.mk.injEq] at h1 h2 h3
  obtain ⟨h1, h1'⟩ := h1
  obtain ⟨h2, h2'⟩ := h2
  obtain ⟨h3, h3'⟩ := h3
  by_cases hc : op = true ∧ cl = true ∧ chE t = 0
  · obtain ⟨ho, hl, ht⟩ := hc
    subst ho hl
    rw [if_pos ⟨rfl, rfl, ht⟩]
    have e1 : b = t ++ [34] := by
      have := suf_yes b 34 h3'
      unfold Lib.trimSuffix at h3
      rw [h3', if_pos rfl] at h3
      rw [← h3]
      simpa using this
    have e2 : r = 34 :: b := by
      have := pre_yes r 34 h2'
      unfold Lib.trimPrefix at h2
      rw [h2', if_pos rfl] at h2
      rw [← h2]; exact this
    have e3 : s = prG (wk, t) := by
      unfold prG
      unfold Lib.trimPrefix at h1
      rw [h1'] at h1
      cases wk
      · rw [if_neg (by decide)] at h1
        rw [h1, e2, e1]; rfl
      · rw [if_pos rfl] at h1
        obtain ⟨u, hu⟩ := List.isPrefixOf_iff_prefix.1 h1'
        rw [← hu] at h1 ⊢
        have : u = r := h1
        rw [this, e2, e1]; rfl
    have hp : prE (wk, t) = (prG (wk, t), 0) := by rw [prE_ch, if_pos ht]
    have := paE_back (wk, t) (by rw [hp])
    rw [hp] at this
    rw [e3]; exact this
  · rw [if_neg hc]
    rcases paE_cases s with ⟨u, hu, hs, hl, ha⟩ | h
    · exfalso
      apply hc
      have hw := weak_prG u
      rw [← hs] at hw
      unfold weakB at hw
      have hr : r = 34 :: (u.2 ++ [34]) := by
        rw [← h1]
        unfold Lib.trimPrefix
        rw [hw, hs]
        unfold prG
        cases u.1 <;> rfl
      have hb : b = u.2 ++ [34] ∧ op = true := by
        subst hr
        exact ⟨by rw [← h2]; rfl, by rw [← h2']; rfl⟩
      have hsf : Lib.hasSuffix b [34] = true := by
        unfold Lib.hasSuffix; rw [hb.1]; exact List.isSuffixOf_iff_suffix.2 ⟨u.2, rfl⟩
      have ht : t = u.2 := by
        rw [← h3]
        unfold Lib.trimSuffix
        rw [hsf, if_pos rfl, hb.1]; simp
      refine ⟨hb.2, by rw [← h3']; exact hsf, ?_⟩
      rw [ht]
      unfold chE
      rw [if_neg (by omega), if_pos ha]
    · exact h
end Go.Proofs.YtigbjhkkbgdkcaaGreatDoor

/-
  What mayStand and check of package etag compute; a text is no longer than Go allows.
-/
namespace Go.Proofs.YtigbjhkkbgdkcaaGreatDoor
open Go.RowKit

theorem etB_iff (c : UInt8) : etB c = decide (33 ≤ (c.toNat : Int) ∧ (c.toNat : Int) ≤ 126 ∧ (c.toNat : Int) ≠ 34) := by
  have := byAll (fun c => decide (etB c = decide (33 ≤ (c.toNat : Int) ∧ (c.toNat : Int) ≤ 126 ∧ (c.toNat : Int) ≠ 34))) (by decide +kernel) c
  exact of_decide_eq_true this
set_option maxHeartbeats 400000 in
set_option maxRecDepth 100000 in
theorem emay_any (c : UInt8) (w : World) :
    Calls Tryz.prog 44 #[.int .u8 (c.toNat : Int)] w fun e w' => e = .returned (.bool (etB c)) ∧ w' = w := by
  have hlt : (c.toNat : Int) < 256 := by have := c.toNat_lt; omega
  rw [etB_iff]
  rcases (show (c.toNat : Int) < 33 ∨ (c.toNat : Int) = 33 ∨ (c.toNat : Int) = 34 ∨ (35 ≤ (c.toNat : Int) ∧ (c.toNat : Int) ≤ 126) ∨ 127 ≤ (c.toNat : Int) from by omega) with h | h | h | ⟨h, h'⟩ | h
  · rw [decide_eq_false (by omega)]
    go_enter Tryz.func44, Tryz.ntmps44
    go_wp2
    go_ret
    exact ⟨ret_bool (by simp; try omega), rfl⟩
  · rw [decide_eq_true (by omega)]
    go_enter Tryz.func44, Tryz.ntmps44
    go_wp2
    go_ret
    exact ⟨ret_bool (by simp; try omega), rfl⟩
  · rw [decide_eq_false (by omega)]
    go_enter Tryz.func44, Tryz.ntmps44
    go_wp2
    go_ret
    exact ⟨ret_bool (by simp; try omega), rfl⟩
  · rw [decide_eq_true (by omega)]
    have hn : ¬ (c.toNat : Int) = 34 := by omega
    go_enter Tryz.func44, Tryz.ntmps44
    go_wp2
    go_ret
    exact ⟨ret_bool (by simp; try omega), rfl⟩
  · rw [decide_eq_false (by omega)]
    go_enter Tryz.func44, Tryz.ntmps44
    go_wp2
    go_ret
    exact ⟨ret_bool (by simp; try omega), rfl⟩
set_option maxHeartbeats 1000000 in
set_option maxRecDepth 100000 in
theorem echeck_any (s : ByteArray) (w : World) :
    Calls Tryz.prog 24 #[.string s] w fun e w' => e = .returned (.int .i64 (chE s.data.toList)) ∧ w' = w := by
  by_cases hs : s.size ≤ 100
  · have hsi : ¬ (100 : Int) < (s.size : Int) := by omega
    have HL : Hid (chE s.data.toList = if s.data.toList.all etB = true then 0 else 3) := by
      show _ = _
      unfold chE; rw [if_neg (by rw [size_list]; omega)]
    go_enter Tryz.func24, Tryz.ntmps24
    go_wp2_with fail
    go_loop [9] (fun i => ∃ k : Nat, k ≤ s.size ∧ i = .int .i64 k ∧ (s.data.toList.take k).all etB = true) (fun i => s.size - (intOf i).toNat)
    case atStart => exact ⟨0, Nat.zero_le _, rfl, rfl⟩
    case round =>
      obtain ⟨k, hk, rfl, hall⟩ := hrel
      have HA : Hid ((s.data.toList.take k).all etB = true) := hall
      clear hall
      by_cases hlt : k < s.size
      · cases ht : etB s[k]
        · have HT : Hid (etB s[k] = false) := ht
          clear ht
          go_wp2_with fail
          refine (emay_any _ _).mono ?_
          rintro e w' ⟨rfl, rfl⟩
          rw [HT.out]
          go_wp2_with fail
          go_ret
          refine ⟨?_, rfl⟩
          rw [HL.out, all_false s etB k hlt HT.out]; rfl
        · have HT : Hid (etB s[k] = true) := ht
          clear ht
          go_wp2_with fail
          refine (emay_any _ _).mono ?_
          rintro e w' ⟨rfl, rfl⟩
          rw [HT.out]
          go_wp2_with fail
          go_round
          case rel => exact ⟨k + 1, by omega, by go_num, by rw [take_snoc s k hlt, List.all_append, HA.out, Bool.true_and, List.all_cons, HT.out]; rfl⟩
          case measure => simp [intOf]; omega
      · obtain rfl : k = s.size := by omega
        go_wp2_with fail
        go_ret
        have h := HA.out
        rw [take_all] at h
        refine ⟨?_, rfl⟩
        rw [HL.out, h]; rfl
  · have hsi : (100 : Int) < (s.size : Int) := by omega
    have HL : Hid (chE s.data.toList = 2) := by
      show _ = _
      unfold chE; rw [if_pos (by rw [size_list]; omega)]
    go_enter Tryz.func24, Tryz.ntmps24
    go_wp2_with fail
    go_ret
    rw [HL.out]
    exact ⟨rfl, rfl⟩
theorem echeck_is (s : ByteArray) (c : Int) (h : chE s.data.toList = c) (w : World) :
    Calls Tryz.prog 24 #[.string s] w fun e w' => e = .returned (.int .i64 c) ∧ w' = w := by
  rw [← h]; exact echeck_any s w
end Go.Proofs.YtigbjhkkbgdkcaaGreatDoor

/-
  What strings.CutSuffix computes; a string is no longer than Go allows.
-/
namespace Go.Proofs.YtigbjhkkbgdkcaaGreatDoor
open Go.RowKit

theorem scutSuf_at (s p a : ByteArray) (f : Bool) (h : cutSuf s.data.toList p.data.toList = (a.data.toList, f)) (w : World) (hs : s.size ≤ 9223372036854775807) :
    Calls Tryz.prog 30 #[.string s, .string p] w fun e w' => e = .returned (.tuple #[.string a, .bool f]) ∧ w' = w := by
  refine (Tryz.strings_CutSuffix s p w hs).mono ?_
  rintro e w' ⟨rfl, rfl⟩
  refine ⟨?_, rfl⟩
  unfold cutSuf at h
  simp only [Prod.mk.injEq] at h
  rw [h.1, h.2]
end Go.Proofs.YtigbjhkkbgdkcaaGreatDoor

/-
  What strings.CutPrefix computes; a string is no longer than Go allows.
-/
namespace Go.Proofs.YtigbjhkkbgdkcaaGreatDoor
open Go.RowKit

theorem scutPre_at (s p a : ByteArray) (f : Bool) (h : cutPre s.data.toList p.data.toList = (a.data.toList, f)) (w : World) :
    Calls Tryz.prog 29 #[.string s, .string p] w fun e w' => e = .returned (.tuple #[.string a, .bool f]) ∧ w' = w := by
  refine (Tryz.strings_CutPrefix s p w).mono ?_
  rintro e w' ⟨rfl, rfl⟩
  refine ⟨?_, rfl⟩
  unfold cutPre at h
  simp only [Prod.mk.injEq] at h
  rw [h.1, h.2]
end Go.Proofs.YtigbjhkkbgdkcaaGreatDoor

/-
  Two cells of a block that are written one behind the other, and pairs; no program is named here.
-/
namespace Go.Proofs.YtigbjhkkbgdkcaaGreatDoor
open Go.RowKit

theorem two_set {w : World} {B : Nat} {u0 u1 : Value} (a b : Value) (h0 : w.cell? ⟨B, 0, none⟩ = some u0) (h1 : w.cell? ⟨B, 1, none⟩ = some u1) :
    ((w.setCell ⟨B, 0, none⟩ a).setCell ⟨B, 1, none⟩ b).cell? ⟨B, 0, none⟩ = some a ∧ ((w.setCell ⟨B, 0, none⟩ a).setCell ⟨B, 1, none⟩ b).cell? ⟨B, 1, none⟩ = some b := by
  have e : (w.setCell ⟨B, 0, none⟩ a).cell? ⟨B, 1, none⟩ = some u1 := (World.cell?_setCell_other _ _ _ _ (by simp)).trans h1
  exact ⟨(World.cell?_setCell_other _ _ _ _ (by simp)).trans (World.cell?_setCell_same' _ _ _ (by rw [h0]; rfl)), World.cell?_setCell_same' _ _ _ (by rw [e]; rfl)⟩
theorem pair_bi (p : List UInt8 × Int) : ∃ (t : ByteArray) (c : Int), p = (t.data.toList, c) := ⟨⟨p.1.toArray⟩, p.2, rfl⟩
theorem et_two {a b : ByteArray} {c d : Int} (h : a.data.toList = b.data.toList) (h' : c = d) : Ending.returned (.tuple #[.string a, .int .i64 c]) = .returned (.tuple #[.string b, .int .i64 d]) := by
  rw [h', show a = b from by apply ByteArray.ext; apply Array.ext'; exact h]
end Go.Proofs.YtigbjhkkbgdkcaaGreatDoor

/-
  What Parse of package etag computes.
-/
namespace Go.Proofs.YtigbjhkkbgdkcaaGreatDoor
open Go.RowKit

theorem cutPre_len {s r p : List UInt8} {f : Bool} (h : cutPre s p = (r, f)) : r.length ≤ s.length := by
  unfold cutPre Lib.trimPrefix at h
  simp only [Prod.mk.injEq] at h
  rw [← h.1]; split
  · rw [List.length_drop]; omega
  · exact Nat.le_refl _
theorem cutSuf_len {s r p : List UInt8} {f : Bool} (h : cutSuf s p = (r, f)) : r.length ≤ s.length := by
  unfold cutSuf Lib.trimSuffix at h
  simp only [Prod.mk.injEq] at h
  rw [← h.1]; split
  · rw [List.length_take]; omega
  · exact Nat.le_refl _
set_option maxHeartbeats 2000000 in
set_option maxRecDepth 100000 in
theorem eparse_at (s x : ByteArray) (k : Bool) (c : Int) (h : paE s.data.toList = ((k, x.data.toList), c)) (w : World) (hs : s.size ≤ 140737488351232) :
    Calls Tryz.prog 16 #[.string s] w fun e w' => e = .returned (.tuple #[.agg #[.bool k, .string x], .int .i64 c]) ∧ Below w.heap.size w w' := by
  obtain ⟨r, wk, h1⟩ : ∃ (r : ByteArray) (wk : Bool), cutPre s.data.toList [87, 47] = (r.data.toList, wk) := ⟨⟨(Lib.trimPrefix s.data.toList [87, 47]).toArray⟩, Lib.hasPrefix s.data.toList [87, 47], rfl⟩
  obtain ⟨b, op, h2⟩ : ∃ (b : ByteArray) (op : Bool), cutPre r.data.toList [34] = (b.data.toList, op) := ⟨⟨(Lib.trimPrefix r.data.toList [34]).toArray⟩, Lib.hasPrefix r.data.toList [34], rfl⟩
  obtain ⟨t, cl, h3⟩ : ∃ (t : ByteArray) (cl : Bool), cutSuf b.data.toList [34] = (t.data.toList, cl) := ⟨⟨(Lib.trimSuffix b.data.toList [34]).toArray⟩, Lib.hasSuffix b.data.toList [34], rfl⟩
  have hb : b.size ≤ 140737488351232 ∧ t.size ≤ 140737488351232 := by
    have l1 := cutPre_len h1
    have l2 := cutPre_len h2
    have l3 := cutSuf_len h3
    rw [size_list, size_list] at l1 l2 l3
    omega
  obtain ⟨hb, ht⟩ := hb
  have hp := paE_parts _ _ _ _ _ _ _ h1 h2 h3
  rw [h] at hp
  have H1 : Hid (cutPre s.data.toList (⟨#[87, 47]⟩ : ByteArray).data.toList = (r.data.toList, wk)) := h1
  have H2 : Hid (cutPre r.data.toList (⟨#[34]⟩ : ByteArray).data.toList = (b.data.toList, op)) := h2
  have H3 : Hid (cutSuf b.data.toList (⟨#[34]⟩ : ByteArray).data.toList = (t.data.toList, cl)) := h3
  obtain ⟨ce, hce⟩ : ∃ ce, chE t.data.toList = ce := ⟨_, rfl⟩
  have HCE : Hid (chE t.data.toList = ce) := hce
  rw [hce] at hp
  clear h h1 h2 h3 hce
  by_cases hok : op = true ∧ cl = true ∧ ce = 0
  · rw [if_pos hok] at hp
    obtain ⟨rfl, rfl, rfl⟩ := hok
    obtain ⟨hp1, hp2⟩ := Prod.mk.inj hp
    obtain ⟨hp3, hp4⟩ := Prod.mk.inj hp1
    obtain rfl : k = wk := hp3
    obtain rfl : x = t := ByteArray.ext (Array.ext' hp4)
    obtain rfl : c = 0 := hp2
    clear hp hp1 hp4
    go_enter Tryz.func16, Tryz.ntmps16
    go_wp2_with fail
    refine (scutPre_at s _ r k H1.out _).mono ?_
    rintro e w1 ⟨rfl, rfl⟩
    go_wp2_with fail
    refine (scutPre_at r _ b true H2.out _).mono ?_
    rintro e w1 ⟨rfl, rfl⟩
    go_wp2_with fail
    refine (scutSuf_at b _ x true H3.out _ (by omega)).mono ?_
    rintro e w1 ⟨rfl, rfl⟩
    go_wp2_with fail
    refine (echeck_is x 0 HCE.out _).mono ?_
    rintro e w1 ⟨rfl, rfl⟩
    go_wp2_with fail
    refine (clone_big x _ (by omega)).mono ?_
    rintro e w3 ⟨rfl, hb3⟩
    have hf0 : w3.cell? ⟨w.heap.size, 0, none⟩ = some (.bool false) := (hb3.cell (p := ⟨w.heap.size, 0, none⟩) (by simp)).trans (by simp)
    have hf1 : w3.cell? ⟨w.heap.size, 1, none⟩ = some (.string ⟨#[]⟩) := (hb3.cell (p := ⟨w.heap.size, 1, none⟩) (by simp)).trans (by simp)
    have hfz : ∀ o, w3.frozen? ⟨w.heap.size, o, none⟩ = false := fun o => (hb3.frozen (p := ⟨w.heap.size, o, none⟩) (by simp)).trans (by simp)
    have hz0 := hfz 0
    have hz1 := hfz 1
    have hbel : Below w.heap.size w w3 := ((Below.refl _ w).alloc (Nat.le_refl _) _).trans (hb3.mono (by simp))
    have hgs3 : w.heap.size < w3.heap.size := by have := hb3.size; simp at this; omega
    clear hb3 hfz
    go_wp2_with fail
    obtain ⟨c0, c1⟩ := two_set (.bool k) (.string x) hf0 hf1
    obtain ⟨w4, hw4⟩ : ∃ w4, w4 = (w3.setCell ⟨w.heap.size, 0, none⟩ (.bool k)).setCell ⟨w.heap.size, 1, none⟩ (.string x) := ⟨_, rfl⟩
    have hb4 : Below w.heap.size w w4 := by rw [hw4]; exact (hbel.setCell (p := ⟨w.heap.size, 0, none⟩) (Nat.le_refl _) _).setCell (p := ⟨w.heap.size, 1, none⟩) (Nat.le_refl _) _
    rw [← hw4] at c0 c1 ⊢
    clear hw4
    refine bodyPost_ret (by simp [results, Tryz.results16, go_sem, c0, c1]; try rfl) rfl ?_
    exact ⟨rfl, hb4⟩
  · rw [if_neg hok] at hp
    obtain ⟨hp1, hp2⟩ := Prod.mk.inj hp
    obtain ⟨hp3, hp4⟩ := Prod.mk.inj hp1
    obtain rfl : k = false := hp3
    obtain rfl : x = ⟨#[]⟩ := ByteArray.ext (Array.ext' hp4)
    obtain rfl : c = 3 := hp2
    clear hp hp1 hp4
    have fin : ∀ w3 : World, w3 = w.alloc (.cells #[.bool false, .string ⟨#[]⟩] 30) → w3.cell? ⟨w.heap.size, 0, none⟩ = some (.bool false) ∧ w3.cell? ⟨w.heap.size, 1, none⟩ = some (.string ⟨#[]⟩) ∧ w3.frozen? ⟨w.heap.size, 0, none⟩ = false ∧ w3.frozen? ⟨w.heap.size, 1, none⟩ = false ∧ Below w.heap.size w w3 ∧ w.heap.size < w3.heap.size := by
      rintro w3 rfl
      refine ⟨by simp, by simp, by simp, by simp, (Below.refl _ w).alloc (Nat.le_refl _) _, by simp⟩
    have FIN : Hid (∀ w3 : World, w3 = w.alloc (.cells #[.bool false, .string ⟨#[]⟩] 30) → w3.cell? ⟨w.heap.size, 0, none⟩ = some (.bool false) ∧ w3.cell? ⟨w.heap.size, 1, none⟩ = some (.string ⟨#[]⟩) ∧ w3.frozen? ⟨w.heap.size, 0, none⟩ = false ∧ w3.frozen? ⟨w.heap.size, 1, none⟩ = false ∧ Below w.heap.size w w3 ∧ w.heap.size < w3.heap.size) := fin
    clear fin
    by_cases hoc : op = true ∧ cl = true
    · obtain ⟨rfl, rfl⟩ := hoc
      have hcb : (ce != 0) = true := by simpa using hok
      clear hok
      go_enter Tryz.func16, Tryz.ntmps16
      go_wp2_with fail
      refine (scutPre_at s _ r wk H1.out _).mono ?_
      rintro e w1 ⟨rfl, rfl⟩
      go_wp2_with fail
      refine (scutPre_at r _ b true H2.out _).mono ?_
      rintro e w1 ⟨rfl, rfl⟩
      go_wp2_with fail
      refine (scutSuf_at b _ t true H3.out _ (by omega)).mono ?_
      rintro e w1 ⟨rfl, rfl⟩
      go_wp2_with fail
      refine (echeck_is t ce HCE.out _).mono ?_
      rintro e w3 ⟨rfl, hw3⟩
      obtain ⟨hf0, hf1, hz0, hz1, hbel, hgs3⟩ := FIN.out w3 hw3
      clear hw3 FIN
      go_wp2_with fail
      obtain ⟨c0, c1⟩ := two_set (.bool false) (.string ⟨#[]⟩) hf0 hf1
      obtain ⟨w4, hw4⟩ : ∃ w4, w4 = (w3.setCell ⟨w.heap.size, 0, none⟩ (.bool false)).setCell ⟨w.heap.size, 1, none⟩ (.string ⟨#[]⟩) := ⟨_, rfl⟩
      have hb4 : Below w.heap.size w w4 := by rw [hw4]; exact (hbel.setCell (p := ⟨w.heap.size, 0, none⟩) (Nat.le_refl _) _).setCell (p := ⟨w.heap.size, 1, none⟩) (Nat.le_refl _) _
      rw [← hw4] at c0 c1 ⊢
      clear hw4
      refine bodyPost_ret (by simp [results, Tryz.results16, go_sem, c0, c1]; try rfl) rfl ?_
      exact ⟨rfl, hb4⟩
    · have hd : op = false ∨ op = true ∧ cl = false := by
        cases op
        · exact .inl rfl
        · cases cl
          · exact .inr ⟨rfl, rfl⟩
          · exact absurd ⟨rfl, rfl⟩ hoc
      clear hoc hok
      rcases hd with rfl | ⟨rfl, rfl⟩
      all_goals
        go_enter Tryz.func16, Tryz.ntmps16
        go_wp2_with fail
        refine (scutPre_at s _ r wk H1.out _).mono ?_
        rintro e w1 ⟨rfl, rfl⟩
        go_wp2_with fail
        refine (scutPre_at r _ b _ H2.out _).mono ?_
        rintro e w1 ⟨rfl, rfl⟩
        go_wp2_with fail
        refine (scutSuf_at b _ t _ H3.out _ (by omega)).mono ?_
        rintro e w3 ⟨rfl, hw3⟩
        obtain ⟨hf0, hf1, hz0, hz1, hbel, hgs3⟩ := FIN.out w3 hw3
        clear hw3 FIN
        go_wp2_with fail
        obtain ⟨c0, c1⟩ := two_set (.bool false) (.string ⟨#[]⟩) hf0 hf1
        obtain ⟨w4, hw4⟩ : ∃ w4, w4 = (w3.setCell ⟨w.heap.size, 0, none⟩ (.bool false)).setCell ⟨w.heap.size, 1, none⟩ (.string ⟨#[]⟩) := ⟨_, rfl⟩
        have hb4 : Below w.heap.size w w4 := by rw [hw4]; exact (hbel.setCell (p := ⟨w.heap.size, 0, none⟩) (Nat.le_refl _) _).setCell (p := ⟨w.heap.size, 1, none⟩) (Nat.le_refl _) _
        rw [← hw4] at c0 c1 ⊢
        clear hw4
        refine bodyPost_ret (by simp [results, Tryz.results16, go_sem, c0, c1]; try rfl) rfl ?_
        exact ⟨rfl, hb4⟩
end Go.Proofs.YtigbjhkkbgdkcaaGreatDoor

/-
  What trim of package token and strings.Clone compute; a text is no longer than Go allows.
-/
namespace Go.Proofs.YtigbjhkkbgdkcaaGreatDoor
open Go.RowKit

set_option maxRecDepth 100000 in
theorem trim_at (s t : ByteArray) (ht : t.data.toList = trimL s.data.toList) (w : World) (hs : s.size ≤ 100000) :
    Calls Tryz.prog 109 #[.string s] w fun e w' => e = .returned (.string t) ∧ Below w.heap.size w w' := by
  have HT : Hid (t.data.toList = trimL s.data.toList) := ht
  clear ht
  go_enter Tryz.func109, Tryz.ntmps109
  go_wp2_with fail
  refine (Tryz.strings_Trim_set s ⟨#[32, 9]⟩ _ (by omega) (by decide) (ascii_of_all (by decide))).mono ?_
  rintro e w1 ⟨rfl, hb⟩
  go_wp2_with fail
  go_ret
  refine ⟨ret_str ?_, hb⟩
  apply ByteArray.ext
  apply Array.ext'
  rw [HT.out]
  rfl

set_option maxRecDepth 100000 in
theorem clone_at (s : ByteArray) (w : World) (hs : s.size ≤ 100000) :
    Calls Tryz.prog 31 #[.string s] w fun e w' => e = .returned (.string s) ∧ Below w.heap.size w w' := by
  go_enter Tryz.func31, Tryz.ntmps31
  go_wp2_with fail
  refine (Tryz.stringslite_Clone s _ (by omega)).mono ?_
  rintro e w1 ⟨rfl, hb⟩
  go_wp2_with fail
  go_ret
  exact ⟨rfl, hb⟩
end Go.Proofs.YtigbjhkkbgdkcaaGreatDoor

/-
  What the program's table tells of an entity tag's type.
-/
namespace Go.Proofs.YtigbjhkkbgdkcaaGreatDoor
open Go.RowKit

theorem infoTg : (Tryz.prog.info? 30).map (fun i => (i.zero, i.size, i.bytes)) = some (some (.agg #[.bool false, .string ⟨#[]⟩]), 2, 24) := by kernel_rfl
end Go.Proofs.YtigbjhkkbgdkcaaGreatDoor
