/-
  What the function that takeBytes of package body hands back does to a Decoder: the byte comes behind the body.
-/
import Derived.Test.YtofafonppajfkaaDoorWDs1
namespace Go.Proofs.YtofafonppajfkaaDoor
open Go.RowKit

theorem info5 : (Tryd.prog.info? 5).map (fun i => (i.zero, i.size, i.bytes)) = some (some (.int .u8 0), 1, 1) := by kernel_rfl
/-- A Decoder in block bd: what it holds, and its two rows, of its own. -/
def Dec (B : Nat) (w : World) (bd : Nat) (f0 : Value) (x : Ds) : Prop :=
  ∃ vb vf Bf, w.heap[bd]? = some (.cells #[f0, vb, vf, .bool x.done] 66) ∧ B ≤ bd ∧ B ≤ Bf ∧ Bf ≤ w.heap.size ∧
    w.ownsRow B 5 1 vb x.body.length (u8s x.body) ∧ w.ownsRow Bf 5 1 vf x.fields.length (u8s x.fields) ∧ (∀ g, vb.ownBlock = some g → g < Bf) ∧ (x.fields = [] → vf = .slice none 0 0)
theorem heap_set_at {w : World} {bd : Nat} {cs : Array Value} {t : TypeId} (h : w.heap[bd]? = some (.cells cs t)) (i : Nat) (v : Value) : (w.setCell ⟨bd, i, none⟩ v).heap[bd]? = some (.cells (cs.setIfInBounds i v) t) := by
  simp [World.setCell, Array.getElem?_modify, h]
theorem heap_set_ne {w : World} {bd k : Nat} (h : k ≠ bd) (i : Nat) (v : Value) : (w.setCell ⟨bd, i, none⟩ v).heap[k]? = w.heap[k]? := Below.heap_setCell w ⟨bd, i, none⟩ v k h
theorem own_set {w : World} {B bd n : Nat} {v : Value} {xs : List Value} {cs : Array Value} (h : w.ownsRow B 5 1 v n xs) (hb : w.heap[bd]? = some (.cells cs 66)) (i : Nat) (u : Value) : (w.setCell ⟨bd, i, none⟩ u).ownsRow B 5 1 v n xs := by
  refine ⟨h.1, ?_⟩
  rcases h.2 with h0 | ⟨g, cap, cur, hv, hB, hg, h3⟩
  · exact .inl h0
  · refine .inr ⟨g, cap, cur, hv, hB, ?_, h3⟩
    rw [heap_set_ne ?_]
    · exact hg
    · rintro rfl
      rw [hg] at hb
      have h := Option.some.inj hb
      injection h with _ h2
      exact absurd h2 (by decide)
theorem Dec.below {B : Nat} {w w' : World} {bd : Nat} {f0 : Value} {x : Ds} (h : Dec B w bd f0 x) (hb : Below w.heap.size w w') : Dec B w' bd f0 x := by
  obtain ⟨vb, vf, Bf, h1, h2, h3, h4, h5, h6, h7, h8⟩ := h
  exact ⟨vb, vf, Bf, (hb.block bd (Array.getElem?_eq_some_iff.1 h1).1).trans h1, h2, h3, Nat.le_trans h4 hb.size, own_below2 h5 hb, own_below2 h6 hb, h7, h8⟩
theorem dec_grown {B : Nat} {w w1 : World} {bd n : Nat} {cs : Array Value} {u v : Value} {xs : List Value} (h1 : w.heap[bd]? = some (.cells cs 66)) (h5 : w.ownsRow B 5 1 u n xs) (hg : (w.alloc (.cells #[v] 5)).grownBy w1 u.ownBlock) : w1.heap[bd]? = some (.cells cs 66) := by
  have hlt : bd < w.heap.size := (Array.getElem?_eq_some_iff.1 h1).1
  have hne : some bd ≠ u.ownBlock := by
    intro e
    obtain ⟨c', hc'⟩ := own5 (h5.alloc (.cells #[v] 5)) bd e.symm
    rw [Lib.alloc_old _ _ _ hlt, h1] at hc'
    have h := Option.some.inj hc'
    injection h with _ h2
    exact absurd h2 (by decide)
  rw [hg.block bd (by simp; omega) hne, Lib.alloc_old _ _ _ hlt]; exact h1
/-- What append and the store into the Decoder leave: the body's row. -/
theorem Dec.body {B : Nat} {w w1 : World} {bd : Nat} {f0 vb vf v' : Value} {x : Ds} {c : UInt8} (h1 : w.heap[bd]? = some (.cells #[f0, vb, vf, .bool x.done] 66)) (h2 : B ≤ bd)
    (h5 : w.ownsRow B 5 1 vb x.body.length (u8s x.body)) (h8 : x.fields = []) (h9 : vf = .slice none 0 0)
    (ho : w1.ownsRow B 5 1 v' (x.body.length + 1) (u8s x.body ++ [.int .u8 (c.toNat : Int)])) (hg : (w.alloc (.cells #[.int .u8 (c.toNat : Int)] 5)).grownBy w1 vb.ownBlock) :
    Dec B (w1.setCell ⟨bd, 1, none⟩ v') bd f0 { x with body := x.body ++ [c] } ∧ KeepC w (w1.setCell ⟨bd, 1, none⟩ v') ∧ Below B w (w1.setCell ⟨bd, 1, none⟩ v') := by
  have hlt : bd < w.heap.size := (Array.getElem?_eq_some_iff.1 h1).1
  have hk0 : KeepC w (w.alloc (.cells #[.int .u8 (c.toNat : Int)] 5)) := KeepC.below ((Below.refl _ w).alloc (Nat.le_refl _) _)
  have hrow : ∀ g, vb.ownBlock = some g → ∃ c', (w.alloc (.cells #[.int .u8 (c.toNat : Int)] 5)).heap[g]? = some (.cells c' 5) := own5 (h5.alloc _)
  have hne : some bd ≠ vb.ownBlock := by
    intro e
    obtain ⟨c', hc'⟩ := hrow bd e.symm
    rw [Lib.alloc_old _ _ _ hlt, h1] at hc'
    have h := Option.some.inj hc'
    injection h with _ h2
    exact absurd h2 (by decide)
  have hb1 : w1.heap[bd]? = some (.cells #[f0, vb, vf, .bool x.done] 66) := by
    rw [hg.block bd (by simp; omega) hne, Lib.alloc_old _ _ _ hlt]; exact h1
  have hsz : w.heap.size ≤ w1.heap.size := Nat.le_trans (by simp) hg.size
  have hrow2 : ∀ g, vb.ownBlock = some g → B ≤ g ∧ g < w.heap.size := h5.lt
  refine ⟨⟨v', vf, w1.heap.size, ?_, h2, by omega, ?_, ?_, ?_, ?_, fun _ => h9⟩, (hk0.trans (KeepC.grown hg hrow)).trans (KeepC.set hb1 _ _), ?_⟩
  · rw [heap_set_at hb1]; rfl
  · simp
  · have := own_set ho hb1 1 v'
    rw [show u8s x.body ++ [.int .u8 (c.toNat : Int)] = u8s (x.body ++ [c]) from (u8s_snoc _ _).symm] at this
    simpa using this
  · rw [h9]
    show World.ownsRow _ _ _ _ _ x.fields.length (u8s x.fields)
    rw [h8]
    exact World.ownsRow_nil _ _ _ _
  · exact fun g hg' => (ho.lt g hg').2
  · exact ((((Below.refl B w).alloc (by omega) _).grown hg (by simp; omega) (fun b hb => (hrow2 b hb).1))).setCell (by simpa using h2) _
theorem dec_cell {w : World} {bd : Nat} {a b c d : Value} {t : TypeId} (h : w.heap[bd]? = some (.cells #[a, b, c, d] t)) : w.cell? ⟨bd, 0, none⟩ = some a ∧ w.cell? ⟨bd, 1, none⟩ = some b ∧ w.cell? ⟨bd, 2, none⟩ = some c ∧ w.cell? ⟨bd, 3, none⟩ = some d := by
  simp [World.cell?, h]
set_option maxHeartbeats 4000000 in
set_option maxRecDepth 100000 in
theorem bytes1_at (B : Nat) (x : Ds) (c : UInt8) (l a bd : Nat) (f0 : Value) (w : World) (hd : Dec B w bd f0 x) (hf : x.fields = []) (hl : 0 < l) (hlen : x.body.length + l ≤ 5000) (ha : w.heap[a]? = some (.cells #[.int .i64 (l : Int)] 3)) :
    Calls Tryd.prog 102 #[ptr bd, .int .u8 (c.toNat : Int), ptr a] w fun e w' => ∃ f, e = .returned (.tuple #[f, .int .i64 0]) ∧ Dec B w' bd f0 { x with body := x.body ++ [c] } ∧ StepV w' f (if 1 < l then .byt (l - 1) else .crlf) ∧ KeepC w w' ∧ Below B w w' := by
  obtain ⟨i0, hi, hz0, hz1, hz2⟩ := info_parts info5
  obtain ⟨vb, vf, Bf, h1, h2, h3, h4, h5, h6, h7, h8⟩ := hd
  have hbd : bd < w.heap.size := (Array.getElem?_eq_some_iff.1 h1).1
  obtain ⟨_, hc1, _, _⟩ := dec_cell h1
  have H1 : Hid (w.heap[bd]? = some (.cells #[f0, vb, vf, .bool x.done] 66)) := h1
  have H5 : Hid (w.ownsRow B 5 1 vb x.body.length (u8s x.body)) := h5
  have HA : Hid (w.heap[a]? = some (.cells #[.int .i64 (l : Int)] 3)) := ha
  have HF : Hid (x.fields = []) := hf
  have H9 : Hid (vf = .slice none 0 0) := h8 hf
  clear h1 h5 h6 h7 h8 ha hf h3 h4
  go_enter Tryd.func102, Tryd.ntmps102
  go_wp2_with (at_builtin; refine wpList_append_own _ rfl _ _ 52 rfl B 5 i0 (.int .u8 0) 1 1 Tryd.underlying52 hi hz0 hz1 hz2 rfl (by decide) _ _ _ rfl (H5.out.alloc _) ⟨w.heap.size, 0, none⟩ 1 1 [.int .u8 (c.toNat : Int)] rfl rfl ?c1 ?c2 ?c3 ?c4 ?c5 ?_)
  case c1 => exact one_cell _ _ _
  case c2 => intro z hx; simp at hx; subst hx; rfl
  case c3 => unfold maxLen; omega
  case c4 => omega
  case c5 => simp; omega
  · intro v' w1 hown hg _
    obtain ⟨D1, D2, D3⟩ := Dec.body H1.out h2 H5.out HF.out H9.out hown hg
    have hb1 : w1.heap[bd]? = some (.cells #[f0, vb, vf, .bool x.done] 66) := dec_grown H1.out H5.out hg
    obtain ⟨_, hc2, _, _⟩ := dec_cell hb1
    have hfr : w1.frozen? ⟨bd, 1, none⟩ = false := Lib.frozen_of_heap hb1 1
    have hca := cellH (D2 _ _ _ (.inl rfl) HA.out)
    obtain ⟨ad', cap', hv', _⟩ := own_slice hown
    subst hv'
    have hsz1 : B ≤ (w1.setCell ⟨bd, 1, none⟩ (.slice ad' (x.body.length + 1) cap')).heap.size := by
      have := hg.size; simp at this ⊢; omega
    clear hown hg hb1
    by_cases hl1 : 1 < (l : Int)
    · go_wp2_with fail
      refine (mkBytes _ (l - 1) (by go_num) _).mono ?_
      rintro e w2 ⟨f, rfl, hst, hbl⟩
      go_wp2_with fail
      go_ret2
      exact ⟨f, rfl, D1.below hbl, hst, D2.trans (KeepC.below hbl), D3.trans (hbl.mono hsz1)⟩
    · go_wp2_with fail
      refine (mkNumber _ _ 0 0 (by go_num) (by go_num) _).mono ?_
      rintro e w2 ⟨f, rfl, ⟨q, r, rfl, hq, hr⟩, hbl⟩
      go_wp2_with fail
      refine (mkText _ _ _ _ _).mono ?_
      rintro e w3 ⟨q', r', rfl, hq', hr', hbl'⟩
      go_wp2_with fail
      go_ret2
      have hs2 := hbl.size
      refine ⟨_, rfl, (D1.below hbl).below hbl', ?_, (D2.trans (KeepC.below hbl)).trans (KeepC.below hbl'), (D3.trans (hbl.mono hsz1)).trans (hbl'.mono (by omega))⟩
      exact ⟨q', r', q, r, rfl, hq', hr', KeepC.below hbl' _ _ _ (.inl rfl) hq, KeepC.below hbl' _ _ _ (.inl rfl) hr⟩
end Go.Proofs.YtofafonppajfkaaDoor
