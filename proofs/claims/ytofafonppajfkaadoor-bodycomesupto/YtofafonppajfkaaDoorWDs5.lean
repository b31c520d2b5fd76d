/-
  What the function that takeFields of package body hands back does to a Decoder: the byte comes behind the fields, and where a line ends, or is too long, they are parsed.
-/
import Derived.Test.YtofafonppajfkaaDoorWDs4
import Derived.Test.YtofafonppajfkaaDoorWParse
import Derived.Test.YtofafonppajfkaaDoorSpecCk
import Derived.Lib.SlBytesConst
namespace Go.Proofs.YtofafonppajfkaaDoor
open Go.RowKit

/-- What append and the store into the Decoder leave: the fields' row. -/
theorem Dec.flds {B Bf : Nat} {w w1 : World} {bd : Nat} {f0 vb vf v' : Value} {x : Ds} {c : UInt8} (h1 : w.heap[bd]? = some (.cells #[f0, vb, vf, .bool x.done] 66)) (h2 : B ≤ bd) (h3 : B ≤ Bf) (h4 : Bf ≤ w.heap.size)
    (h5 : w.ownsRow B 5 1 vb x.body.length (u8s x.body)) (h6 : w.ownsRow Bf 5 1 vf x.fields.length (u8s x.fields)) (h7 : ∀ g, vb.ownBlock = some g → g < Bf)
    (ho : w1.ownsRow Bf 5 1 v' (x.fields.length + 1) (u8s x.fields ++ [.int .u8 (c.toNat : Int)])) (hg : (w.alloc (.cells #[.int .u8 (c.toNat : Int)] 5)).grownBy w1 vf.ownBlock) :
    Dec B (w1.setCell ⟨bd, 2, none⟩ v') bd f0 { x with fields := x.fields ++ [c] } ∧ KeepC w (w1.setCell ⟨bd, 2, none⟩ v') ∧ Below B w (w1.setCell ⟨bd, 2, none⟩ v') := by
  have hlt : bd < w.heap.size := (Array.getElem?_eq_some_iff.1 h1).1
  have hk0 : KeepC w (w.alloc (.cells #[.int .u8 (c.toNat : Int)] 5)) := KeepC.below ((Below.refl _ w).alloc (Nat.le_refl _) _)
  have hrow : ∀ g, vf.ownBlock = some g → ∃ c', (w.alloc (.cells #[.int .u8 (c.toNat : Int)] 5)).heap[g]? = some (.cells c' 5) := own5 (h6.alloc _)
  have hb1 := dec_grown h1 h6 hg
  have hsz : w.heap.size ≤ w1.heap.size := Nat.le_trans (by simp) hg.size
  have hrow2 : ∀ g, vf.ownBlock = some g → Bf ≤ g ∧ g < w.heap.size := h6.lt
  have hbody : w1.ownsRow B 5 1 vb x.body.length (u8s x.body) := by
    refine ⟨h5.1, ?_⟩
    rcases h5.2 with h0 | ⟨g, cap, cur, hv, hB, hgg, h3'⟩
    · exact .inl h0
    · refine .inr ⟨g, cap, cur, hv, hB, ?_, h3'⟩
      have hglt : g < w.heap.size := (Array.getElem?_eq_some_iff.1 hgg).1
      rw [hg.block g (by simp; omega) ?_, Lib.alloc_old _ _ _ hglt]
      · exact hgg
      · intro e
        have := h7 g (by rw [hv]; rfl)
        have := (hrow2 g e.symm).1
        omega
  refine ⟨⟨vb, v', Bf, ?_, h2, h3, by simp; omega, own_set hbody hb1 2 v', ?_, h7, fun h => by simp at h⟩, (hk0.trans (KeepC.grown hg hrow)).trans (KeepC.set hb1 _ _), ?_⟩
  · rw [heap_set_at hb1]; rfl
  · have := own_set ho hb1 2 v'
    rw [show u8s x.fields ++ [.int .u8 (c.toNat : Int)] = u8s (x.fields ++ [c]) from (u8s_snoc _ _).symm] at this
    simpa using this
  · exact ((((Below.refl B w).alloc (by omega) _).grown hg (by simp; omega) (fun b hb => Nat.le_trans h3 (hrow2 b hb).1))).setCell (by simpa using h2) _
/-- What the two stores at the end leave. -/
theorem Dec.fin {B : Nat} {w : World} {bd : Nat} {f0 : Value} {x : Ds} (h : Dec B w bd f0 x) :
    Dec B ((w.setCell ⟨bd, 3, none⟩ (.bool true)).setCell ⟨bd, 2, none⟩ (.slice none 0 0)) bd f0 { x with fields := [], done := true } ∧ Below B w ((w.setCell ⟨bd, 3, none⟩ (.bool true)).setCell ⟨bd, 2, none⟩ (.slice none 0 0)) := by
  obtain ⟨vb, vf, Bf, h1, h2, h3, h4, h5, h6, h7, h8⟩ := h
  have hb1 := heap_set_at h1 3 (.bool true)
  have hb2 := heap_set_at hb1 2 (.slice none 0 0)
  refine ⟨⟨vb, .slice none 0 0, w.heap.size, ?_, h2, by omega, by simp, own_set (own_set h5 h1 _ _) hb1 _ _, World.ownsRow_nil _ _ _ _, fun g hg => (h5.lt g hg).2, fun _ => rfl⟩, ?_⟩
  · rw [hb2]; rfl
  · exact ((Below.refl B w).setCell (by simpa using h2) _).setCell (by simpa using h2) _
theorem bytesOf_u8 (l : List UInt8) : Lib.bytesOf (l.map fun b => (b.toNat : Int)) = l := by
  simp only [Lib.bytesOf, List.map_map]
  conv => rhs; rw [← List.map_id l]
  apply List.map_congr_left
  intro a _
  simp
theorem u8s_at (l : List UInt8) (j : Nat) : (u8s l)[j]? = (l[j]?).map fun c => .int .u8 (c.toNat : Int) := by simp [u8s]
theorem suffix_at (l : List UInt8) (b : Bool) (hb : ended l = b) (g n cap q : Nat) (w : World) (hn : n = l.length) (hnc : n ≤ cap) (hlen : l.length ≤ 40000)
    (hc : ∀ j, j < n → w.cell? ⟨g, j, none⟩ = (u8s l)[j]?) (hq0 : w.cell? ⟨q, 0, none⟩ = some (.int .u8 13)) (hq1 : w.cell? ⟨q, 1, none⟩ = some (.int .u8 10)) :
    Calls Tryd.prog 100 #[.slice (some ⟨g, 0, none⟩) n cap, .slice (some ⟨q, 0, none⟩) 2 2] w fun e w' => e = .returned (.bool b) ∧ w' = w := by
  refine (Tryd.bytes_HasSuffix g 0 n cap q 0 2 2 (l.map fun b => (b.toNat : Int)) [13, 10] w (by simp [hn]) rfl hnc (by omega) (fun i hi => ?_) (fun i hi => ?_)).mono ?_
  · rw [Nat.zero_add, hc i hi, u8s_at, List.getElem?_eq_getElem (by omega)]
    simp [List.getD_eq_getElem?_getD, List.getElem?_eq_getElem (show i < l.length by omega)]
  · match i, hi with
    | 0, _ => exact hq0
    | 1, _ => exact hq1
  · rintro e w' ⟨rfl, rfl⟩
    refine ⟨ret_bool ?_, rfl⟩
    rw [bytesOf_u8, ← hb]
    unfold ended
    rw [show Lib.bytesOf [13, 10] = [13, 10] by decide]
    cases Lib.hasSuffix l [13, 10] <;> rfl

/-- What one byte does: the error, or what may come next. -/
def StQ (B : Nat) (w w' : World) (bd : Nat) (f0 : Value) (r : Int × Ds) (e : Ending) : Prop :=
  Below B w w' ∧ (r.1 ≠ 0 → e = .returned (.tuple #[.nilFunc, .int .i64 r.1]) ∧ ∃ q s t, w'.heap[bd]? = some (.cells #[f0, q, s, t] 66)) ∧
    (r.1 = 0 → ∃ f, e = .returned (.tuple #[f, .int .i64 0]) ∧ Dec B w' bd f0 r.2 ∧ (r.2.done = true → f = .nilFunc) ∧ (r.2.done = false → StepV w' f r.2.st))
theorem Dec.block {B : Nat} {w : World} {bd : Nat} {f0 : Value} {x : Ds} (h : Dec B w bd f0 x) : ∃ q s t, w.heap[bd]? = some (.cells #[f0, q, s, t] 66) := by
  obtain ⟨vb, vf, Bf, h1, _⟩ := h
  exact ⟨_, _, _, h1⟩
set_option maxHeartbeats 8000000 in
set_option maxRecDepth 100000 in
theorem fields1_at (B : Nat) (x : Ds) (c : UInt8) (k a bd : Nat) (f0 : Value) (m : Int) (w : World) (hd : Dec B w bd f0 x) (hst : x.st = .fld k) (hdn : x.done = false) (hinv : FInv x.fields k) (ha : w.heap[a]? = some (.cells #[.int .i64 (k : Int)] 3))
    (hm : w.cell? ⟨0, 0, none⟩ = some (.int .i64 m)) (hM : 0 < B) :
    Calls Tryd.prog 99 #[ptr bd, .int .u8 (c.toNat : Int), ptr a] w fun e w' => StQ B w w' bd f0 (stepD x c) e := by
  obtain ⟨i0, hi, hz0, hz1, hz2⟩ := info_parts info5
  obtain ⟨vb, vf, Bf, h1, h2, h3, h4, h5, h6, h7, h8⟩ := hd
  have hbd : bd < w.heap.size := (Array.getElem?_eq_some_iff.1 h1).1
  obtain ⟨_, _, hc1, _⟩ := dec_cell h1
  obtain ⟨hlen, hk⟩ := finv_len hinv
  obtain ⟨l, hl⟩ : ∃ l, l = x.fields ++ [c] := ⟨_, rfl⟩
  have hll : l.length = x.fields.length + 1 := by rw [hl]; simp
  obtain ⟨b, hb⟩ : ∃ b, ended l = b := ⟨_, rfl⟩
  obtain ⟨z, hz⟩ : ∃ z, (parS l []).2.2 = z := ⟨_, rfl⟩
  have HS : Hid (stepD x c = if b = false ∧ k < 1100 then (0, { x with fields := l, st := .fld (k + 1) }) else if z = 0 then (0, { x with fields := [], done := true }) else if z ≠ 8 then (z, x) else (0, { x with fields := l, st := if b = true then .fld 0 else .fld (k + 1) })) := by
    show _ = _
    unfold stepD; rw [hst]; simp only; rw [← hl, hb, hz]
  have H1 : Hid (w.heap[bd]? = some (.cells #[f0, vb, vf, .bool x.done] 66)) := h1
  have H5 : Hid (w.ownsRow B 5 1 vb x.body.length (u8s x.body)) := h5
  have H6 : Hid (w.ownsRow Bf 5 1 vf x.fields.length (u8s x.fields)) := h6
  have H7 : Hid (∀ g, vb.ownBlock = some g → g < Bf) := h7
  have HA : Hid (w.heap[a]? = some (.cells #[.int .i64 (k : Int)] 3)) := ha
  have HL : Hid (l = x.fields ++ [c]) := hl
  have HB : Hid (ended l = b) := hb
  have HZ : Hid ((parS l []).2.2 = z) := hz
  have HM : Hid (w.cell? ⟨0, 0, none⟩ = some (.int .i64 m)) := hm
  have HDN : Hid (x.done = false) := hdn
  clear h1 h5 h6 h7 h8 ha hl hb hz hm hinv hst hdn
  go_enter Tryd.func99, Tryd.ntmps99
  go_wp2_with (at_builtin; refine wpList_append_own _ rfl _ _ 52 rfl Bf 5 i0 (.int .u8 0) 1 1 Tryd.underlying52 hi hz0 hz1 hz2 rfl (by decide) _ _ _ rfl (H6.out.alloc _) ⟨w.heap.size, 0, none⟩ 1 1 [.int .u8 (c.toNat : Int)] rfl rfl ?c1 ?c2 ?c3 ?c4 ?c5 ?_)
  case c1 => exact one_cell _ _ _
  case c2 => intro z hx; simp at hx; subst hx; rfl
  case c3 => unfold maxLen; omega
  case c4 => omega
  case c5 => simp; omega
  · intro v' w1 hown hg _
    obtain ⟨D1, D2, D3⟩ := Dec.flds H1.out h2 h3 h4 H5.out H6.out H7.out hown hg
    have hb1 : w1.heap[bd]? = some (.cells #[f0, vb, vf, .bool x.done] 66) := dec_grown H1.out H6.out hg
    obtain ⟨_, _, hc2, _⟩ := dec_cell hb1
    have hfr : w1.frozen? ⟨bd, 2, none⟩ = false := Lib.frozen_of_heap hb1 2
    have hsl0 := own_slice hown
    obtain ⟨ad', cap', hv', _, hcap, hcells⟩ := hsl0
    obtain ⟨g', rfl, _, _, _⟩ := hcells (by omega)
    subst hv'
    have O3 := fun o => (own_set hown hb1 2 (.slice (some ⟨g', 0, none⟩) (x.fields.length + 1) cap')).alloc o
    have HO : Hid (∀ o, ((w1.setCell ⟨bd, 2, none⟩ (.slice (some ⟨g', 0, none⟩) (x.fields.length + 1) cap')).alloc o).ownsRow Bf 5 1 (.slice (some ⟨g', 0, none⟩) (x.fields.length + 1) cap') (x.fields.length + 1) (u8s x.fields ++ [.int .u8 (c.toNat : Int)])) := O3
    have kc : (convert 52 52 (.slice (some ⟨w1.heap.size, 0, none⟩) 2 2)).run Tryd.prog ((w1.setCell ⟨bd, 2, none⟩ (.slice (some ⟨g', 0, none⟩) (x.fields.length + 1) cap')).alloc (.cells #[.int .u8 13, .int .u8 10] 5)) = .ok (.slice (some ⟨w1.heap.size, 0, none⟩) 2 2) ((w1.setCell ⟨bd, 2, none⟩ (.slice (some ⟨g', 0, none⟩) (x.fields.length + 1) cap')).alloc (.cells #[.int .u8 13, .int .u8 10] 5 (2, 3))) := by
      have h := Lib.run_convert_bytes_const (P := Tryd.prog) (w1.setCell ⟨bd, 2, none⟩ (.slice (some ⟨g', 0, none⟩) (x.fields.length + 1) cap')) 52 5 #[.int .u8 13, .int .u8 10] 2 2 Tryd.underlying52 Tryd.underlying5
      rw [World.size_setCell] at h
      exact h
    have hq : ∀ j, ((w1.setCell ⟨bd, 2, none⟩ (.slice (some ⟨g', 0, none⟩) (x.fields.length + 1) cap')).alloc (.cells #[.int .u8 13, .int .u8 10] 5 (2, 3))).cell? ⟨w1.heap.size, j, none⟩ = #[.int .u8 13, .int .u8 10][j]? := by
      intro j
      have h := World.cell?_alloc_mark (w1.setCell ⟨bd, 2, none⟩ (.slice (some ⟨g', 0, none⟩) (x.fields.length + 1) cap')) #[.int .u8 13, .int .u8 10] 5 (2, 3) j
      rw [World.size_setCell] at h
      exact h
    have HQ : Hid (∀ j, ((w1.setCell ⟨bd, 2, none⟩ (.slice (some ⟨g', 0, none⟩) (x.fields.length + 1) cap')).alloc (.cells #[.int .u8 13, .int .u8 10] 5 (2, 3))).cell? ⟨w1.heap.size, j, none⟩ = #[.int .u8 13, .int .u8 10][j]?) := hq
    clear hown hg hb1 hcells O3 hq
    go_wp2_with fail
    refine (suffix_at l b HB.out g' _ cap' _ _ hll.symm (by omega) (by omega) ?_ ?_ ?_).mono ?_
    · intro j hj
      have h := own_slice (HO.out (.cells #[.int .u8 13, .int .u8 10] 5 (2, 3)))
      obtain ⟨ad, cap, e1, _, _, e2⟩ := h
      obtain ⟨g2, e3, _, _, e4⟩ := e2 (by omega)
      injection e1 with e5 _ _
      rw [e3] at e5
      have e6 := Option.some.inj e5
      injection e6 with e7
      subst e7
      have e8 := e4 j hj
      rw [HL.out, u8s_snoc]
      exact e8
    · exact HQ.out 0
    · exact HQ.out 1
    · rintro e w3 ⟨rfl, hw3⟩
      have hB3 : Below B w w3 := by rw [hw3]; exact D3.alloc (by have := D3.size; omega) _
      have hba : Below (w1.setCell ⟨bd, 2, none⟩ (.slice (some ⟨g', 0, none⟩) (x.fields.length + 1) cap')).heap.size (w1.setCell ⟨bd, 2, none⟩ (.slice (some ⟨g', 0, none⟩) (x.fields.length + 1) cap')) w3 := by rw [hw3]; exact (Below.refl _ _).alloc (Nat.le_refl _) _
      have hD := D1.below hba
      rw [← HL.out] at hD
      have hca := cellH (KeepC.below hba _ _ _ (.inl rfl) (D2 _ _ _ (.inl rfl) HA.out))
      have hm3 : Hid (w3.cell? ⟨0, 0, none⟩ = some (.int .i64 m)) := (hB3.cell (p := ⟨0, 0, none⟩) hM).trans HM.out
      clear hw3 hba kc HQ D1 D2 D3 hc1 hc2 hfr HO HA H1 H5 H6 H7 HM
      have hs3 := hB3.size
      have HD3 : Hid (Dec B w3 bd f0 { x with fields := l }) := hD
      have HB3 : Hid (Below B w w3) := hB3
      clear hB3
      by_cases hA : b = false ∧ k < 1100
      · have HR : Hid (stepD x c = (0, { x with fields := l, st := .fld (k + 1) })) := by show _ = _; rw [HS.out, if_pos hA]
        obtain ⟨rfl, hk1⟩ := hA
        have hki : (k : Int) < 1100 := by omega
        clear hD
        go_wp2_with fail
        refine (mkFields _ (k + 1) (by go_num) _).mono ?_
        rintro e w4 ⟨f, rfl, hst, hbl⟩
        go_wp2_with fail
        go_ret2
        rw [HR.out]
        exact ⟨HB3.out.trans (hbl.mono (by omega)), fun h => absurd rfl h, fun _ => ⟨f, rfl, HD3.out.below hbl, fun h => absurd (h.symm.trans HDN.out) (by simp), fun _ => hst⟩⟩
      · obtain ⟨vb', vf', Bf', g1, g2, g3, g4, g5, g6, g7, g8⟩ := hD
        obtain ⟨ad, cap, hv, _, _, hcells⟩ := own_slice g6
        obtain ⟨g, rfl, _, _, hcl⟩ := hcells (by show 0 < l.length; omega)
        subst hv
        obtain ⟨_, _, hc3, _⟩ := dec_cell g1
        have hcv := run_convert_bytes_back (P := Tryd.prog) w3 52 9 5 ⟨g, 0, none⟩ cap l Tryd.underlying52 Tryd.underlying5 Tryd.underlying9 (fun j hj => by
          have h := hcl j hj
          rw [u8s_at, List.getElem?_eq_getElem hj] at h
          cases j <;> simpa [Addr.add] using h)
        rw [hll] at hcv
        have HR0 : Hid (stepD x c = if z = 0 then (0, { x with fields := [], done := true }) else if z ≠ 8 then (z, x) else (0, { x with fields := l, st := if b = true then .fld 0 else .fld (k + 1) })) := by show _ = _; rw [HS.out, if_neg hA]
        have HPZ : Hid (∀ w, w.cell? ⟨0, 0, none⟩ = some (.int .i64 m) → Calls Tryd.prog 101 #[.string ⟨l.toArray⟩] w fun e w' => ∃ v q, e = .returned (.tuple #[v, .int .i64 q, .int .i64 z]) ∧ Below w.heap.size w w') := by
          intro w hm
          refine (parse_any ⟨l.toArray⟩ m w hm (by rw [← size_list]; show l.length < _; omega)).mono ?_
          rintro e w' ⟨v, rfl, _, hb⟩
          exact ⟨v, parN l, by rw [← HZ.out], hb⟩
        clear HS g1 g2 g3 g4 g5 g6 g7 g8 hcells hcl
        have hbk : b = true ∨ (b = false ∧ ¬ (k : Int) < 1100) := by
          cases b
          · right; refine ⟨rfl, fun h => hA ⟨rfl, by omega⟩⟩
          · exact .inl rfl
        clear hA
        rcases hbk with rfl | ⟨rfl, hk1⟩
        all_goals
          go_wp2_with fail
          refine (HPZ.out _ hm3.out).mono ?_
          rintro e w4 ⟨v, q, rfl, hbl⟩
          have HD4 : Hid (Dec B w4 bd f0 { x with fields := l }) := HD3.out.below hbl
          have HB4 : Hid (Below B w w4) := HB3.out.trans (hbl.mono (by omega))
          have hca4 : w4.cell? ⟨a, 0, none⟩ = some (.int .i64 (k : Int)) := (hbl.cell (p := ⟨a, 0, none⟩) (cell_in hca)).trans hca
          have hs4 := hbl.size
          clear hbl hca hcv hc3
          by_cases hz0 : z = 0
          · have HR : Hid (stepD x c = (0, { x with fields := [], done := true })) := by show _ = _; rw [HR0.out, if_pos hz0]
            subst hz0
            obtain ⟨vb2, vf2, Bf2, e1, _⟩ := HD4.out
            obtain ⟨_, _, e2, e3⟩ := dec_cell e1
            have e4 : w4.frozen? ⟨bd, 3, none⟩ = false := Lib.frozen_of_heap e1 3
            have e5 := heap_set_at e1 3 (.bool true)
            have e6 : (w4.setCell ⟨bd, 3, none⟩ (.bool true)).frozen? ⟨bd, 2, none⟩ = false := Lib.frozen_of_heap e5 2
            clear e1 e5
            go_wp2_with fail
            go_ret2
            rw [HR.out]
            exact ⟨HB4.out.trans (HD4.out.fin).2, fun h => absurd rfl h, fun _ => ⟨_, rfl, (HD4.out.fin).1, fun _ => rfl, fun h => by cases h⟩⟩
          · have hz0' : (z == 0) = false := beq_eq_false_iff_ne.2 hz0
            by_cases hz8 : z = 8
            · have HR := HR0.out
              rw [if_neg hz0, if_neg (by simpa using hz8)] at HR
              have HRR : Hid _ := HR
              clear HR
              subst hz8
              go_wp2_with fail
              refine (mkFields _ _ (by go_num) _).mono ?_
              rintro e w5 ⟨f, rfl, hst, hbl⟩
              go_wp2_with fail
              go_ret2
              rw [HRR.out]
              exact ⟨HB4.out.trans (hbl.mono (by omega)), fun h => absurd rfl h, fun _ => ⟨f, rfl, HD4.out.below hbl, fun h => absurd (h.symm.trans HDN.out) (by simp), fun _ => hst⟩⟩
            · have hz8' : (z != 8) = true := by simpa using hz8
              have HR : Hid (stepD x c = (z, x)) := by show _ = _; rw [HR0.out, if_neg hz0, if_pos hz8]
              have HZ0 : Hid (z ≠ 0) := hz0
              clear hz0 hz8
              go_wp2_with fail
              go_ret2
              rw [HR.out]
              exact ⟨HB4.out, fun _ => ⟨rfl, HD4.out.block⟩, fun h => absurd h HZ0.out⟩
end Go.Proofs.YtofafonppajfkaaDoor
