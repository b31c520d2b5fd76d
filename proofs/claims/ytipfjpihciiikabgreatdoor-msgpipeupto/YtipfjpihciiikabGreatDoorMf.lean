/-
  What the function that takeFields of package body hands back does to a Decoder: the byte comes behind the fields, and where a line ends, or is too long, they are parsed.
-/
import Derived.Test.YtipfjpihciiikabGreatDoorMe
import Derived.Lib.SlBytesConst
import Derived.Lib.Bytes
import Derived.Test.YtipfjpihciiikabGreatDoorShelf
import Derived.Test.YtipfjpihciiikabGreatDoorRows
import Derived.Deep.RegionHeld3
import Derived.Laws.EntriesVeiled
import Derived.Laws.BytesArg
namespace Go.Proofs.YtipfjpihciiikabGreatDoor
open Go.RowKit

/-- What append and the store into the Decoder leave: the fields' row. -/
theorem Dec.flds {B Bf : Nat} {w w1 : World} {bd : Nat} {f0 vb vf v' : Value} {x : Ds} {c : UInt8} (h1 : w.heap[bd]? = some (.cells #[f0, vb, vf, .bool x.done] 114)) (h2 : B ≤ bd) (h3 : B ≤ Bf) (h4 : Bf ≤ w.heap.size)
    (h5 : w.ownsRow B 5 1 vb x.body.length (u8s x.body)) (h6 : w.ownsRow Bf 5 1 vf x.fields.length (u8s x.fields)) (h7 : ∀ g, vb.ownBlock = some g → g < Bf)
    (ho : w1.ownsRow Bf 5 1 v' (x.fields.length + 1) (u8s x.fields ++ [.int .u8 (c.toNat : Int)])) (hg : (w.alloc (.cells #[.int .u8 (c.toNat : Int)] 5)).grownBy w1 vf.ownBlock) :
    Dec B (w1.setCell ⟨bd, 2, none⟩ v') bd f0 { x with fields := x.fields ++ [c] } ∧ KeepC w (w1.setCell ⟨bd, 2, none⟩ v') ∧ Below B w (w1.setCell ⟨bd, 2, none⟩ v') := by
  have hlt : bd < w.heap.size := (Array.getElem?_eq_some_iff.1 h1).1
  have hk0 : KeepC w (w.alloc (.cells #[.int .u8 (c.toNat : Int)] 5)) := KeepC.below ((Below.refl _ w).alloc (Nat.le_refl _) _)
  have hrow : ∀ g, vf.ownBlock = some g → ∃ c', (w.alloc (.cells #[.int .u8 (c.toNat : Int)] 5)).heap[g]? = some (.cells c' 5) := own5 (h6.alloc _)
  have hb1 := dec_grown h1 h6 hg
  have hsz : w.heap.size ≤ w1.heap.size := Nat.le_trans (by simp) hg.size
  have hrow2 : ∀ g, vf.ownBlock = some g → Bf ≤ g ∧ g < w.heap.size := h6.lt
  have hbody : w1.ownsRow B 5 1 vb x.body.length (u8s x.body) := by
    refine ⟨h5.1, ?_⟩
    rcases h5.2 with h0 | ⟨g, cap, cur, hv, hB, hgg, h3'⟩
    · exact .inl h0
    · refine .inr ⟨g, cap, cur, hv, hB, ?_, h3'⟩
      have hglt : g < w.heap.size := (Array.getElem?_eq_some_iff.1 hgg).1
      rw [hg.block g (by simp; omega) ?_, Lib.alloc_old _ _ _ hglt]
      · exact hgg
      · intro e
        have := h7 g (by rw [hv]; rfl)
        have := (hrow2 g e.symm).1
        omega
  refine ⟨⟨vb, v', Bf, ?_, h2, h3, by simp; omega, own_set hbody hb1 2 v', ?_, h7, fun h => by simp at h⟩, (hk0.trans (KeepC.grown hg hrow)).trans (KeepC.set hb1 _ _), ?_⟩
  · rw [heap_set_at hb1]; rfl
  · have := own_set ho hb1 2 v'
    rw [show u8s x.fields ++ [.int .u8 (c.toNat : Int)] = u8s (x.fields ++ [c]) from (u8s_snoc _ _).symm] at this
    simpa using this
  · exact ((((Below.refl B w).alloc (by omega) _).grown hg (by simp; omega) (fun b hb => Nat.le_trans h3 (hrow2 b hb).1))).setCell (by simpa using h2) _
/-- What the two stores at the end leave. -/
theorem Dec.fin {B : Nat} {w : World} {bd : Nat} {f0 : Value} {x : Ds} (h : Dec B w bd f0 x) :
    Dec B ((w.setCell ⟨bd, 3, none⟩ (.bool true)).setCell ⟨bd, 2, none⟩ (.slice none 0 0)) bd f0 { x with fields := [], done := true } ∧ Below B w ((w.setCell ⟨bd, 3, none⟩ (.bool true)).setCell ⟨bd, 2, none⟩ (.slice none 0 0)) := by
  obtain ⟨vb, vf, Bf, h1, h2, h3, h4, h5, h6, h7, h8⟩ := h
  have hb1 := heap_set_at h1 3 (.bool true)
  have hb2 := heap_set_at hb1 2 (.slice none 0 0)
  refine ⟨⟨vb, .slice none 0 0, w.heap.size, ?_, h2, by omega, by simp, own_set (own_set h5 h1 _ _) hb1 _ _, World.ownsRow_nil _ _ _ _, fun g hg => (h5.lt g hg).2, fun _ => rfl⟩, ?_⟩
  · rw [hb2]; rfl
  · exact ((Below.refl B w).setCell (by simpa using h2) _).setCell (by simpa using h2) _
theorem bytesOf_u8 (l : List UInt8) : Lib.bytesOf (l.map fun b => (b.toNat : Int)) = l := by
  simp only [Lib.bytesOf, List.map_map]
  conv => rhs; rw [← List.map_id l]
  apply List.map_congr_left
  intro a _
  simp
theorem u8s_at (l : List UInt8) (j : Nat) : (u8s l)[j]? = (l[j]?).map fun c => .int .u8 (c.toNat : Int) := by simp [u8s]
theorem suffix_at (l : List UInt8) (b : Bool) (hb : ended l = b) (g n cap q : Nat) (w : World) (hn : n = l.length) (hnc : n ≤ cap) (hlen : l.length ≤ 40000)
    (hc : ∀ j, j < n → w.cell? ⟨g, j, none⟩ = (u8s l)[j]?) (hq0 : w.cell? ⟨q, 0, none⟩ = some (.int .u8 13)) (hq1 : w.cell? ⟨q, 1, none⟩ = some (.int .u8 10)) :
    Calls Tryz.prog 123 #[.slice (some ⟨g, 0, none⟩) n cap, .slice (some ⟨q, 0, none⟩) 2 2] w fun e w' => e = .returned (.bool b) ∧ w' = w := by
  refine (Tryz.bytes_HasSuffix g 0 n cap q 0 2 2 (l.map fun b => (b.toNat : Int)) [13, 10] w (by simp [hn]) rfl hnc (by omega) (fun i hi => ?_) (fun i hi => ?_)).mono ?_
  · rw [Nat.zero_add, hc i hi, u8s_at, List.getElem?_eq_getElem (by omega)]
    simp [List.getD_eq_getElem?_getD, List.getElem?_eq_getElem (show i < l.length by omega)]
  · match i, hi with
    | 0, _ => exact hq0
    | 1, _ => exact hq1
  · rintro e w' ⟨rfl, rfl⟩
    refine ⟨ret_bool ?_, rfl⟩
    rw [bytesOf_u8, ← hb]
    unfold ended
    rw [show Lib.bytesOf [13, 10] = [13, 10] by decide]
    cases Lib.hasSuffix l [13, 10] <;> rfl

/-- What one byte does: the error, or what may come next. -/
def StQ (B : Nat) (w w' : World) (bd : Nat) (f0 : Value) (r : Int × Ds) (e : Ending) : Prop :=
  Below B w w' ∧ (r.1 ≠ 0 → e = .returned (.tuple #[.nilFunc, .int .i64 r.1]) ∧ ∃ q s t, w'.heap[bd]? = some (.cells #[f0, q, s, t] 114)) ∧
    (r.1 = 0 → ∃ f, e = .returned (.tuple #[f, .int .i64 0]) ∧ Dec B w' bd f0 r.2 ∧ (r.2.done = true → f = .nilFunc) ∧ (r.2.done = false → StepV w' f r.2.st))
theorem Dec.block {B : Nat} {w : World} {bd : Nat} {f0 : Value} {x : Ds} (h : Dec B w bd f0 x) : ∃ q s t, w.heap[bd]? = some (.cells #[f0, q, s, t] 114) := by
  obtain ⟨vb, vf, Bf, h1, _⟩ := h
  exact ⟨_, _, _, h1⟩
set_option maxHeartbeats 8000000 in
set_option maxRecDepth 100000 in
theorem fields1_at (B : Nat) (x : Ds) (c : UInt8) (k a bd : Nat) (f0 : Value) (m : Int) (w : World) (hd : Dec B w bd f0 x) (hst : x.st = .fld k) (hdn : x.done = false) (hinv : FInv x.fields k) (ha : w.heap[a]? = some (.cells #[.int .i64 (k : Int)] 3))
    (hm : w.cell? ⟨0, 0, none⟩ = some (.int .i64 m)) (hM : 0 < B) :
    Calls Tryz.prog 122 #[ptr bd, .int .u8 (c.toNat : Int), ptr a] w fun e w' => StQ B w w' bd f0 (stepD x c) e := by
  obtain ⟨i0, hi, hz0, hz1, hz2⟩ := info_parts info5
  obtain ⟨vb, vf, Bf, h1, h2, h3, h4, h5, h6, h7, h8⟩ := hd
  have hbd : bd < w.heap.size := (Array.getElem?_eq_some_iff.1 h1).1
  obtain ⟨_, _, hc1, _⟩ := dec_cell h1
  obtain ⟨hlen, hk⟩ := finv_len hinv
  obtain ⟨l, hl⟩ : ∃ l, l = x.fields ++ [c] := ⟨_, rfl⟩
  have hll : l.length = x.fields.length + 1 := by rw [hl]; simp
  obtain ⟨b, hb⟩ : ∃ b, ended l = b := ⟨_, rfl⟩
  obtain ⟨z, hz⟩ : ∃ z, (parS l []).2.2 = z := ⟨_, rfl⟩
  have HS : Hid (stepD x c = if b = false ∧ k < 1100 then (0, { x with fields := l, st := .fld (k + 1) }) else if z = 0 then (0, { x with fields := [], done := true }) else if z ≠ 8 then (z, x) else (0, { x with fields := l, st := if b = true then .fld 0 else .fld (k + 1) })) := by
    show _ = _
    unfold stepD; rw [hst]; simp only; rw [← hl, hb, hz]
  have H1 : Hid (w.heap[bd]? = some (.cells #[f0, vb, vf, .bool x.done] 114)) := h1
  have H5 : Hid (w.ownsRow B 5 1 vb x.body.length (u8s x.body)) := h5
  have H6 : Hid (w.ownsRow Bf 5 1 vf x.fields.length (u8s x.fields)) := h6
  have H7 : Hid (∀ g, vb.ownBlock = some g → g < Bf) := h7
  have HA : Hid (w.heap[a]? = some (.cells #[.int .i64 (k : Int)] 3)) := ha
  have HL : Hid (l = x.fields ++ [c]) := hl
  have HB : Hid (ended l = b) := hb
  have HZ : Hid ((parS l []).2.2 = z) := hz
  have HM : Hid (w.cell? ⟨0, 0, none⟩ = some (.int .i64 m)) := hm
  have HDN : Hid (x.done = false) := hdn
  clear h1 h5 h6 h7 h8 ha hl hb hz hm hinv hst hdn
  go_enter Tryz.func122, Tryz.ntmps122
  go_wp2_with (at_builtin; refine wpList_append_own _ rfl _ _ 63 rfl Bf 5 i0 (.int .u8 0) 1 1 Tryz.underlying63 hi hz0 hz1 hz2 rfl (by decide) _ _ _ rfl (H6.out.alloc _) ⟨w.heap.size, 0, none⟩ 1 1 [.int .u8 (c.toNat : Int)] rfl rfl ?c1 ?c2 ?c3 ?c4 ?c5 ?_)
  case c1 => exact one_cell _ _ _
  case c2 => intro z hx; simp at hx; subst hx; rfl
  case c3 => unfold maxLen; omega
  case c4 => omega
  case c5 => simp; omega
  · intro v' w1 hown hg _
    obtain ⟨D1, D2, D3⟩ := Dec.flds H1.out h2 h3 h4 H5.out H6.out H7.out hown hg
    have hb1 : w1.heap[bd]? = some (.cells #[f0, vb, vf, .bool x.done] 114) := dec_grown H1.out H6.out hg
    obtain ⟨_, _, hc2, _⟩ := dec_cell hb1
    have hfr : w1.frozen? ⟨bd, 2, none⟩ = false := Lib.frozen_of_heap hb1 2
    have hsl0 := own_slice hown
    obtain ⟨ad', cap', hv', _, hcap, hcells⟩ := hsl0
    obtain ⟨g', rfl, _, _, _⟩ := hcells (by omega)
    subst hv'
    have O3 := fun o => (own_set hown hb1 2 (.slice (some ⟨g', 0, none⟩) (x.fields.length + 1) cap')).alloc o
    have HO : Hid (∀ o, ((w1.setCell ⟨bd, 2, none⟩ (.slice (some ⟨g', 0, none⟩) (x.fields.length + 1) cap')).alloc o).ownsRow Bf 5 1 (.slice (some ⟨g', 0, none⟩) (x.fields.length + 1) cap') (x.fields.length + 1) (u8s x.fields ++ [.int .u8 (c.toNat : Int)])) := O3
    have kc : (convert 63 63 (.slice (some ⟨w1.heap.size, 0, none⟩) 2 2)).run Tryz.prog ((w1.setCell ⟨bd, 2, none⟩ (.slice (some ⟨g', 0, none⟩) (x.fields.length + 1) cap')).alloc (.cells #[.int .u8 13, .int .u8 10] 5)) = .ok (.slice (some ⟨w1.heap.size, 0, none⟩) 2 2) ((w1.setCell ⟨bd, 2, none⟩ (.slice (some ⟨g', 0, none⟩) (x.fields.length + 1) cap')).alloc (.cells #[.int .u8 13, .int .u8 10] 5 (2, 3))) := by
      have h := Lib.run_convert_bytes_const (P := Tryz.prog) (w1.setCell ⟨bd, 2, none⟩ (.slice (some ⟨g', 0, none⟩) (x.fields.length + 1) cap')) 63 5 #[.int .u8 13, .int .u8 10] 2 2 Tryz.underlying63 Tryz.underlying5
      rw [World.size_setCell] at h
      exact h
    have hq : ∀ j, ((w1.setCell ⟨bd, 2, none⟩ (.slice (some ⟨g', 0, none⟩) (x.fields.length + 1) cap')).alloc (.cells #[.int .u8 13, .int .u8 10] 5 (2, 3))).cell? ⟨w1.heap.size, j, none⟩ = #[.int .u8 13, .int .u8 10][j]? := by
      intro j
      have h := World.cell?_alloc_mark (w1.setCell ⟨bd, 2, none⟩ (.slice (some ⟨g', 0, none⟩) (x.fields.length + 1) cap')) #[.int .u8 13, .int .u8 10] 5 (2, 3) j
      rw [World.size_setCell] at h
      exact h
    have HQ : Hid (∀ j, ((w1.setCell ⟨bd, 2, none⟩ (.slice (some ⟨g', 0, none⟩) (x.fields.length + 1) cap')).alloc (.cells #[.int .u8 13, .int .u8 10] 5 (2, 3))).cell? ⟨w1.heap.size, j, none⟩ = #[.int .u8 13, .int .u8 10][j]?) := hq
    clear hown hg hb1 hcells O3 hq
    go_wp2_with fail
    refine (suffix_at l b HB.out g' _ cap' _ _ hll.symm (by omega) (by omega) ?_ ?_ ?_).mono ?_
    · intro j hj
      have h := own_slice (HO.out (.cells #[.int .u8 13, .int .u8 10] 5 (2, 3)))
      obtain ⟨ad, cap, e1, _, _, e2⟩ := h
      obtain ⟨g2, e3, _, _, e4⟩ := e2 (by omega)
      injection e1 with e5 _ _
      rw [e3] at e5
      have e6 := Option.some.inj e5
      injection e6 with e7
      subst e7
      have e8 := e4 j hj
      rw [HL.out, u8s_snoc]
      exact e8
    · exact HQ.out 0
    · exact HQ.out 1
    · rintro e w3 ⟨rfl, hw3⟩
      have hB3 : Below B w w3 := by rw [hw3]; exact D3.alloc (by have := D3.size; omega) _
      have hba : Below (w1.setCell ⟨bd, 2, none⟩ (.slice (some ⟨g', 0, none⟩) (x.fields.length + 1) cap')).heap.size (w1.setCell ⟨bd, 2, none⟩ (.slice (some ⟨g', 0, none⟩) (x.fields.length + 1) cap')) w3 := by rw [hw3]; exact (Below.refl _ _).alloc (Nat.le_refl _) _
      have hD := D1.below hba
      rw [← HL.out] at hD
      have hca := cellH (KeepC.below hba _ _ _ (.inl rfl) (D2 _ _ _ (.inl rfl) HA.out))
      have hm3 : Hid (w3.cell? ⟨0, 0, none⟩ = some (.int .i64 m)) := (hB3.cell (p := ⟨0, 0, none⟩) hM).trans HM.out
      clear hw3 hba kc HQ D1 D2 D3 hc1 hc2 hfr HO HA H1 H5 H6 H7 HM
      have hs3 := hB3.size
      have HD3 : Hid (Dec B w3 bd f0 { x with fields := l }) := hD
      have HB3 : Hid (Below B w w3) := hB3
      clear hB3
      by_cases hA : b = false ∧ k < 1100
      · have HR : Hid (stepD x c = (0, { x with fields := l, st := .fld (k + 1) })) := by show _ = _; rw [HS.out, if_pos hA]
        obtain ⟨rfl, hk1⟩ := hA
        have hki : (k : Int) < 1100 := by omega
        clear hD
        go_wp2_with fail
        refine (mkFields _ (k + 1) (by go_num) _).mono ?_
        rintro e w4 ⟨f, rfl, hst, hbl⟩
        go_wp2_with fail
        go_ret2
        rw [HR.out]
        exact ⟨HB3.out.trans (hbl.mono (by omega)), fun h => absurd rfl h, fun _ => ⟨f, rfl, HD3.out.below hbl, fun h => absurd (h.symm.trans HDN.out) (by simp), fun _ => hst⟩⟩
      · obtain ⟨vb', vf', Bf', g1, g2, g3, g4, g5, g6, g7, g8⟩ := hD
        obtain ⟨ad, cap, hv, _, _, hcells⟩ := own_slice g6
        obtain ⟨g, rfl, _, _, hcl⟩ := hcells (by show 0 < l.length; omega)
        subst hv
        obtain ⟨_, _, hc3, _⟩ := dec_cell g1
        have hcv := run_convert_bytes_back (P := Tryz.prog) w3 63 9 5 ⟨g, 0, none⟩ cap l Tryz.underlying63 Tryz.underlying5 Tryz.underlying9 (fun j hj => by
          have h := hcl j hj
          rw [u8s_at, List.getElem?_eq_getElem hj] at h
          cases j <;> simpa [Addr.add] using h)
        rw [hll] at hcv
        have HR0 : Hid (stepD x c = if z = 0 then (0, { x with fields := [], done := true }) else if z ≠ 8 then (z, x) else (0, { x with fields := l, st := if b = true then .fld 0 else .fld (k + 1) })) := by show _ = _; rw [HS.out, if_neg hA]
        have HPZ : Hid (∀ w, w.cell? ⟨0, 0, none⟩ = some (.int .i64 m) → Calls Tryz.prog 24 #[.string ⟨l.toArray⟩] w fun e w' => ∃ v q, e = .returned (.tuple #[v, .int .i64 q, .int .i64 z]) ∧ Below w.heap.size w w') := by
          intro w hm
          refine (parse_any ⟨l.toArray⟩ m w hm (by rw [← size_list]; show l.length < _; omega)).mono ?_
          rintro e w' ⟨v, rfl, _, hb⟩
          exact ⟨v, parN l, by rw [← HZ.out], hb⟩
        clear HS g1 g2 g3 g4 g5 g6 g7 g8 hcells hcl
        have hbk : b = true ∨ (b = false ∧ ¬ (k : Int) < 1100) := by
          cases b
          · right; refine ⟨rfl, fun h => hA ⟨rfl, by omega⟩⟩
          · exact .inl rfl
        clear hA
        rcases hbk with rfl | ⟨rfl, hk1⟩
        all_goals
          go_wp2_with fail
          refine (HPZ.out _ hm3.out).mono ?_
          rintro e w4 ⟨v, q, rfl, hbl⟩
          have HD4 : Hid (Dec B w4 bd f0 { x with fields := l }) := HD3.out.below hbl
          have HB4 : Hid (Below B w w4) := HB3.out.trans (hbl.mono (by omega))
          have hca4 : w4.cell? ⟨a, 0, none⟩ = some (.int .i64 (k : Int)) := (hbl.cell (p := ⟨a, 0, none⟩) (cell_in hca)).trans hca
          have hs4 := hbl.size
          clear hbl hca hcv hc3
          by_cases hz0 : z = 0
          · have HR : Hid (stepD x c = (0, { x with fields := [], done := true })) := by show _ = _; rw [HR0.out, if_pos hz0]
            subst hz0
            obtain ⟨vb2, vf2, Bf2, e1, _⟩ := HD4.out
            obtain ⟨_, _, e2, e3⟩ := dec_cell e1
            have e4 : w4.frozen? ⟨bd, 3, none⟩ = false := Lib.frozen_of_heap e1 3
            have e5 := heap_set_at e1 3 (.bool true)
            have e6 : (w4.setCell ⟨bd, 3, none⟩ (.bool true)).frozen? ⟨bd, 2, none⟩ = false := Lib.frozen_of_heap e5 2
            clear e1 e5
            go_wp2_with fail
            go_ret2
            rw [HR.out]
            exact ⟨HB4.out.trans (HD4.out.fin).2, fun h => absurd rfl h, fun _ => ⟨_, rfl, (HD4.out.fin).1, fun _ => rfl, fun h => by cases h⟩⟩
          · have hz0' : (z == 0) = false := beq_eq_false_iff_ne.2 hz0
            by_cases hz8 : z = 8
            · have HR := HR0.out
              rw [if_neg hz0, if_neg (by simpa using hz8)] at HR
              have HRR : Hid _ := HR
              clear HR
              subst hz8
              go_wp2_with fail
              refine (mkFields _ _ (by go_num) _).mono ?_
              rintro e w5 ⟨f, rfl, hst, hbl⟩
              go_wp2_with fail
              go_ret2
              rw [HRR.out]
              exact ⟨HB4.out.trans (hbl.mono (by omega)), fun h => absurd rfl h, fun _ => ⟨f, rfl, HD4.out.below hbl, fun h => absurd (h.symm.trans HDN.out) (by simp), fun _ => hst⟩⟩
            · have hz8' : (z != 8) = true := by simpa using hz8
              have HR : Hid (stepD x c = (z, x)) := by show _ = _; rw [HR0.out, if_neg hz0, if_pos hz8]
              have HZ0 : Hid (z ≠ 0) := hz0
              clear hz0 hz8
              go_wp2_with fail
              go_ret2
              rw [HR.out]
              exact ⟨HB4.out, fun _ => ⟨rfl, HD4.out.block⟩, fun h => absurd h HZ0.out⟩
end Go.Proofs.YtipfjpihciiikabGreatDoor

/-
  What one byte does to a Decoder of package body, whatever may come next.
-/
namespace Go.Proofs.YtipfjpihciiikabGreatDoor
open Go.RowKit

theorem dec_size {B : Nat} {w : World} {bd : Nat} {f0 : Value} {x : Ds} (h : Dec B w bd f0 x) : B ≤ w.heap.size := by
  obtain ⟨_, _, Bf, _, _, h3, h4, _⟩ := h
  omega
def nxD (x : Ds) : Option St → Int × Ds
  | none => (3, x)
  | some st => (0, { x with st := st })
theorem nxD_if (x : Ds) (p : Prop) [Decidable p] (a b : Option St) : nxD x (if p then a else b) = if p then nxD x a else nxD x b := by split <;> rfl
/-- A function value that neither reads nor writes the Decoder. -/
theorem st_of_nx {B : Nat} {w w' : World} {bd : Nat} {f0 : Value} {x : Ds} {c : UInt8} {e : Ending} {r : Option St} (hd : Dec B w bd f0 x) (hdn : x.done = false) (h : Nx w w' e r)
    (hs : stepD x c = nxD x r) : StQ B w w' bd f0 (stepD x c) e := by
  obtain ⟨hb, h⟩ := h
  have hd' := hd.below hb
  cases r with
  | none =>
    rw [hs]
    exact ⟨hb.mono (dec_size hd), fun _ => ⟨h, hd'.block⟩, fun h => absurd h (by simp [nxD])⟩
  | some st =>
    obtain ⟨f, he, hst⟩ := h
    rw [hs]
    exact ⟨hb.mono (dec_size hd), fun h => absurd rfl h, fun _ => ⟨f, he, hd', fun h => absurd (h.symm.trans hdn) (by simp), fun _ => hst⟩⟩
theorem enter_fn : ∀ g, g = 89 ∨ g = 108 ∨ g = 109 ∨ g = 124 ∨ g = 132 ∨ g = 122 → ∀ args w, (callFunc g args).run Tryz.prog w = .ok (.enter g args) w := by
  rintro g (rfl | rfl | rfl | rfl | rfl | rfl)
  · exact enters_of Tryz.func89 (by kernel_rfl) rfl
  · exact enters_of Tryz.func108 (by kernel_rfl) rfl
  · exact enters_of Tryz.func109 (by kernel_rfl) rfl
  · exact enters_of Tryz.func124 (by kernel_rfl) rfl
  · exact enters_of Tryz.func132 (by kernel_rfl) rfl
  · exact enters_of Tryz.func122 (by kernel_rfl) rfl
theorem step_at (B : Nat) (x : Ds) (c : UInt8) (bd : Nat) (f : Value) (m : Int) (w : World) (hd : Dec B w bd f x) (hf : StepV w f x.st) (hi : Inv x)
    (hm : w.cell? ⟨0, 0, none⟩ = some (.int .i64 m)) (hM : 0 < B) :
    ∃ (g : Nat) (lb : Array Value), f = .func (.func g) #[] lb ∧ (∀ args w, (callFunc g args).run Tryz.prog w = .ok (.enter g args) w) ∧
      Calls Tryz.prog g (#[ptr bd, .int .u8 (c.toNat : Int)] ++ lb) w fun e w' => StQ B w w' bd f (stepD x c) e := by
  obtain ⟨h1, h2, h3⟩ := hi
  cases hst : x.st with
  | num d n =>
    rw [hst] at hf h3
    obtain ⟨_, h4, h5⟩ := h3
    obtain ⟨a, b, rfl, ha, hb⟩ := hf
    refine ⟨_, _, rfl, enter_fn _ (by simp), (number1_at d n c a b (ptr bd) w h4 (dig_lt h4 h5) (cellH ha) (cellH hb)).mono fun e w' h => st_of_nx hd h1 h ?_⟩
    unfold stepD numN; rw [hst]; simp only
    cases hv c with
    | some v => simp only; rw [nxD_if]; rfl
    | none => simp only; rw [nxD_if, nxD_if]; rfl
  | ext k n =>
    rw [hst] at hf h3
    obtain ⟨_, h4, _⟩ := h3
    obtain ⟨a, b, rfl, ha, hb⟩ := hf
    refine ⟨_, _, rfl, enter_fn _ (by simp), (extra1_at k n c a b (ptr bd) w h4 (cellH ha) (cellH hb)).mono fun e w' h => st_of_nx hd h1 h ?_⟩
    unfold stepD extN; rw [hst]; simp only
    rw [nxD_if, nxD_if]; rfl
  | endn n =>
    rw [hst] at hf h3
    obtain ⟨_, h4⟩ := h3
    obtain ⟨a, rfl, ha⟩ := hf
    obtain ⟨vb, vf, Bf, g1, g2, g3, g4, g5, g6, g7, g8⟩ := id hd
    obtain ⟨ad, cap, hv, _⟩ := own_slice g5
    obtain ⟨_, hc, _, _⟩ := dec_cell g1
    rw [hv] at hc
    refine ⟨_, _, rfl, enter_fn _ (by simp), (end1_at n c a bd x.body.length cap ad w h4 h2 (cellH ha) hc).mono fun e w' h => ?_⟩
    obtain ⟨hb, e1, e2, e3⟩ := h
    have hd' := hd.below hb
    have hs : stepD x c = if c ≠ 10 then (3, x) else if 5000 < x.body.length + n then (2, x) else if n = 0 then (0, { x with st := .fld 0 }) else (0, { x with st := .byt n }) := by unfold stepD; rw [hst]
    by_cases c1 : c ≠ 10
    · rw [hs, if_pos c1]
      exact ⟨hb.mono (dec_size hd), fun _ => ⟨e1 c1, hd'.block⟩, fun h => absurd h (by simp)⟩
    · have c10 : c = 10 := Classical.byContradiction c1
      rw [hs, if_neg c1]
      by_cases c2 : 5000 < x.body.length + n
      · rw [if_pos c2]
        exact ⟨hb.mono (dec_size hd), fun _ => ⟨e2 c10 c2, hd'.block⟩, fun h => absurd h (by simp)⟩
      · rw [if_neg c2]
        obtain ⟨f, he, hst'⟩ := e3 c10 c2
        by_cases c3 : n = 0
        · rw [if_pos c3] at hst' ⊢
          exact ⟨hb.mono (dec_size hd), fun h => absurd rfl h, fun _ => ⟨f, he, hd', fun h => absurd (h.symm.trans h1) (by simp), fun _ => hst'⟩⟩
        · rw [if_neg c3] at hst' ⊢
          exact ⟨hb.mono (dec_size hd), fun h => absurd rfl h, fun _ => ⟨f, he, hd', fun h => absurd (h.symm.trans h1) (by simp), fun _ => hst'⟩⟩
  | byt l =>
    rw [hst] at hf h3
    obtain ⟨h4, h5, h6⟩ := h3
    obtain ⟨a, rfl, ha⟩ := hf
    refine ⟨_, _, rfl, enter_fn _ (by simp), (bytes1_at B x c l a bd _ w hd h4 h5 h6 ha).mono fun e w' h => ?_⟩
    obtain ⟨f, he, hd', hs', _, hb⟩ := h
    have hs : stepD x c = (0, { x with body := x.body ++ [c], st := if 1 < l then .byt (l - 1) else .crlf }) := by unfold stepD; rw [hst]
    rw [hs]
    exact ⟨hb, fun h => absurd rfl h, fun _ => ⟨f, he, hd', fun h => absurd (h.symm.trans h1) (by simp), fun _ => hs'⟩⟩
  | crlf =>
    rw [hst] at hf
    obtain ⟨lb, rfl, hc⟩ := text1_cr c f w hf (ptr bd)
    refine ⟨_, _, rfl, enter_fn _ (by simp), hc.mono fun e w' h => st_of_nx hd h1 h ?_⟩
    unfold stepD crN; rw [hst]; simp only
    rw [nxD_if]; rfl
  | lf =>
    rw [hst] at hf
    obtain ⟨lb, rfl, hc⟩ := text1_lf c f w hf (ptr bd)
    refine ⟨_, _, rfl, enter_fn _ (by simp), hc.mono fun e w' h => st_of_nx hd h1 h ?_⟩
    unfold stepD lfN; rw [hst]; simp only
    rw [nxD_if]; rfl
  | fld k =>
    rw [hst] at hf h3
    obtain ⟨a, rfl, ha⟩ := hf
    exact ⟨_, _, rfl, enter_fn _ (by simp), fields1_at B x c k a bd _ m w hd hst h1 h3 ha hm hM⟩
end Go.Proofs.YtipfjpihciiikabGreatDoor

/-
  Function values held against nil; no condition.
-/
namespace Go.Proofs.YtipfjpihciiikabGreatDoor
open Go.RowKit

theorem eqIn_fn {P : Program} (w : World) (d : Nat) (t : TypeId) (ps rs : Array TypeId) (v : Bool) (fn : Fn) (fi ca : Array Value) (h : P.underlying t = some (.func ps rs v)) : (Op.equalIn (d + 1) t (.func fn fi ca) .nilFunc).run P w = .ok false w := by
  simp [Op.equalIn, run_underlying h]
theorem eqIn_nil {P : Program} (w : World) (d : Nat) (t : TypeId) (ps rs : Array TypeId) (v : Bool) (h : P.underlying t = some (.func ps rs v)) : (Op.equalIn (d + 1) t .nilFunc .nilFunc).run P w = .ok true w := by
  simp [Op.equalIn, run_underlying h]
theorem fn_nil {t : TypeId} {ps rs : Array TypeId} {v : Bool} {P : Program} (h : P.underlying t = some (.func ps rs v)) (fn : Fn) (fi ca : Array Value) (w : World) : (binOp .eql t (.func fn fi ca) .nilFunc).run P w = .ok (.bool false) w := by
  have e : (Op.equal t (.func fn fi ca) .nilFunc).run P w = .ok false w := eqIn_fn w 9999 t ps rs v fn fi ca h
  simp only [binOp]
  simp [e]
theorem nil_nil {t : TypeId} {ps rs : Array TypeId} {v : Bool} {P : Program} (h : P.underlying t = some (.func ps rs v)) (w : World) : (binOp .eql t .nilFunc .nilFunc).run P w = .ok (.bool true) w := by
  have e : (Op.equal t .nilFunc .nilFunc).run P w = .ok true w := eqIn_nil w 9999 t ps rs v h
  simp only [binOp]
  simp [e]
theorem step_fn (fn : Fn) (fi ca : Array Value) (w : World) : (binOp .eql 111 (.func fn fi ca) .nilFunc).run Tryz.prog w = .ok (.bool false) w := by
  obtain ⟨ps, rs, v, h⟩ : ∃ ps rs v, Tryz.prog.underlying 111 = some (.func ps rs v) := ⟨_, _, _, Tryz.underlying111⟩
  exact fn_nil h fn fi ca w
theorem step_nil (w : World) : (binOp .eql 111 .nilFunc .nilFunc).run Tryz.prog w = .ok (.bool true) w := by
  obtain ⟨ps, rs, v, h⟩ : ∃ ps rs v, Tryz.prog.underlying 111 = some (.func ps rs v) := ⟨_, _, _, Tryz.underlying111⟩
  exact nil_nil h w
end Go.Proofs.YtipfjpihciiikabGreatDoor

/-
  What Write of package body's Decoder computes: the bytes come one by one.
-/
namespace Go.Proofs.YtipfjpihciiikabGreatDoor
open Go.RowKit

/-- What a Decoder is once it has had an error. -/
def Dead (w : World) (bd : Nat) : Prop := w.heap[bd]? = some (.cells #[.nilFunc, .slice none 0 0, .slice none 0 0, .bool false] 114)
/-- What a Decoder is once it is done. -/
def Live (B : Nat) (w : World) (bd : Nat) (x : Ds) : Prop := ∃ f, Dec B w bd f x ∧ (x.done = true → f = .nilFunc) ∧ (x.done = false → StepV w f x.st)
def WrQ (B : Nat) (w w' : World) (bd : Nat) (r : Int × Nat × Ds) (e : Ending) : Prop :=
  e = .returned (.tuple #[.int .i64 (r.2.1 : Int), .int .i64 r.1]) ∧ Below B w w' ∧ (r.1 ≠ 0 → Dead w' bd) ∧ (r.1 = 0 → Live B w' bd r.2.2)
theorem ret_ii {a b c d : Int} (h : a = b) (h' : c = d) : Ending.returned (.tuple #[.int .i64 a, .int .i64 c]) = .returned (.tuple #[.int .i64 b, .int .i64 d]) := by rw [h, h']
theorem Dec.cells {B : Nat} {w : World} {bd : Nat} {f0 : Value} {x : Ds} (h : Dec B w bd f0 x) : w.cell? ⟨bd, 0, none⟩ = some f0 ∧ w.cell? ⟨bd, 3, none⟩ = some (.bool x.done) ∧ w.frozen? ⟨bd, 0, none⟩ = false := by
  obtain ⟨vb, vf, Bf, h1, _⟩ := h
  exact ⟨(dec_cell h1).1, (dec_cell h1).2.2.2, Lib.frozen_of_heap h1 0⟩
theorem Dec.setNext {B : Nat} {w : World} {bd : Nat} {f0 : Value} {x : Ds} (h : Dec B w bd f0 x) (f : Value) : Dec B (w.setCell ⟨bd, 0, none⟩ f) bd f x ∧ KeepC w (w.setCell ⟨bd, 0, none⟩ f) ∧ Below B w (w.setCell ⟨bd, 0, none⟩ f) := by
  obtain ⟨vb, vf, Bf, h1, h2, h3, h4, h5, h6, h7, h8⟩ := h
  refine ⟨⟨vb, vf, Bf, ?_, h2, h3, by simpa using h4, own_set h5 h1 _ _, own_set h6 h1 _ _, h7, h8⟩, KeepC.set h1 _ _, (Below.refl B w).setCell (by simpa using h2) _⟩
  rw [heap_set_at h1]; rfl
theorem StepV.fn {w : World} {f : Value} {st : St} (h : StepV w f st) : ∃ g lb, f = .func (.func g) #[] lb := by
  cases st with
  | num d n => obtain ⟨a, b, rfl, _⟩ := h; exact ⟨_, _, rfl⟩
  | ext d n => obtain ⟨a, b, rfl, _⟩ := h; exact ⟨_, _, rfl⟩
  | endn n => obtain ⟨a, rfl, _⟩ := h; exact ⟨_, _, rfl⟩
  | byt n => obtain ⟨a, rfl, _⟩ := h; exact ⟨_, _, rfl⟩
  | fld n => obtain ⟨a, rfl, _⟩ := h; exact ⟨_, _, rfl⟩
  | crlf => obtain ⟨a, b, c, d, rfl, _⟩ := h; exact ⟨_, _, rfl⟩
  | lf => obtain ⟨a, b, c, d, rfl, _⟩ := h; exact ⟨_, _, rfl⟩
theorem store_fn {w : World} {a : Addr} {u : Value} (fn : Fn) (fi ca : Array Value) (hc : w.cell? a = some u) (hf : w.frozen? a = false) : (store a (.func fn fi ca)).run Tryz.prog w = .ok () (w.setCell a (.func fn fi ca)) := by
  rw [run_store _ _ _ _ _ rfl]; simp [hc, hf]
theorem store_nil {w : World} {a : Addr} {u : Value} (hc : w.cell? a = some u) (hf : w.frozen? a = false) : (store a .nilFunc).run Tryz.prog w = .ok () (w.setCell a .nilFunc) := by
  rw [run_store_nilFunc]; simp [stored, hc, hf]
theorem drop_get (s : ByteArray) (k : Nat) (h : k < s.size) : s.data.toList.drop k = s[k] :: s.data.toList.drop (k + 1) := by
  rw [List.drop_eq_getElem_cons (by rw [size_list]; exact h)]; rfl
set_option maxHeartbeats 8000000 in
set_option maxRecDepth 100000 in
theorem write_at (B : Nat) (x : Ds) (s : ByteArray) (bd : Nat) (m : Int) (w : World) (hl : Live B w bd x) (hi : Inv x) (hs : s.size ≤ maxLen)
    (hm : w.cell? ⟨0, 0, none⟩ = some (.int .i64 m)) (hM : 0 < B) :
    Calls Tryz.prog 56 #[ptr bd, .string s] w fun e w' => WrQ B w w' bd (runD x s.data.toList 0) e := by
  unfold maxLen at hs
  obtain ⟨f, hd, _, hf⟩ := hl
  have hf := hf hi.1
  obtain ⟨vb, vf, Bf, g1, g2, g3, g4, g5, g6, g7, g8⟩ := id hd
  obtain ⟨hc0, _, _, _⟩ := dec_cell g1
  have HD : Hid (Dec B w bd f x) := hd
  have HF : Hid (StepV w f x.st) := hf
  have HI : Hid (Inv x) := hi
  have HM : Hid (w.cell? ⟨0, 0, none⟩ = some (.int .i64 m)) := hm
  obtain ⟨gg, lb, hfe, _, _⟩ := step_at B x 0 bd f m w hd hf hi hm hM
  subst hfe
  have hfn := step_fn
  clear g1 g3 g4 g5 g6 g7 g8 hd hf hi hm
  go_enter Tryz.func56, Tryz.ntmps56
  go_wp2_with fail
  go_loopw [16] (fun i wr => ∃ (k : Nat) (y : Ds) (f : Value), k ≤ s.size ∧ i = .int .i64 k ∧ runD x s.data.toList 0 = runD y (s.data.toList.drop k) k ∧ Inv y ∧ Dec B wr bd f y ∧ StepV wr f y.st ∧ Below B w wr) (fun i _ => s.size - (intOf i).toNat)
  case atStart => exact ⟨0, x, _, Nat.zero_le _, rfl, rfl, HI.out, HD.out, HF.out, Below.refl _ _⟩
  case round =>
    clear hc0
    obtain ⟨k, y, f, hk, rfl, hrun, hiy, hdy, hfy, hwr⟩ := hrel
    have hm1 : wr.cell? ⟨0, 0, none⟩ = some (.int .i64 m) := (hwr.cell (p := ⟨0, 0, none⟩) hM).trans HM.out
    by_cases hlt : k < s.size
    · obtain ⟨g, lb, hfe, eg, hcall⟩ := step_at B y s[k] bd f m wr hdy hfy hiy hm1 hM
      obtain ⟨vb2, vf2, Bf2, e1, _⟩ := id hdy
      obtain ⟨hc0, _, _, _⟩ := dec_cell e1
      subst hfe
      have HRUN : Hid (runD x s.data.toList 0 = runD y (s[k] :: s.data.toList.drop (k + 1)) k) := by show _ = _; rw [hrun, drop_get s k hlt]
      have hki : (k : Int) < (s.size : Int) := by omega
      have hk0 : (0 : Int) ≤ (k : Int) := by omega
      have HC : Hid (∀ W, Below wr.heap.size wr W → Calls Tryz.prog g (#[ptr bd, .int .u8 (s[k].toNat : Int)] ++ lb) W fun e w' => StQ B W w' bd (.func (.func g) #[] lb) (stepD y s[k]) e) := by
        intro W hW
        obtain ⟨g', lb', he', _, hc'⟩ := step_at B y s[k] bd _ m W (hdy.below hW) (hfy.keep (KeepC.below hW)) hiy ((hW.cell (p := ⟨0, 0, none⟩) (cell_in hm1)).trans hm1) hM
        injection he' with e1 _ e3
        injection e1 with e1
        subst e1 e3
        exact hc'
      have HIY : Hid (Inv y) := hiy
      have hbs := dec_size hdy
      clear hrun hcall hdy hfy hiy hm1 e1
      by_cases he : (stepD y s[k]).1 = 0
      · have HE : Hid ((stepD y s[k]).1 = 0) := he
        cases hdone : (stepD y s[k]).2.done
        · have HR : Hid (runD x s.data.toList 0 = runD (stepD y s[k]).2 (s.data.toList.drop (k + 1)) (k + 1)) := by show _ = _; rw [HRUN.out, runD, if_neg (by simpa using he), if_neg (by rw [hdone]; simp)]
          have HDN : Hid ((stepD y s[k]).2.done = false) := hdone
          clear he hdone
          go_wp2_with fail
          go_region_held3 (fun w' => w'.cell? ⟨bd, 0, none⟩ = some (.func (.func g) #[] lb)) (go_keep) (first | (go_at_fn g; refine ((HC.out _ (Below.refl _ _).drew).mono ?_); rintro e w3 ⟨hb3, _, he3⟩; obtain ⟨f', rfl, hd3, _, hst3⟩ := he3 HE.out; have hk1 : w3.cell? ⟨bd, 0, none⟩ = some (.func (.func g) #[] lb) := hd3.cells.1))
          all_goals
            obtain ⟨g5, lb5, hf5⟩ := (hst3 HDN.out).fn
            subst hf5
            obtain ⟨d0, d3, f0⟩ := hd3.cells
            rw [HDN.out] at d3
            have hs0 := store_fn (.func g5) #[] lb5 d0 f0
            obtain ⟨D1, D2, D3⟩ := hd3.setNext (.func (.func g5) #[] lb5)
            have HST : Hid (StepV (w3.setCell ⟨bd, 0, none⟩ (.func (.func g5) #[] lb5)) (.func (.func g5) #[] lb5) (stepD y s[k]).2.st) := (hst3 HDN.out).keep D2
            have HDD : Hid (Dec B (w3.setCell ⟨bd, 0, none⟩ (.func (.func g5) #[] lb5)) bd (.func (.func g5) #[] lb5) (stepD y s[k]).2) := D1
            have HBB : Hid (Below B w (w3.setCell ⟨bd, 0, none⟩ (.func (.func g5) #[] lb5))) := (hwr.drew.trans hb3).trans D3
            clear hst3 hd3 D1 D2 D3
            go_wp2_with fail
            go_roundw
            case rel => exact ⟨k + 1, _, _, by omega, by go_num, HR.out, inv_step HIY.out _ HE.out HDN.out, HDD.out, HST.out, HBB.out⟩
            case measure => simp [intOf]; omega
        · have HR : Hid (runD x s.data.toList 0 = (0, k + 1, (stepD y s[k]).2)) := by show _ = _; rw [HRUN.out, runD, if_neg (by simpa using he), if_pos hdone]
          have HDN : Hid ((stepD y s[k]).2.done = true) := hdone
          clear he hdone
          go_wp2_with fail
          go_region_held3 (fun w' => w'.cell? ⟨bd, 0, none⟩ = some (.func (.func g) #[] lb)) (go_keep) (first | (go_at_fn g; refine ((HC.out _ (Below.refl _ _).drew).mono ?_); rintro e w3 ⟨hb3, _, he3⟩; obtain ⟨f', rfl, hd3, hnil, _⟩ := he3 HE.out; have hk1 : w3.cell? ⟨bd, 0, none⟩ = some (.func (.func g) #[] lb) := hd3.cells.1))
          all_goals
            obtain rfl := hnil HDN.out
            obtain ⟨d0, d3, f0⟩ := hd3.cells
            rw [HDN.out] at d3
            have hs0 := store_nil d0 f0
            obtain ⟨D1, D2, D3⟩ := hd3.setNext .nilFunc
            have HDD : Hid (Dec B (w3.setCell ⟨bd, 0, none⟩ .nilFunc) bd .nilFunc (stepD y s[k]).2) := D1
            have HBB : Hid (Below B w (w3.setCell ⟨bd, 0, none⟩ .nilFunc)) := (hwr.drew.trans hb3).trans D3
            clear hd3 D1 D2 D3
            go_wp2_with fail
            go_ret2
            rw [HR.out]
            exact ⟨ret_ii (by go_num) rfl, HBB.out, fun h => absurd rfl h, fun _ => ⟨.nilFunc, HDD.out, fun _ => rfl, fun h => absurd (h.symm.trans HDN.out) (by simp)⟩⟩
      · have HE : Hid ((stepD y s[k]).1 ≠ 0) := he
        have heb : ((stepD y s[k]).1 != 0) = true := by simpa using he
        have HR : Hid (runD x s.data.toList 0 = ((stepD y s[k]).1, 0, y)) := by show _ = _; rw [HRUN.out, runD, if_pos he]
        clear he
        go_wp2_with fail
        go_region_held3 (fun w' => w'.cell? ⟨bd, 0, none⟩ = some (.func (.func g) #[] lb)) (go_keep) (first | (go_at_fn g; refine ((HC.out _ (Below.refl _ _).drew).mono ?_); rintro e w3 ⟨hb3, he3, _⟩; obtain ⟨rfl, q1, q2, q3, hblk⟩ := he3 HE.out; have hk1 : w3.cell? ⟨bd, 0, none⟩ = some (.func (.func g) #[] lb) := (dec_cell hblk).1))
        all_goals
          obtain ⟨d0, d1, d2, d3⟩ := dec_cell hblk
          have f0 : w3.frozen? ⟨bd, 0, none⟩ = false := Lib.frozen_of_heap hblk 0
          have f1 : w3.frozen? ⟨bd, 1, none⟩ = false := Lib.frozen_of_heap hblk 1
          have f2 : w3.frozen? ⟨bd, 2, none⟩ = false := Lib.frozen_of_heap hblk 2
          have f3 : w3.frozen? ⟨bd, 3, none⟩ = false := Lib.frozen_of_heap hblk 3
          have HBLK : Hid (w3.heap[bd]? = some (.cells #[.func (.func g) #[] lb, q1, q2, q3] 114)) := hblk
          clear hblk
          have hs0 : (store ⟨bd, 0, none⟩ .nilFunc).run Tryz.prog w3 = .ok () (w3.setCell ⟨bd, 0, none⟩ .nilFunc) := by rw [run_store_nilFunc]; simp [stored, d0, f0]
          go_wp2_with fail
          go_ret2
          rw [HR.out]
          have e1 := heap_set_at HBLK.out 0 .nilFunc
          have e2 := heap_set_at e1 1 (.slice none 0 0)
          have e3 := heap_set_at e2 2 (.slice none 0 0)
          have e4 := heap_set_at e3 3 (.bool false)
          refine ⟨rfl, ?_, fun _ => e4, fun h => absurd h HE.out⟩
          exact ((((hwr.drew.trans hb3).setCell (by simpa using g2) _).setCell (by simpa using g2) _).setCell (by simpa using g2) _).setCell (by simpa using g2) _
    · obtain rfl : k = s.size := by omega
      have HRUN : Hid (runD x s.data.toList 0 = (0, s.size, y)) := by show _ = _; rw [hrun, List.drop_eq_nil_of_le (by rw [size_list]; exact Nat.le_refl _)]; rfl
      have HL : Hid (Live B wr bd y) := ⟨f, hdy, fun h => absurd (h.symm.trans hiy.1) (by simp), fun _ => hfy⟩
      clear hrun hiy hdy hfy hm1
      go_wp2_with fail
      go_ret2
      rw [HRUN.out]
      exact ⟨rfl, hwr, fun h => absurd rfl h, fun _ => HL.out⟩
end Go.Proofs.YtipfjpihciiikabGreatDoor

/-
  What New, Done, Body and Decode of package body compute, and Write of a Decoder that takes nothing more.
-/
namespace Go.Proofs.YtipfjpihciiikabGreatDoor
open Go.RowKit

set_option maxHeartbeats 1000000 in
set_option maxRecDepth 100000 in
theorem new_at (w : World) : Calls Tryz.prog 55 #[] w fun e w' => ∃ bd, e = .returned (ptr bd) ∧ Live w.heap.size w' bd start ∧ Below w.heap.size w w' := by
  go_enter Tryz.func55, Tryz.ntmps55
  go_wp2_with fail
  refine (mkNumber _ _ 0 0 (by go_num) (by go_num) _).mono ?_
  rintro e w1 ⟨f, rfl, hst, hbl⟩
  obtain ⟨g, lb, hf⟩ := hst.fn
  subst hf
  have HST : Hid (StepV w1 (.func (.func g) #[] lb) (.num 0 0)) := hst
  have hsz := hbl.size
  clear hst
  go_wp2_with fail
  go_ret
  have hb2 : Below w1.heap.size w1 (w1.alloc (.cells #[.func (.func g) #[] lb, .slice none 0 0, .slice none 0 0, .bool false] 114)) := (Below.refl _ w1).alloc (Nat.le_refl _) _
  refine ⟨w1.heap.size, rfl, ⟨_, ⟨.slice none 0 0, .slice none 0 0, w1.heap.size, at_last _ _, hsz, hsz, by simp, World.ownsRow_nil _ _ _ _, World.ownsRow_nil _ _ _ _, fun g hg => by simp [Value.ownBlock] at hg, fun _ => rfl⟩, (fun h => by cases h), fun _ => HST.out.keep (KeepC.below hb2)⟩, hbl.trans (hb2.mono hsz)⟩
set_option maxHeartbeats 1000000 in
set_option maxRecDepth 100000 in
theorem done_at (bd : Nat) (b : Bool) (w : World) (hc : w.cell? ⟨bd, 3, none⟩ = some (.bool b)) : Calls Tryz.prog 57 #[ptr bd] w fun e w' => e = .returned (.bool b) ∧ w' = w := by
  go_enter Tryz.func57, Tryz.ntmps57
  go_wp2_with fail
  go_ret
  exact ⟨rfl, rfl⟩
set_option maxHeartbeats 1000000 in
set_option maxRecDepth 100000 in
theorem body_no (bd : Nat) (w : World) (hc : w.cell? ⟨bd, 3, none⟩ = some (.bool false)) : Calls Tryz.prog 58 #[ptr bd] w fun e w' => e = .returned (.string ⟨#[]⟩) ∧ w' = w := by
  go_enter Tryz.func58, Tryz.ntmps58
  go_wp2_with fail
  go_ret
  exact ⟨rfl, rfl⟩
theorem body_conv {B : Nat} {w : World} {v : Value} (l : List UInt8) (h : w.ownsRow B 5 1 v l.length (u8s l)) : (convert 63 9 v).run Tryz.prog w = .ok (.string ⟨l.toArray⟩) w := by
  rcases h.2 with ⟨rfl, h0⟩ | ⟨g, cap, cur, hv, hB, hg, h3⟩
  · obtain rfl := List.eq_nil_of_length_eq_zero h0
    exact run_convert_bytes_nil (P := Tryz.prog) w 63 5 Tryz.underlying63 Tryz.underlying5 0 0 9 Tryz.underlying9
  · subst hv
    exact run_convert_bytes_back (P := Tryz.prog) w 63 9 5 ⟨g, 0, none⟩ cap l Tryz.underlying63 Tryz.underlying5 Tryz.underlying9 (fun j hj => by
      have h := h.cellAt j (by simpa using hj)
      rw [u8s_at, List.getElem?_eq_getElem hj] at h
      cases j <;> simpa [Addr.add] using h)
set_option maxHeartbeats 1000000 in
set_option maxRecDepth 100000 in
theorem body_yes (B bd : Nat) (f : Value) (x : Ds) (w : World) (hd : Dec B w bd f x) (hx : x.done = true) : Calls Tryz.prog 58 #[ptr bd] w fun e w' => e = .returned (.string ⟨x.body.toArray⟩) ∧ w' = w := by
  obtain ⟨vb, vf, Bf, h1, h2, h3, h4, h5, h6, h7, h8⟩ := hd
  obtain ⟨c0, c1, c2, c3⟩ := dec_cell h1
  rw [hx] at c3
  have hcv := body_conv x.body h5
  clear h1 h2 h3 h4 h5 h6 h7 h8 hx
  go_enter Tryz.func58, Tryz.ntmps58
  go_wp2_with fail
  go_ret
  exact ⟨rfl, rfl⟩
set_option maxHeartbeats 1000000 in
set_option maxRecDepth 100000 in
theorem write_dead (bd : Nat) (s : ByteArray) (w : World) (hc : w.cell? ⟨bd, 0, none⟩ = some .nilFunc) : Calls Tryz.prog 56 #[ptr bd, .string s] w fun e w' => e = .returned (.tuple #[.int .i64 0, .int .i64 7]) ∧ w' = w := by
  have hn := step_nil
  go_enter Tryz.func56, Tryz.ntmps56
  go_wp2_with fail
  go_ret2
  exact ⟨rfl, rfl⟩
theorem ret_sii {a b : ByteArray} {i j k l : Int} (h : a = b) (h' : i = j) (h'' : k = l) : Ending.returned (.tuple #[.string a, .int .i64 i, .int .i64 k]) = .returned (.tuple #[.string b, .int .i64 j, .int .i64 l]) := by rw [h, h', h'']
set_option maxHeartbeats 2000000 in
set_option maxRecDepth 100000 in
theorem decode_any (s : ByteArray) (m : Int) (w : World) (hs : s.size ≤ maxLen) (hm : w.cell? ⟨0, 0, none⟩ = some (.int .i64 m)) :
    Calls Tryz.prog 39 #[.string s] w fun e w' => e = .returned (.tuple #[.string ⟨(ans (runD start s.data.toList 0)).1.toArray⟩, .int .i64 ((ans (runD start s.data.toList 0)).2.1 : Int), .int .i64 (ans (runD start s.data.toList 0)).2.2]) ∧ Below w.heap.size w w' := by
  have hM := cell_in hm
  obtain ⟨r, hr⟩ : ∃ r, runD start s.data.toList 0 = r := ⟨_, rfl⟩
  rw [hr]
  have HR : Hid (runD start s.data.toList 0 = r) := hr
  clear hr
  have HM : Hid (w.cell? ⟨0, 0, none⟩ = some (.int .i64 m)) := hm
  have HS : Hid (s.size ≤ maxLen) := hs
  clear hm hs
  go_enter Tryz.func39, Tryz.ntmps39
  go_wp2_with fail
  refine (new_at _).mono ?_
  rintro e w1 ⟨bd, rfl, hl, hb1⟩
  have HL : Hid (Live w.heap.size w1 bd start) := hl
  have HM1 : Hid (w1.cell? ⟨0, 0, none⟩ = some (.int .i64 m)) := (hb1.cell (p := ⟨0, 0, none⟩) hM).trans HM.out
  clear hl
  go_wp2_with fail
  have hw := write_at w.heap.size start s bd m _ HL.out inv_start HS.out HM1.out hM
  rw [HR.out] at hw
  refine hw.mono ?_
  clear hw
  rintro e w2 ⟨rfl, hb2, hbad, hok⟩
  have hbb := hb1.trans hb2
  by_cases h0 : r.1 = 0
  · obtain ⟨f, hd, _, _⟩ := hok h0
    have hc3 := hd.cells.2.1
    have HD : Hid (Dec w.heap.size w2 bd f r.2.2) := hd
    cases hdn : r.2.2.done
    · have HA : Hid (ans r = ([], 0, 8)) := ans_short h0 hdn
      rw [hdn] at hc3
      have HC : Hid (w2.cell? ⟨bd, 3, none⟩ = some (.bool false)) := hc3
      clear hbad hok hd hdn hc3
      go_wp2_with fail
      refine (done_at bd false _ HC.out).mono ?_
      rintro e w3 ⟨rfl, rfl⟩
      go_wp2_with fail
      go_ret3
      rw [HA.out]
      exact ⟨rfl, hbb⟩
    · have HA : Hid (ans r = (r.2.2.body, r.2.1, 0)) := ans_ok h0 hdn
      rw [hdn] at hc3
      have HC : Hid (w2.cell? ⟨bd, 3, none⟩ = some (.bool true)) := hc3
      have HDN : Hid (r.2.2.done = true) := hdn
      clear hbad hok hd hdn hc3
      go_wp2_with fail
      refine (done_at bd true _ HC.out).mono ?_
      rintro e w3 ⟨rfl, rfl⟩
      go_wp2_with fail
      refine (body_yes _ bd f r.2.2 _ HD.out HDN.out).mono ?_
      rintro e w4 ⟨rfl, rfl⟩
      go_wp2_with fail
      go_ret3
      rw [HA.out]
      exact ⟨rfl, hbb⟩
  · have HA : Hid (ans r = ([], 0, r.1)) := ans_bad h0
    have h0' : (r.1 != 0) = true := by simpa using h0
    clear hbad hok h0
    go_wp2_with fail
    go_ret3
    rw [HA.out]
    exact ⟨rfl, hbb⟩
theorem decode_at (s t : ByteArray) (n : Nat) (c m : Int) (h : ans (runD start s.data.toList 0) = (t.data.toList, n, c)) (w : World) (hs : s.size ≤ maxLen) (hm : w.cell? ⟨0, 0, none⟩ = some (.int .i64 m)) :
    Calls Tryz.prog 39 #[.string s] w fun e w' => e = .returned (.tuple #[.string t, .int .i64 (n : Int), .int .i64 c]) ∧ Below w.heap.size w w' := by
  have := decode_any s m w hs hm
  rw [h] at this
  exact this
end Go.Proofs.YtipfjpihciiikabGreatDoor

/-
  Parts of a text, as laws of the slice operation.
-/
namespace Go.Proofs.YtipfjpihciiikabGreatDoor
open Go.RowKit

theorem slice_from (s : ByteArray) (a : Nat) (ha : a ≤ s.size) : ∃ r : ByteArray, r.data.toList = s.data.toList.drop a ∧ r.size = s.size - a ∧ ∀ w, (Instr.slice 9 (.string s) (some (.int .i64 (a : Int))) none none).run Tryz.prog w = .ok (.string r) w := by
  refine ⟨s.extract a s.size, ?_, ?_, fun w => ?_⟩
  · rw [Lib.extract_data, List.take_of_length_le (by rw [List.length_drop, size_list]; omega)]
  · rw [ByteArray.size_extract]; omega
  · rw [run_slice_string_l w 9 s Tryz.underlying9 .i64 (a : Int) (by omega) (by omega)]; rfl
theorem slice_part (s : ByteArray) (a b : Nat) (ha : a ≤ b) (hb : b ≤ s.size) : ∃ r : ByteArray, r.data.toList = (s.data.toList.drop a).take (b - a) ∧ r.size = b - a ∧ ∀ w, (Instr.slice 9 (.string s) (some (.int .i64 (a : Int))) (some (.int .i64 (b : Int))) none).run Tryz.prog w = .ok (.string r) w := by
  refine ⟨s.extract a b, ?_, ?_, fun w => ?_⟩
  · rw [Lib.extract_data]
  · rw [ByteArray.size_extract]; omega
  · rw [run_slice_string w 9 s .i64 .i64 _ _ Tryz.underlying9 (by omega) (by omega) (by omega)]; rfl
theorem slice_to (s : ByteArray) (b : Nat) (hb : b ≤ s.size) : ∃ r : ByteArray, r.data.toList = s.data.toList.take b ∧ r.size = b ∧ ∀ w, (Instr.slice 9 (.string s) none (some (.int .i64 (b : Int))) none).run Tryz.prog w = .ok (.string r) w := by
  refine ⟨s.extract 0 b, ?_, ?_, fun w => ?_⟩
  · rw [Lib.extract_data]; simp
  · rw [ByteArray.size_extract]; omega
  · rw [run_slice_string_h w 9 s Tryz.underlying9 .i64 (b : Int) (by omega) (by omega)]; rfl
end Go.Proofs.YtipfjpihciiikabGreatDoor

/-
  What readRequest and ParseRequest of package line compute; a text that is parsed has less than 2^32 - 15 bytes (or its line ends early), and the package variable that the library reads holds some number.
-/
namespace Go.Proofs.YtipfjpihciiikabGreatDoor
open Go.RowKit

/-- A text without its end, and whether it ends so. -/
def cutSuf (s p : List UInt8) : List UInt8 × Bool := (Lib.trimSuffix s p, Lib.hasSuffix s p)
theorem scutSuf_at (s p a : ByteArray) (f : Bool) (h : cutSuf s.data.toList p.data.toList = (a.data.toList, f)) (w : World) (hs : s.size ≤ 100000) :
    Calls Tryz.prog 36 #[.string s, .string p] w fun e w' => e = .returned (.tuple #[.string a, .bool f]) ∧ w' = w := by
  refine (Tryz.strings_CutSuffix s p w (by omega)).mono ?_
  rintro e w' ⟨rfl, rfl⟩
  refine ⟨?_, rfl⟩
  unfold cutSuf at h
  simp only [Prod.mk.injEq] at h
  rw [h.1, h.2]

/-- What stands ahead of the version, if it stands there. -/
theorem cutSuf_yes (t : List UInt8) : cutSuf (t ++ verB) verB = (t, true) := by
  have h : Lib.hasSuffix (t ++ verB) verB = true := by
    unfold Lib.hasSuffix; exact List.isSuffixOf_iff_suffix.2 ⟨t, rfl⟩
  unfold cutSuf Lib.trimSuffix
  rw [h, if_pos rfl]
  simp
theorem cutSuf_two (r : List UInt8) : (∃ t, r = t ++ verB) ∨ cutSuf r verB = (r, false) := by
  cases h : Lib.hasSuffix r verB
  · exact .inr (by unfold cutSuf Lib.trimSuffix; rw [h]; rfl)
  · unfold Lib.hasSuffix at h
    obtain ⟨t, ht⟩ := List.isSuffixOf_iff_suffix.1 h
    exact .inl ⟨t, ht.symm⟩
theorem ret_abf {v u : Value} {a b : Bool} (h : a = b) : Ending.returned (.tuple #[v, u, .bool a]) = .returned (.tuple #[v, u, .bool b]) := by rw [h]

set_option maxHeartbeats 1000000 in
set_option maxRecDepth 100000 in
theorem readR_ok (s a b : ByteArray) (h : s.data.toList = reqB a.data.toList b.data.toList) (hm : meth a.data.toList = true) (ht : targ b.data.toList = true) (m : Int) (w : World) (hc : w.cell? ⟨0, 0, none⟩ = some (.int .i64 m)) :
    Calls Tryz.prog 22 #[.string s] w fun e w' => e = .returned (.tuple #[.string a, .string b, .bool true]) ∧ ∃ n, w' = w.drewN n := by
  have HM : Hid (w.cell? ⟨0, 0, none⟩ = some (.int .i64 m)) := hc
  obtain ⟨r, hr⟩ : ∃ r : ByteArray, r.data.toList = b.data.toList ++ verB := ⟨⟨(b.data.toList ++ verB).toArray⟩, rfl⟩
  have hle := (reqB_le _ _ hm ht).1
  rw [← h, size_list] at hle
  have hal := (meth_is _ hm).2
  have hbl := (targ_is _ ht).2.2
  have hrl : r.size ≤ 209 := by rw [← size_list, hr, List.length_append]; simp [verB]; rw [size_list] at hbl; simpa using hbl
  rw [size_list] at hal hbl
  have HA : Hid (a.size ≤ maxLen) := by show _ ≤ _; unfold maxLen; omega
  have HB : Hid (b.size ≤ maxLen) := by show _ ≤ _; unfold maxLen; omega
  have HC : Hid (Lib.cut s.data.toList (⟨#[32]⟩ : ByteArray).data.toList = (a.data.toList, r.data.toList, true)) := by
    have hi := index_byte_at 32 a.data.toList (b.data.toList ++ verB) (meth_no _ 32 (by decide) hm)
    show _ = _
    rw [h, hr]
    unfold reqB
    refine (cut_yes _ _ a.data.toList.length hi).trans ?_
    rw [List.take_left' rfl, List.drop_append]
    simp
  have HS : Hid (cutSuf r.data.toList (⟨#[32, 72, 84, 84, 80, 47, 49, 46, 49]⟩ : ByteArray).data.toList = (b.data.toList, true)) := by
    show _ = _
    rw [hr]; exact cutSuf_yes _
  have HMe : Hid (meth a.data.toList = true) := hm
  have HTa : Hid (targ b.data.toList = true) := ht
  clear hc h hm ht hr
  go_enter Tryz.func22, Tryz.ntmps22
  go_wp2_with fail
  refine (scut_at s _ a r true HC.out m _ HM.out (by omega)).mono ?_
  rintro e w1 ⟨rfl, nd, rfl⟩
  go_wp2_with fail
  refine (scutSuf_at r _ b true HS.out _ (by omega)).mono ?_
  rintro e w2 ⟨rfl, rfl⟩
  go_wp2_with fail
  refine (isMethod_any _ _ HA.out).mono ?_
  rintro e w3 ⟨rfl, rfl⟩
  rw [HMe.out]
  go_wp2_with fail
  refine (isTarget_any _ _ HB.out).mono ?_
  rintro e w4 ⟨rfl, rfl⟩
  rw [HTa.out]
  go_wp2_with fail
  go_ret3
  exact ⟨rfl, nd, rfl⟩

set_option maxHeartbeats 2000000 in
set_option maxRecDepth 100000 in
theorem readR_no (s : ByteArray) (h : rdR s.data.toList = none) (m : Int) (w : World) (hc : w.cell? ⟨0, 0, none⟩ = some (.int .i64 m)) (hs : s.size ≤ 300) :
    Calls Tryz.prog 22 #[.string s] w fun e w' => (∃ x y, e = .returned (.tuple #[.string x, .string y, .bool false])) ∧ ∃ n, w' = w.drewN n := by
  have HM : Hid (w.cell? ⟨0, 0, none⟩ = some (.int .i64 m)) := hc
  clear hc
  have hsl := size_list s
  rcases index_two' s.data.toList [32] with hi | ⟨k, hi, hk⟩
  · have HC : Hid (Lib.cut s.data.toList (⟨#[32]⟩ : ByteArray).data.toList = (s.data.toList, (⟨#[]⟩ : ByteArray).data.toList, false)) := cut_no _ _ hi
    have HS : Hid (cutSuf (⟨#[]⟩ : ByteArray).data.toList (⟨#[32, 72, 84, 84, 80, 47, 49, 46, 49]⟩ : ByteArray).data.toList = ((⟨#[]⟩ : ByteArray).data.toList, false)) := rfl
    clear hi h hsl
    go_enter Tryz.func22, Tryz.ntmps22
    go_wp2_with fail
    refine (scut_at s _ s ⟨#[]⟩ false HC.out m _ HM.out (by omega)).mono ?_
    rintro e w1 ⟨rfl, nd, rfl⟩
    go_wp2_with fail
    refine (scutSuf_at _ _ ⟨#[]⟩ false HS.out _ (by decide)).mono ?_
    rintro e w2 ⟨rfl, rfl⟩
    go_wp2_with fail
    go_ret3
    exact ⟨⟨_, _, rfl⟩, nd, rfl⟩
  · obtain ⟨a, ha⟩ : ∃ a : ByteArray, a.data.toList = s.data.toList.take k := ⟨⟨(s.data.toList.take k).toArray⟩, rfl⟩
    obtain ⟨r, hr⟩ : ∃ r : ByteArray, r.data.toList = s.data.toList.drop (k + 1) := ⟨⟨(s.data.toList.drop (k + 1)).toArray⟩, rfl⟩
    have hsp := cut_split _ _ k hi
    have has : a.size ≤ 300 := by rw [← size_list, ha, List.length_take]; omega
    have hrs : r.size ≤ 300 := by rw [← size_list, hr, List.length_drop]; omega
    have HA : Hid (a.size ≤ maxLen) := by show _ ≤ _; unfold maxLen; omega
    have HC : Hid (Lib.cut s.data.toList (⟨#[32]⟩ : ByteArray).data.toList = (a.data.toList, r.data.toList, true)) := by
      show _ = _
      rw [ha, hr]; exact cut_yes _ _ k hi
    rcases cutSuf_two r.data.toList with ⟨t, ht⟩ | hno
    · obtain ⟨b, hb⟩ : ∃ b : ByteArray, b.data.toList = t := ⟨⟨t.toArray⟩, rfl⟩
      have hbs : b.size ≤ 300 := by
        have e := size_list r
        rw [ht, List.length_append, ← hb, size_list] at e; omega
      have HB : Hid (b.size ≤ maxLen) := by show _ ≤ _; unfold maxLen; omega
      have HS : Hid (cutSuf r.data.toList (⟨#[32, 72, 84, 84, 80, 47, 49, 46, 49]⟩ : ByteArray).data.toList = (b.data.toList, true)) := by
        show _ = _
        rw [ht, hb]; exact cutSuf_yes _
      have hrq : s.data.toList = reqB a.data.toList b.data.toList := by
        rw [hsp, ← ha]
        unfold reqB
        rw [hb, ← ht, hr]; rfl
      cases hm : meth a.data.toList
      · have HMe : Hid (meth a.data.toList = false) := hm
        clear hm hrq hb ht hr ha hsp hi h hk hsl
        go_enter Tryz.func22, Tryz.ntmps22
        go_wp2_with fail
        refine (scut_at s _ a r true HC.out m _ HM.out (by omega)).mono ?_
        rintro e w1 ⟨rfl, nd, rfl⟩
        go_wp2_with fail
        refine (scutSuf_at r _ b true HS.out _ (by omega)).mono ?_
        rintro e w2 ⟨rfl, rfl⟩
        go_wp2_with fail
        refine (isMethod_any _ _ HA.out).mono ?_
        rintro e w3 ⟨rfl, rfl⟩
        rw [HMe.out]
        go_wp2_with fail
        go_ret3
        exact ⟨⟨_, _, rfl⟩, nd, rfl⟩
      · have HMe : Hid (meth a.data.toList = true) := hm
        cases htt : targ b.data.toList
        · have HTa : Hid (targ b.data.toList = false) := htt
          clear hm hrq hb ht hr ha hsp hi h hk hsl htt
          go_enter Tryz.func22, Tryz.ntmps22
          go_wp2_with fail
          refine (scut_at s _ a r true HC.out m _ HM.out (by omega)).mono ?_
          rintro e w1 ⟨rfl, nd, rfl⟩
          go_wp2_with fail
          refine (scutSuf_at r _ b true HS.out _ (by omega)).mono ?_
          rintro e w2 ⟨rfl, rfl⟩
          go_wp2_with fail
          refine (isMethod_any _ _ HA.out).mono ?_
          rintro e w3 ⟨rfl, rfl⟩
          rw [HMe.out]
          go_wp2_with fail
          refine (isTarget_any _ _ HB.out).mono ?_
          rintro e w4 ⟨rfl, rfl⟩
          rw [HTa.out]
          go_wp2_with fail
          go_ret3
          exact ⟨⟨_, _, rfl⟩, nd, rfl⟩
        · exact absurd hrq (rdR_none _ h _ _ hm htt)
    · have HS : Hid (cutSuf r.data.toList (⟨#[32, 72, 84, 84, 80, 47, 49, 46, 49]⟩ : ByteArray).data.toList = (r.data.toList, false)) := hno
      clear hno hr ha hsp hi h hk hsl
      go_enter Tryz.func22, Tryz.ntmps22
      go_wp2_with fail
      refine (scut_at s _ a r true HC.out m _ HM.out (by omega)).mono ?_
      rintro e w1 ⟨rfl, nd, rfl⟩
      go_wp2_with fail
      refine (scutSuf_at r _ r false HS.out _ (by omega)).mono ?_
      rintro e w2 ⟨rfl, rfl⟩
      go_wp2_with fail
      go_ret3
      exact ⟨⟨_, _, rfl⟩, nd, rfl⟩
end Go.Proofs.YtipfjpihciiikabGreatDoor

/-
  What ParseRequest of package line computes; a text has less than 2^32 - 15 bytes (or its line ends early), and the package variable that the library reads holds some number.
-/
namespace Go.Proofs.YtipfjpihciiikabGreatDoor
open Go.RowKit

/-- A return of four results. -/
theorem results_four {fn : Func} {t u v z : Tmp} (h : fn.results = #[.tmp t, .tmp u, .tmp v, .tmp z]) (tmps : Array Value) (P : Program) (w : World) :
    (results fn tmps).run P w = .ok (.tuple #[tmps.getD t undef, tmps.getD u undef, tmps.getD v undef, tmps.getD z undef]) w := by
  simp [results, h]
theorem ret_four {v u : Value} {a b : Int} {z : Value} (h : a = b) : Ending.returned (.tuple #[v, u, .int .i64 a, z]) = .returned (.tuple #[v, u, .int .i64 b, z]) := by rw [h]

set_option maxHeartbeats 1000000 in
set_option maxRecDepth 100000 in
/-- Where the line is cut off, and is one. -/
theorem parseR_of (s l b x y : ByteArray) (hl : l.data.toList = reqB x.data.toList y.data.toList) (hx : meth x.data.toList = true) (hy : targ y.data.toList = true) (hs : s.size ≤ 1152921504606846976) (hb : b.size ≤ s.size) (m : Int) (w : World) (hm : w.cell? ⟨0, 0, none⟩ = some (.int .i64 m))
    (hc : ∀ W : World, W = w → Calls Tryz.prog 21 #[.string s, .int .i64 300] W fun e w' => e = .returned (.tuple #[.string l, .string b, .int .i64 0]) ∧ ∃ n, w' = W.drewN n) :
    Calls Tryz.prog 13 #[.string s] w fun e w' => e = .returned (.tuple #[.string x, .string y, .int .i64 ((s.size : Int) - (b.size : Int)), .int .i64 0]) ∧ Below w.heap.size w w' := by
  have HM : Hid (w.cell? ⟨0, 0, none⟩ = some (.int .i64 m)) := hm
  have HL : Hid (l.data.toList = reqB x.data.toList y.data.toList) := hl
  have hxl := (meth_is _ hx).2
  have hyl := (targ_is _ hy).2.2
  rw [size_list] at hxl hyl
  have HX : Hid (meth x.data.toList = true) := hx
  have HY : Hid (targ y.data.toList = true) := hy
  clear hm hl hx hy
  go_enter Tryz.func13, Tryz.ntmps13
  go_wp2_with fail
  refine (hc _ rfl).mono ?_
  rintro e w1 ⟨rfl, nd, rfl⟩
  have HB1 := drewN_below w.heap.size w nd
  go_wp2_with fail
  refine (readR_ok l x y HL.out HX.out HY.out m _ (cell_keep HB1 HM.out)).mono ?_
  rintro e w2 ⟨rfl, nd2, rfl⟩
  have HB2 := HB1.trans (drewN_below w.heap.size (w.drewN nd) nd2)
  clear HB1
  generalize (w.drewN nd).drewN nd2 = w2 at HB2
  go_wp2_with fail
  refine (clone_big x _ (by omega)).mono ?_
  rintro e w3 ⟨rfl, hb3⟩
  have HB3 := HB2.trans (hb3.mono HB2.size)
  clear hb3
  go_wp2_with fail
  refine (clone_big y _ (by omega)).mono ?_
  rintro e w4 ⟨rfl, hb4⟩
  have HB4 := HB3.trans (hb4.mono HB3.size)
  clear hb4
  go_wp2_with fail
  (try simp only [Exit.inBlock, Exit.then])
  refine bodyPost_ret (results_four rfl _ _ _) rfl ?_
  exact ⟨rfl, HB4⟩

set_option maxHeartbeats 2000000 in
set_option maxRecDepth 100000 in
theorem parseR_at (s x y : ByteArray) (n c : Int) (h : paR s.data.toList = ((x.data.toList, y.data.toList), n, c)) (m : Int) (w : World) (hm : w.cell? ⟨0, 0, none⟩ = some (.int .i64 m)) (hs : s.size < 4294967281) :
    Calls Tryz.prog 13 #[.string s] w fun e w' => e = .returned (.tuple #[.string x, .string y, .int .i64 n, .int .i64 c]) ∧ Below w.heap.size w w' := by
  have hsl := size_list s
  rcases index_two' s.data.toList [13, 10] with hix | ⟨k, hix, hk⟩
  · rw [paR_no _ hix] at h
    simp only [Prod.mk.injEq] at h
    obtain ⟨⟨h1, h2⟩, rfl, h4⟩ := h
    obtain rfl : (⟨#[]⟩ : ByteArray) = x := mk_self x [] h1.symm
    obtain rfl : (⟨#[]⟩ : ByteArray) = y := mk_self y [] h2.symm
    have HC : Hid ((if 300 + 1 < s.data.toList.length then 2 else 8 : Int) = c) := h4
    have hc0 : (c != 0) = true := by rw [← h4]; split <;> rfl
    have HM : Hid (w.cell? ⟨0, 0, none⟩ = some (.int .i64 m)) := hm
    have HIX : Hid (Lib.index s.data.toList [13, 10] = -1) := hix
    clear h1 h2 h4 hm hix hsl
    go_enter Tryz.func13, Tryz.ntmps13
    go_wp2_with fail
    refine (cutLine_no s 300 (by omega) HIX.out m _ HM.out hs).mono ?_
    rintro e w1 ⟨rfl, nd, rfl⟩
    rw [HC.out]
    go_wp2_with fail
    (try simp only [Exit.inBlock, Exit.then])
    refine bodyPost_ret (results_four rfl _ _ _) rfl ?_
    exact ⟨rfl, drewN_below _ _ _⟩
  · by_cases hk3 : 300 < k
    · rw [paR_large _ k hix hk3] at h
      simp only [Prod.mk.injEq] at h
      obtain ⟨⟨h1, h2⟩, rfl, rfl⟩ := h
      obtain rfl : (⟨#[]⟩ : ByteArray) = x := mk_self x [] h1.symm
      obtain rfl : (⟨#[]⟩ : ByteArray) = y := mk_self y [] h2.symm
      have HM : Hid (w.cell? ⟨0, 0, none⟩ = some (.int .i64 m)) := hm
      have HIX : Hid (Lib.index s.data.toList [13, 10] = k) := hix
      clear h1 h2 hm hix hsl
      go_enter Tryz.func13, Tryz.ntmps13
      go_wp2_with fail
      refine (cutLine_large s 300 k HIX.out hk3 m _ HM.out hs).mono ?_
      rintro e w1 ⟨rfl, nd, rfl⟩
      go_wp2_with fail
      (try simp only [Exit.inBlock, Exit.then])
      refine bodyPost_ret (results_four rfl _ _ _) rfl ?_
      exact ⟨rfl, drewN_below _ _ _⟩
    · obtain ⟨l, hl⟩ : ∃ l : ByteArray, l.data.toList = s.data.toList.take k := ⟨⟨(s.data.toList.take k).toArray⟩, rfl⟩
      obtain ⟨b, hb⟩ : ∃ b : ByteArray, b.data.toList = s.data.toList.drop (k + 2) := ⟨⟨(s.data.toList.drop (k + 2)).toArray⟩, rfl⟩
      replace hk : k + 2 ≤ s.size := by simpa using hk
      have hbs : b.size = s.size - (k + 2) := by rw [← size_list, hb, List.length_drop, hsl]
      have hls : l.size ≤ 300 := by rw [← size_list, hl, List.length_take]; omega
      cases hr : rdR (s.data.toList.take k) with
      | none =>
        rw [paR_bad _ k hix (by omega) hr] at h
        simp only [Prod.mk.injEq] at h
        obtain ⟨⟨h1, h2⟩, rfl, rfl⟩ := h
        obtain rfl : (⟨#[]⟩ : ByteArray) = x := mk_self x [] h1.symm
        obtain rfl : (⟨#[]⟩ : ByteArray) = y := mk_self y [] h2.symm
        have HM : Hid (w.cell? ⟨0, 0, none⟩ = some (.int .i64 m)) := hm
        have HIX : Hid (Lib.index s.data.toList [13, 10] = k) := hix
        have HL : Hid (l.data.toList = s.data.toList.take k) := hl
        have HB : Hid (b.data.toList = s.data.toList.drop (k + 2)) := hb
        have HR : Hid (rdR l.data.toList = none) := by show _ = _; rw [hl]; exact hr
        clear h1 h2 hm hix hsl hr hl hb hbs
        go_enter Tryz.func13, Tryz.ntmps13
        go_wp2_with fail
        refine (cutLine_yes s l b 300 k HIX.out (by omega) HL.out HB.out m _ HM.out hs).mono ?_
        rintro e w1 ⟨rfl, nd, rfl⟩
        have HB1 := drewN_below w.heap.size w nd
        go_wp2_with fail
        refine (readR_no l HR.out m _ (cell_keep HB1 HM.out) hls).mono ?_
        rintro e w2 ⟨⟨u, v, rfl⟩, nd2, rfl⟩
        go_wp2_with fail
        (try simp only [Exit.inBlock, Exit.then])
        refine bodyPost_ret (results_four rfl _ _ _) rfl ?_
        exact ⟨rfl, drewN_below _ _ _⟩
      | some z =>
        rw [paR_ok _ k hix (by omega) z hr] at h
        simp only [Prod.mk.injEq] at h
        obtain ⟨h1, h3, rfl⟩ := h
        subst h1
        obtain ⟨h4, h5, h6⟩ := rdR_some _ _ _ hr
        rw [← h3]
        have e : (k : Int) + 2 = (s.size : Int) - (b.size : Int) := by omega
        rw [e]
        refine parseR_of s l b x y (by rw [hl]; exact h4) h5 h6 (by omega) (by omega) m w hm fun W hW => ?_
        subst hW
        exact cutLine_yes s l b 300 k hix (by omega) hl hb m _ hm hs
end Go.Proofs.YtipfjpihciiikabGreatDoor

/-
  What readBody and readRest of package msg compute; how the fields are parsed is told by a hypothesis; the listed variables that the library reads hold what their text lays.
-/
namespace Go.Proofs.YtipfjpihciiikabGreatDoor
open Go.RowKit

set_option maxHeartbeats 1000000 in
set_option maxRecDepth 100000 in
theorem rbody_at (k n : Int) (hk : k = 1 ∨ k = 2 ∨ k = 3 ∨ k = 4) (hn0 : 0 ≤ n) (hn : n ≤ 5000) (s t : ByteArray) (i : Nat) (c : Int) (h : rbS k n s.data.toList = (t.data.toList, i, c)) (m : Int) (w : World) (hs : s.size ≤ maxLen) (hm : w.cell? ⟨0, 0, none⟩ = some (.int .i64 m)) :
    Calls Tryz.prog 25 #[.int .i64 k, .int .i64 n, .string s] w fun e w' => e = .returned (.tuple #[.string t, .int .i64 (i : Int), .int .i64 c]) ∧ Below w.heap.size w w' := by
  have HM : Hid (w.cell? ⟨0, 0, none⟩ = some (.int .i64 m)) := hm
  have HS : Hid (s.size ≤ maxLen) := hs
  clear hm hs
  obtain ⟨b, rfl⟩ : ∃ b : Nat, n = (b : Int) := ⟨n.toNat, by omega⟩
  have HBN : Hid (b ≤ 5000) := by show _ ≤ _; omega
  have emp : ∀ x : Int, ([], 0, x) = (t.data.toList, i, c) → t = ⟨#[]⟩ ∧ i = 0 ∧ c = x := by
    intro x hx
    simp only [Prod.mk.injEq] at hx
    exact ⟨by apply ByteArray.ext; apply Array.ext'; exact hx.1.symm, hx.2.1.symm, hx.2.2.symm⟩
  have low : ∀ k : Int, k ≠ 3 → k ≠ 4 → rbS k b s.data.toList = if s.size < b then ([], 0, 8) else (s.data.toList.take b, b, 0) := by
    intro k h3 h4
    unfold rbS
    rw [if_neg h3, if_neg h4, size_list]
    by_cases hb : s.size < b
    · rw [if_pos (by omega), if_pos hb]
    · rw [if_neg (by omega), if_neg hb]; rfl
  have both : (k = 1 ∨ k = 2) → Calls Tryz.prog 25 #[.int .i64 k, .int .i64 (b : Int), .string s] w fun e w' => e = .returned (.tuple #[.string t, .int .i64 (i : Int), .int .i64 c]) ∧ Below w.heap.size w w' := by
    intro hk
    rw [low k (by omega) (by omega)] at h
    by_cases hb : s.size < b
    · rw [if_pos hb] at h
      obtain ⟨rfl, rfl, rfl⟩ := emp _ h
      have hb' : (s.size : Int) < (b : Int) := by omega
      clear h emp low hb hn0 hn
      rcases hk with rfl | rfl
      · go_enter Tryz.func25, Tryz.ntmps25
        go_wp2_with fail
        go_ret3
        exact ⟨rfl, Below.refl _ _⟩
      · go_enter Tryz.func25, Tryz.ntmps25
        go_wp2_with fail
        go_ret3
        exact ⟨rfl, Below.refl _ _⟩
    · rw [if_neg hb] at h
      obtain ⟨r, hr, hrs, hsl⟩ := slice_to s b (by omega)
      simp only [Prod.mk.injEq] at h
      obtain ⟨h1, rfl, rfl⟩ := h
      obtain rfl : t = r := by apply ByteArray.ext; apply Array.ext'; rw [← h1, hr]
      have hb' : ¬ (s.size : Int) < (b : Int) := by omega
      have hts : Hid (t.size ≤ 281474976710656) := by show _ ≤ _; omega
      clear h1 hr hrs emp low hb hn0 hn
      rcases hk with rfl | rfl
      · go_enter Tryz.func25, Tryz.ntmps25
        go_wp2_with fail
        refine (clone_big t _ hts.out).mono ?_
        rintro e w1 ⟨rfl, hb1⟩
        go_wp2_with fail
        go_ret3
        exact ⟨rfl, hb1⟩
      · go_enter Tryz.func25, Tryz.ntmps25
        go_wp2_with fail
        refine (clone_big t _ hts.out).mono ?_
        rintro e w1 ⟨rfl, hb1⟩
        go_wp2_with fail
        go_ret3
        exact ⟨rfl, hb1⟩
  rcases hk with hk | hk | rfl | rfl
  · exact both (.inl hk)
  · exact both (.inr hk)
  · have HA : Hid (ans (runD start s.data.toList 0) = (t.data.toList, i, c)) := h
    clear h emp low both hn0 hn
    go_enter Tryz.func25, Tryz.ntmps25
    go_wp2_with fail
    refine (decode_at s t i c m HA.out _ HS.out HM.out).mono ?_
    rintro e w1 ⟨rfl, hb1⟩
    go_wp2_with fail
    go_ret3
    exact ⟨rfl, hb1⟩
  · have h' : (if 5000 < s.size then (([], 0, 2) : List UInt8 × Nat × Int) else (s.data.toList, s.size, 0)) = (t.data.toList, i, c) := by
      rw [← h]; simp [rbS]
    clear h
    by_cases hl : 5000 < s.size
    · rw [if_pos hl] at h'
      obtain ⟨rfl, rfl, rfl⟩ := emp _ h'
      have hb : (5000 : Int) < (s.size : Int) := by omega
      clear emp low both h' hl hn0 hn
      go_enter Tryz.func25, Tryz.ntmps25
      go_wp2_with fail
      go_ret3
      exact ⟨rfl, Below.refl _ _⟩
    · rw [if_neg hl] at h'
      simp only [Prod.mk.injEq] at h'
      obtain ⟨h1, rfl, rfl⟩ := h'
      obtain rfl : t = s := by apply ByteArray.ext; apply Array.ext'; exact h1.symm
      have hb : ¬ (5000 : Int) < (t.size : Int) := by omega
      have hts : Hid (t.size ≤ 281474976710656) := by show _ ≤ _; omega
      clear emp low both h1 hl hn0 hn
      go_enter Tryz.func25, Tryz.ntmps25
      go_wp2_with fail
      refine (clone_big t _ hts.out).mono ?_
      rintro e w1 ⟨rfl, hb1⟩
      go_wp2_with fail
      go_ret3
      exact ⟨rfl, hb1⟩

/-- How the fields of s are parsed in the world W. -/
def ParsesAt (s : ByteArray) (W : World) : Prop :=
  Calls Tryz.prog 24 #[.string s] W fun e w' => ∃ v, e = .returned (.tuple #[v, .int .i64 (parN s.data.toList), .int .i64 (parS s.data.toList []).2.2]) ∧
    w'.ownsRow W.heap.size 47 2 v (parS s.data.toList []).1.length (flds (parS s.data.toList []).1) ∧ Below W.heap.size W w'
/-- A slice of fields that the call made. -/
def FlO (B : Nat) (w : World) (v : Value) (ls : List Fld) : Prop := w.ownsRow B 47 2 v ls.length (flds ls)
theorem FlO.fl {B : Nat} {w : World} {v : Value} {ls : List Fld} (h : FlO B w v ls) : Fl w v ls := Fl.own h
theorem FlO.below {B : Nat} {w w' : World} {v : Value} {ls : List Fld} (h : FlO B w v ls) (hb : Below w.heap.size w w') : FlO B w' v ls := own_below3 h hb
theorem FlO.le {B B' : Nat} {w : World} {v : Value} {ls : List Fld} (h : FlO B w v ls) (hb : B' ≤ B) : FlO B' w v ls := own_le h hb
theorem FlO.nil (B : Nat) (w : World) : FlO B w (.slice none 0 0) [] := World.ownsRow_nil _ _ _ _
theorem FlO.set4 {B : Nat} {w : World} {v : Value} {ls : List Fld} (h : FlO B w v ls) {g : Nat} (hg : g < B) (a b c d : Value) : FlO B (set4 w g a b c d) v ls := by
  refine ⟨h.1, ?_⟩
  rcases h.2 with h0 | ⟨k, cap, cur, hv, hB, hk, h3⟩
  · exact .inl h0
  · exact .inr ⟨k, cap, cur, hv, hB, (set4_other (by omega)).trans hk, h3⟩
theorem parN_ok {l : List UInt8} (h : (parS l []).2.2 = 0) : parN l = ((l.length - (parS l []).2.1.length : Nat) : Int) := by
  unfold parN
  rw [if_pos h]
  have := par_rest' l
  omega
theorem ret_4 {v u : Value} {a b c d : Int} (h : a = b) (h' : c = d) : Ending.returned (.tuple #[v, u, .int .i64 a, .int .i64 c]) = .returned (.tuple #[v, u, .int .i64 b, .int .i64 d]) := by rw [h, h']
set_option maxHeartbeats 2000000 in
set_option maxRecDepth 100000 in
theorem rrest_of (req : Bool) (mm : ByteArray) (code : Int) (s t : ByteArray) (fs : List Fld) (i : Nat) (c : Int) (h : rdB (kd req mm.data.toList code) s.data.toList = (fs, t.data.toList, i, c)) (m : Int) (w : World) (hs : s.size ≤ maxLen) (hS : STabs w) (hm : w.cell? ⟨0, 0, none⟩ = some (.int .i64 m)) (hP : ∀ W : World, W.cell? ⟨0, 0, none⟩ = some (.int .i64 m) → ParsesAt s W) :
    Calls Tryz.prog 14 #[.agg #[.bool req, .string mm, .int .i64 code], .string s] w fun e w' => ∃ v, e = .returned (.tuple #[v, .string t, .int .i64 (i : Int), .int .i64 c]) ∧ FlO w.heap.size w' v fs ∧ Below w.heap.size w w' := by
  have HM : Hid (w.cell? ⟨0, 0, none⟩ = some (.int .i64 m)) := hm
  have HS : Hid (STabs w) := hS
  have HP : Hid (∀ W : World, W.cell? ⟨0, 0, none⟩ = some (.int .i64 m) → ParsesAt s W) := hP
  have HZ : Hid (s.size ≤ maxLen) := hs
  clear hm hS hP hs
  have emp : ∀ x : Int, ([], [], 0, x) = (fs, t.data.toList, i, c) → fs = [] ∧ t = ⟨#[]⟩ ∧ i = 0 ∧ c = x := by
    intro x hx
    simp only [Prod.mk.injEq] at hx
    exact ⟨hx.1.symm, by apply ByteArray.ext; apply Array.ext'; exact hx.2.1.symm, hx.2.2.1.symm, hx.2.2.2.symm⟩
  by_cases hc : (parS s.data.toList []).2.2 = 0
  · have hN := parN_ok hc
    have hle := par_rest' s.data.toList
    rw [size_list] at hle hN
    obtain ⟨r, hr, hrs, hsl⟩ := slice_from s (s.size - (parS s.data.toList []).2.1.length) (by omega)
    have hrl : r.data.toList = (parS s.data.toList []).2.1 := by
      rw [hr, ← size_list, par_drop _ hc]
    have hchk : chk (parS s.data.toList []).1 = 0 := ((parS_is s.data.toList _ _ _ rfl).2 hc).1
    have HB : Hid (bulkF (parS s.data.toList []).1 ≤ 1048576) := bulk_chk _ hchk
    obtain ⟨x, y, z, hk⟩ : ∃ x y z, kd req mm.data.toList code (parS s.data.toList []).1 = (x, y, z) := ⟨_, _, _, rfl⟩
    have HK : Hid (kd req mm.data.toList code (parS s.data.toList []).1 = (x, y, z)) := hk
    have HP2 : Hid (∀ o : Obj, Calls Tryz.prog 24 #[.string s] (w.alloc o) fun e w' => ∃ v, e = .returned (.tuple #[v, .int .i64 ((s.size - (parS s.data.toList []).2.1.length : Nat) : Int), .int .i64 0]) ∧ FlO (w.alloc o).heap.size w' v (parS s.data.toList []).1 ∧ Below (w.alloc o).heap.size (w.alloc o) w') := by
      intro o
      have := HP.out (w.alloc o) (cell_keep (below_alloc w o) HM.out)
      unfold ParsesAt at this
      rw [hc, hN] at this
      exact this
    obtain ⟨at_, hat⟩ : ∃ a : Nat, a = s.size - (parS s.data.toList []).2.1.length := ⟨_, rfl⟩
    rw [← hat] at hsl HP2
    have hatl : at_ ≤ s.size := by omega
    by_cases hz : z = 0
    · subst hz
      have hsh : (x = 1 ∨ x = 2 ∨ x = 3 ∨ x = 4) ∧ 0 ≤ y ∧ y ≤ 5000 := by
        rcases kd_ok req mm.data.toList code (parS s.data.toList []).1 with ⟨e, h1, h2⟩ | h1 | h1 | h1 | ⟨n, h1, h2⟩
        · rw [hk] at h1; simp only [Prod.mk.injEq] at h1; exact absurd h1.2.2.symm h2
        · rw [hk] at h1; simp only [Prod.mk.injEq] at h1; exact ⟨.inl h1.1, by omega, by omega⟩
        · rw [hk] at h1; simp only [Prod.mk.injEq] at h1; exact ⟨.inr (.inr (.inl h1.1)), by omega, by omega⟩
        · rw [hk] at h1; simp only [Prod.mk.injEq] at h1; exact ⟨.inr (.inr (.inr h1.1)), by omega, by omega⟩
        · rw [hk] at h1; simp only [Prod.mk.injEq] at h1; exact ⟨.inr (.inl h1.1), by omega, by omega⟩
      have hw := rdB_rb (kd_ok req mm.data.toList code) hc (by rw [hk])
      rw [h, hk] at hw
      simp only at hw
      rw [← hrl] at hw
      obtain ⟨u, j, f, hu⟩ : ∃ (u : ByteArray) (j : Nat) (f : Int), rbS x y r.data.toList = (u.data.toList, j, f) := ⟨⟨(rbS x y r.data.toList).1.toArray⟩, _, _, rfl⟩
      rw [hu] at hw
      have HU : Hid (rbS x y r.data.toList = (u.data.toList, j, f)) := hu
      have HSH : Hid ((x = 1 ∨ x = 2 ∨ x = 3 ∨ x = 4) ∧ 0 ≤ y ∧ y ≤ 5000) := hsh
      have HRS : Hid (r.size ≤ maxLen) := by show _ ≤ _; have := HZ.out; omega
      have hjl : j ≤ r.size := by
        have := rb_len (k := x) (n := y) (r := r.data.toList) hsh.2.1
        rw [hu, size_list] at this
        exact this
      have hsum : at_ + j ≤ s.size := by omega
      have hsz : s.size ≤ 9223372036854775807 := by have := HZ.out; unfold maxLen at this; omega
      by_cases hf0 : f = 0
      · subst hf0
        rw [if_neg (by simp)] at hw
        simp only [Prod.mk.injEq] at hw
        obtain ⟨rfl, hw1, hw2, rfl⟩ := hw
        obtain rfl : t = u := by apply ByteArray.ext; apply Array.ext'; exact hw1
        have HI : Hid ((at_ : Int) + (j : Int) = (i : Int)) := by
          show _ = _
          rw [hw2, hrl, size_list, ← hat]; omega
        clear h hc hk hsh hu emp hw1 hw2 hN hle hr hrs hrl hchk hat HP
        go_enter Tryz.func14, Tryz.ntmps14
        go_wp2_with fail
        refine (HP2.out _).mono ?_
        rintro e w1 ⟨v, rfl, hfl0, hb0⟩
        have c0 : w1.cell? ⟨w.heap.size, 0, none⟩ = some (.bool req) := new_cell hb0 0
        have c1 : w1.cell? ⟨w.heap.size, 1, none⟩ = some (.string mm) := new_cell hb0 1
        have c2 : w1.cell? ⟨w.heap.size, 2, none⟩ = some (.int .i64 code) := new_cell hb0 2
        have hfl := hfl0.le (show w.heap.size ≤ _ by simp)
        have hb1 := below_new hb0
        clear hb0 hfl0
        have HFL : Hid (FlO w.heap.size w1 v (parS s.data.toList []).1) := hfl
        clear hfl
        go_wp2_with fail
        refine (kindU_at req mm code v _ x y 0 HK.out _ HFL.out.fl HB.out (HS.out.below hb1)).mono ?_
        rintro e w2 ⟨rfl, hb2⟩
        have HFL2 : Hid (FlO w.heap.size w2 v (parS s.data.toList []).1) := HFL.out.below hb2
        have hw2 := hb1.trans (hb2.mono hb1.size)
        clear hb1 hb2 HFL
        have HM2 : Hid (w2.cell? ⟨0, 0, none⟩ = some (.int .i64 m)) := cell_keep hw2 HM.out
        go_wp2_with fail
        refine (rbody_at x y HSH.out.1 HSH.out.2.1 HSH.out.2.2 r t j 0 HU.out m _ HRS.out HM2.out).mono ?_
        rintro e w3 ⟨rfl, hb3⟩
        have HFL3 : Hid (FlO w.heap.size w3 v (parS s.data.toList []).1) := HFL2.out.below hb3
        have hw3 := hw2.trans (hb3.mono hw2.size)
        clear hw2 hb3
        go_wp2_with fail
        refine bodyPost_ret (results_four rfl _ _ _) rfl ?_
        exact ⟨v, ret_4 (by simpa using HI.out) rfl, HFL3.out, hw3⟩
      · rw [if_pos hf0] at hw
        obtain ⟨rfl, rfl, rfl, rfl⟩ := emp _ hw.symm
        have hfb : (c != 0) = true := by simpa using hf0
        clear h hc hk hsh hu emp hw hf0 hN hle hr hrs hrl hchk hat HP
        go_enter Tryz.func14, Tryz.ntmps14
        go_wp2_with fail
        refine (HP2.out _).mono ?_
        rintro e w1 ⟨v, rfl, hfl0, hb0⟩
        have c0 : w1.cell? ⟨w.heap.size, 0, none⟩ = some (.bool req) := new_cell hb0 0
        have c1 : w1.cell? ⟨w.heap.size, 1, none⟩ = some (.string mm) := new_cell hb0 1
        have c2 : w1.cell? ⟨w.heap.size, 2, none⟩ = some (.int .i64 code) := new_cell hb0 2
        have hfl := hfl0.le (show w.heap.size ≤ _ by simp)
        have hb1 := below_new hb0
        clear hb0 hfl0
        have HFL : Hid (FlO w.heap.size w1 v (parS s.data.toList []).1) := hfl
        clear hfl
        go_wp2_with fail
        refine (kindU_at req mm code v _ x y 0 HK.out _ HFL.out.fl HB.out (HS.out.below hb1)).mono ?_
        rintro e w2 ⟨rfl, hb2⟩
        have hw2 := hb1.trans (hb2.mono hb1.size)
        clear hb1 hb2 HFL
        have HM2 : Hid (w2.cell? ⟨0, 0, none⟩ = some (.int .i64 m)) := cell_keep hw2 HM.out
        go_wp2_with fail
        refine (rbody_at x y HSH.out.1 HSH.out.2.1 HSH.out.2.2 r u j c HU.out m _ HRS.out HM2.out).mono ?_
        rintro e w3 ⟨rfl, hb3⟩
        have hw3 := hw2.trans (hb3.mono hw2.size)
        clear hw2 hb3
        go_wp2_with fail
        refine bodyPost_ret (results_four rfl _ _ _) rfl ?_
        exact ⟨_, rfl, FlO.nil _ _, hw3⟩
    · have hw := rdB_err (K := kd req mm.data.toList code) hc (by rw [hk]; exact hz)
      rw [h, hk] at hw
      obtain ⟨rfl, rfl, rfl, rfl⟩ := emp _ hw.symm
      have hzb : (c != 0) = true := by simpa using hz
      clear h hc hk emp hw hz hN hle hr hrs hrl hchk hat HP hsl
      go_enter Tryz.func14, Tryz.ntmps14
      go_wp2_with fail
      refine (HP2.out _).mono ?_
      rintro e w1 ⟨v, rfl, hfl0, hb0⟩
      have c0 : w1.cell? ⟨w.heap.size, 0, none⟩ = some (.bool req) := new_cell hb0 0
      have c1 : w1.cell? ⟨w.heap.size, 1, none⟩ = some (.string mm) := new_cell hb0 1
      have c2 : w1.cell? ⟨w.heap.size, 2, none⟩ = some (.int .i64 code) := new_cell hb0 2
      have hfl := hfl0.le (show w.heap.size ≤ _ by simp)
      have hb1 := below_new hb0
      clear hb0 hfl0
      have HFL : Hid (FlO w.heap.size w1 v (parS s.data.toList []).1) := hfl
      clear hfl
      go_wp2_with fail
      refine (kindU_at req mm code v _ x y c HK.out _ HFL.out.fl HB.out (HS.out.below hb1)).mono ?_
      rintro e w2 ⟨rfl, hb2⟩
      have hw2 := hb1.trans (hb2.mono hb1.size)
      clear hb1 hb2 HFL
      go_wp2_with fail
      refine bodyPost_ret (results_four rfl _ _ _) rfl ?_
      exact ⟨_, rfl, FlO.nil _ _, hw2⟩
  · have hw := rdB_bad (K := kd req mm.data.toList code) hc
    rw [h] at hw
    obtain ⟨rfl, rfl, rfl, rfl⟩ := emp _ hw.symm
    have hcb : ((parS s.data.toList []).2.2 != 0) = true := by simpa using hc
    have HP2 : ∀ o : Obj, ParsesAt s (w.alloc o) := fun o => HP.out (w.alloc o) (cell_keep (below_alloc w o) HM.out)
    unfold ParsesAt at HP2
    obtain ⟨q, hq⟩ : ∃ q, q = (parS s.data.toList []).2.2 := ⟨_, rfl⟩
    rw [← hq] at hcb HP2 ⊢
    have HP3 : Hid _ := HP2
    clear h hc emp hw hq HP HP2
    go_enter Tryz.func14, Tryz.ntmps14
    go_wp2_with fail
    refine (HP3.out _).mono ?_
    rintro e w1 ⟨v, rfl, hfl0, hb0⟩
    have hb1 := below_new hb0
    clear hb0 hfl0
    clear HP3
    go_wp2_with fail
    refine bodyPost_ret (results_four rfl _ _ _) rfl ?_
    exact ⟨_, rfl, FlO.nil _ _, hb1⟩
end Go.Proofs.YtipfjpihciiikabGreatDoor
