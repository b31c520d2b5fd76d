/-
  The walk through FieldBoth: it answers true and turns nothing that was there; what comes in is of bulk at most 1048576.
-/
import Derived.Test.YtflkgpjapgkgmabSpecD
import Derived.Test.YtflkgpjapgkgmabWSet2
import Derived.Test.YtflkgpjapgkgmabWGet
import Derived.Test.YtflkgpjapgkgmabWFieldDrops
import Derived.Test.YtflkgpjapgkgmabWFieldSetGet
import Derived.Test.YtflkgpjapgkgmabOpenF
namespace Go.Proofs.Ytflkgpjapgkgmab
open Go.RowKit

/-- A list that came in is nil, or it has an address. -/
def Nilly (v : Value) : Prop := v = .slice none 0 0 ∨ ∃ a n c, v = .slice (some a) n c
theorem nilly_fl {H : Type} {enc : TypeId × Value → H} {P : Program} {w : World} {base : Nat} {spare : Nat → Bool} {held : Bool} {t e : TypeId} {fuel : Nat} {v : Value} {x : DataW H × List MemPlace}
    (ht : P.underlying t = some (.slice e)) (h : DataW.trod enc P w base spare held fuel t [v] = some x) : Nilly v := by
  rcases DataW.trod_slice ht h with ⟨h0, _⟩ | ⟨a, len, cap, _, _, _, _, hcs, _⟩
  · simp only [List.cons.injEq, and_true] at h0
    exact .inl h0
  · simp only [List.cons.injEq, and_true] at hcs
    exact .inr ⟨a, len, cap, hcs⟩
theorem Fl.cells {w : World} {a : Addr} {c : Nat} {ls : List Fld} (h : Fl w (.slice (some a) ls.length c) ls) : ∀ j u, (flds ls)[j]? = some u → w.cell? (a.add j) = some u := by
  obtain ⟨ad', cap', hv, h1, h2, h3⟩ := h
  simp only [Value.slice.injEq] at hv
  obtain ⟨rfl, _, rfl⟩ := hv
  intro j u hj
  have hjl : j < ls.length * 2 := by
    rw [← flds_length]
    exact (List.getElem?_eq_some_iff.1 hj).1
  obtain ⟨g, off, ha, hg, hc⟩ := h3 (by omega)
  simp only [Option.some.injEq] at ha
  subst ha
  have hform : (⟨g, off, none⟩ : Addr).add j = ⟨g, off + j, none⟩ := by
    by_cases h0 : j = 0
    · subst h0; simp [Addr.add]
    · simp [Addr.add, h0]
  rw [hform]
  obtain ⟨k, hk⟩ : ∃ k, j = k * 2 ∨ j = k * 2 + 1 := ⟨j / 2, by omega⟩
  obtain ⟨c1, c2⟩ := hc k (by omega)
  obtain ⟨p1, p2⟩ := flds_get ls k (by omega)
  rcases hk with rfl | rfl
  · rw [p1] at hj; rw [c1, hj]
  · rw [p2] at hj; rw [← Nat.add_assoc, c2, hj]

set_option maxHeartbeats 2000000 in
set_option maxRecDepth 100000 in
theorem copy_any (v : Value) (ls : List Fld) (w : World) (hf : Fl w v ls) (hn : Nilly v) (hl : ls.length ≤ 1048576) :
    Calls Try.prog 11 #[v] w fun e w' => ∃ v', e = .returned v' ∧ w'.ownsRow w.heap.size 29 2 v' ls.length (flds ls) ∧ Below w.heap.size w w' := by
  obtain ⟨i0, hi, hz0, hz1, hz2⟩ := info_parts infoF
  have HF : Hid (Fl w v ls) := hf
  obtain ⟨ad, cap, hv, hcap, hcm, hcx⟩ := hf
  subst hv
  clear hcx
  unfold maxLen at hcm
  rcases hn with hn | ⟨a, n, c, hn⟩
  · simp only [Value.slice.injEq] at hn
    obtain ⟨rfl, hl0, rfl⟩ := hn
    have hls := List.eq_nil_of_length_eq_zero hl0
    subst hls
    clear hl0
    go_enter Try.func11, Try.ntmps11
    go_wp2_with (at_builtin; refine wpList_append_own_none rfl _ _ 22 rfl w.heap.size 29 i0 2 Try.underlying22 hi (.slice none 0 0) 0 [] rfl (World.ownsRow_nil _ _ _ _) rfl ?_)
    go_ret
    exact ⟨_, rfl, World.ownsRow_nil _ _ _ _, Below.refl _ _⟩
  · simp only [Value.slice.injEq] at hn
    obtain ⟨rfl, rfl, rfl⟩ := hn
    go_enter Try.func11, Try.ntmps11
    go_wp2_with (at_builtin; refine wpList_append_own _ rfl _ _ 22 rfl w.heap.size 29 i0 (.agg #[.string ⟨#[]⟩, .string ⟨#[]⟩]) 2 32 Try.underlying22 hi hz0 hz1 hz2 rfl (by decide) (.slice none 0 0) 0 [] rfl (World.ownsRow_nil _ _ _ _) a ls.length cap (flds ls) rfl (flds_length ls) ?c1 ?c2 ?c3 ?c4 ?c5 ?_)
    case c1 => exact HF.out.cells
    case c2 => exact flds_one ls
    case c3 => unfold maxLen; omega
    case c4 => omega
    case c5 => omega
    · intro v' w' hown' hgrow _
      have hB : Below w.heap.size w w' := (Below.refl _ w).grown hgrow (Nat.le_refl _) (fun b hb => ((World.ownsRow_nil w w.heap.size 29 2).lt b hb).1)
      have hown2 : w'.ownsRow w.heap.size 29 2 v' ls.length (flds ls) := by
        exact hown'
      clear hown' hgrow
      go_wp2_with fail
      go_ret
      exact ⟨_, rfl, hown2, hB⟩

theorem both_vals (a b : List Fld) (s : List UInt8) : jn (vals (a ++ b) s) = if (vals a s).isEmpty then jn (vals b s) else if (vals b s).isEmpty then jn (vals a s) else jn (vals a s) ++ [44, 32] ++ jn (vals b s) := by
  rw [vals_app]
  cases ha : vals a s with
  | nil => rfl
  | cons x r =>
    cases hb : vals b s with
    | nil => simp
    | cons y q =>
      rw [jn_both _ _ (by simp) (by simp)]
      rfl

set_option maxHeartbeats 4000000 in
set_option maxRecDepth 100000 in
theorem walkFieldBoth (a0 : Value) (l0 : List Fld) (a1 : Value) (l1 : List Fld) (a2 : ByteArray) (w : World) (z0 : Fl w a0 l0) (b0 : bulkF l0 + bulkF l1 ≤ 1048576) (n0 : Nilly a0) (z1 : Fl w a1 l1) (n1 : Nilly a1) (z2 : a2.size ≤ 1048576) :
    Calls Try.prog 5 #[a0, a1, .string a2] w fun e w' => e = .returned (.bool true) ∧ Below w.heap.size w w' := by
  obtain ⟨i0, hi, hz0, hz1, hz2⟩ := info_parts infoF
  have HZ0 : Hid (Fl w a0 l0) := z0
  have HZ1 : Hid (Fl w a1 l1) := z1
  have HW0 : Hid (Wide l0) := wide_bulk l0 (by omega)
  have HW1 : Hid (Wide l1) := wide_bulk l1 (by omega)
  have HWB : Hid (Wide (l0 ++ l1)) := wide_bulk _ (by rw [bulkF_app]; exact b0)
  have hl0 : l0.length ≤ 349526 := by have := bulk_len l0; omega
  have hl1 : l1.length ≤ 349526 := by have := bulk_len l1; omega
  have HN0 : Hid (Nilly a0) := n0
  obtain ⟨t0, ht0⟩ : ∃ t : ByteArray, t.data.toList = jn (vals l0 a2.data.toList) := ⟨⟨(jn (vals l0 a2.data.toList)).toArray⟩, rfl⟩
  obtain ⟨t1, ht1⟩ : ∃ t : ByteArray, t.data.toList = jn (vals l1 a2.data.toList) := ⟨⟨(jn (vals l1 a2.data.toList)).toArray⟩, rfl⟩
  obtain ⟨t2, ht2⟩ : ∃ t : ByteArray, t.data.toList = jn (vals (l0 ++ l1) a2.data.toList) := ⟨⟨(jn (vals (l0 ++ l1) a2.data.toList)).toArray⟩, rfl⟩
  obtain ⟨c0, hc0⟩ : ∃ b : Bool, b = !(vals l0 a2.data.toList).isEmpty := ⟨_, rfl⟩
  obtain ⟨c1, hc1⟩ : ∃ b : Bool, b = !(vals l1 a2.data.toList).isEmpty := ⟨_, rfl⟩
  obtain ⟨c2, hc2⟩ : ∃ b : Bool, b = !(vals (l0 ++ l1) a2.data.toList).isEmpty := ⟨_, rfl⟩
  have hs0 : t0.size ≤ 1048576 := by rw [← size_list, ht0]; exact Nat.le_trans (jn_bulk _ _) (by omega)
  have hs1 : t1.size ≤ 1048576 := by rw [← size_list, ht1]; exact Nat.le_trans (jn_bulk _ _) (by omega)
  have hs2 : t2.size ≤ 1048576 := by rw [← size_list, ht2]; exact Nat.le_trans (jn_bulk _ _) (by rw [bulkF_app]; exact b0)
  have HT0 : Hid (t0.data.toList = jn (vals l0 a2.data.toList)) := ht0
  have HT1 : Hid (t1.data.toList = jn (vals l1 a2.data.toList)) := ht1
  have HT2 : Hid (t2.data.toList = jn (vals (l0 ++ l1) a2.data.toList)) := ht2
  have HC0 : Hid (c0 = !(vals l0 a2.data.toList).isEmpty) := hc0
  have HC1 : Hid (c1 = !(vals l1 a2.data.toList).isEmpty) := hc1
  have HC2 : Hid (c2 = !(vals (l0 ++ l1) a2.data.toList).isEmpty) := hc2
  have hcc : c2 = (c0 || c1) := by
    rw [hc0, hc1, hc2, vals_app]
    cases vals l0 a2.data.toList <;> cases vals l1 a2.data.toList <;> rfl
  have HJ : Hid (t2.data.toList = if c0 = false then t1.data.toList else if c1 = false then t0.data.toList else t0.data.toList ++ [44, 32] ++ t1.data.toList) := by
    show _ = _
    rw [ht2, both_vals, ht0, ht1, hc0, hc1]
    cases (vals l0 a2.data.toList).isEmpty <;> cases (vals l1 a2.data.toList).isEmpty <;> rfl
  have HE : Hid (c1 = false → t1.data.toList = []) := by
    show _ → _
    intro h
    rw [h] at hc1
    have : vals l1 a2.data.toList = [] := by
      cases hv : vals l1 a2.data.toList with
      | nil => rfl
      | cons x r => rw [hv] at hc1; simp at hc1
    rw [ht1, this]; rfl
  obtain ⟨ad1, cap1, hv1, hcap1, hcm1, hcx1⟩ := z1
  subst hv1
  clear hcx1 z0 n0 b0 ht0 ht1 ht2 hc0 hc1 hc2
  go_enter Try.func5, Try.ntmps5
  go_wp2_with fail
  refine (get_at _ l0 a2 t0 c0 HT0.out HC0.out _ HZ0.out HW0.out (by omega) (by omega)).mono ?_
  rintro e w1 ⟨rfl, hb1⟩
  go_wp2_with fail
  refine (get_at _ l1 a2 t1 c1 HT1.out HC1.out _ (HZ1.out.below hb1) HW1.out (by omega) (by omega)).mono ?_
  rintro e w2 ⟨rfl, hb2⟩
  have hw2 := hb1.trans (hb2.mono hb1.size)
  clear hb1 hb2
  go_wp2_with fail
  refine (copy_any _ l0 _ (HZ0.out.below hw2) HN0.out (by omega)).mono ?_
  rintro e w3 ⟨v3, rfl, hown3, hb3⟩
  have hw3 := hw2.trans (hb3.mono hw2.size)
  have hsz2 := hw2.size
  have hsz3 := hb3.size
  have HF1 : Hid (Fl w3 (.slice ad1 l1.length cap1) l1) := HZ1.out.below hw3
  clear hw2 hb3
  rcases n1 with hn | ⟨a, n, c, hn⟩
  · simp only [Value.slice.injEq] at hn
    obtain ⟨rfl, hlz, rfl⟩ := hn
    have hls := List.eq_nil_of_length_eq_zero hlz
    subst hls
    clear hlz
    have HFB : Hid (Fl w3 v3 (l0 ++ [])) := by show Fl _ _ _; rw [List.append_nil]; exact Fl.own hown3
    have hw4 := hw3
    clear hw3
    go_wp2_with (at_builtin; refine wpList_append_own_none rfl _ _ 22 rfl w2.heap.size 29 i0 2 Try.underlying22 hi _ _ _ rfl hown3 rfl ?_)
    refine (get_at _ _ a2 t2 c2 HT2.out HC2.out _ HFB.out HWB.out (by omega) (by omega)).mono ?_
    rintro e w5 ⟨rfl, hb5⟩
    have hw5 := hw4.trans (hb5.mono hw4.size)
    clear hb5 hw4
    go_wp2_with fail
    refine (set_any _ [] ⟨#[120]⟩ ⟨#[121]⟩ _ (Fl.nil _) ⟨fun x hx => (by cases hx), by decide⟩ (by decide) (by decide)).mono ?_
    rintro e w6 ⟨v6, rfl, hown6, hb6⟩
    have HF6 : Hid (Fl w6 v6 [([120], [121])]) := Fl.own hown6
    have hw6 := hw5.trans (hb6.mono hw5.size)
    clear hown6 hb6 hw5
    go_wp2_with fail
    refine (get_at _ [([120], [121])] ⟨#[88]⟩ ⟨#[121]⟩ true (by show _ = jn (vals _ [88]); rw [vals_x, jn_one]) (by show true = !(vals _ [88]).isEmpty; rw [vals_x]; rfl) _ HF6.out wide_x (by decide) (by decide)).mono ?_
    rintro e w7 ⟨rfl, hb7⟩
    have hw7 := hw6.trans (hb7.mono hw6.size)
    clear hb7 hw6 HF6 HT2 HC2 HT0 HT1 HC0 HC1 HFB
    cases c0
    · cases c1
      · have e2 : t2 = ⟨#[]⟩ := by apply ByteArray.ext; apply Array.ext'; rw [HJ.out]; exact HE.out rfl
        subst hcc e2
        clear HJ HE
        go_wp2_with fail
        go_ret
        exact ⟨rfl, hw7⟩
      · have e2 : t2 = t1 := by apply ByteArray.ext; apply Array.ext'; rw [HJ.out]; rfl
        subst hcc e2
        clear HJ HE
        go_wp2_with fail
        go_ret
        exact ⟨ret_bool (by simp), hw7⟩
    · cases c1
      · have e2 : t2 = t0 := by apply ByteArray.ext; apply Array.ext'; rw [HJ.out]; rfl
        subst hcc e2
        clear HJ HE
        go_wp2_with fail
        go_ret
        exact ⟨ret_bool (by simp), hw7⟩
      · have e2 : t2 = t0 ++ ⟨#[44, 32]⟩ ++ t1 := by apply ByteArray.ext; apply Array.ext'; rw [HJ.out, ByteArray.data_append, Array.toList_append, ByteArray.data_append, Array.toList_append]; rfl
        subst hcc e2
        clear HJ HE
        go_wp2_with fail
        go_ret
        exact ⟨ret_bool (by simp), hw7⟩
  · simp only [Value.slice.injEq] at hn
    obtain ⟨rfl, rfl, rfl⟩ := hn
    go_wp2_with (at_builtin; refine wpList_append_own _ rfl _ _ 22 rfl w2.heap.size 29 i0 (.agg #[.string ⟨#[]⟩, .string ⟨#[]⟩]) 2 32 Try.underlying22 hi hz0 hz1 hz2 rfl (by decide) _ _ _ rfl hown3 a l1.length cap1 (flds l1) rfl (flds_length l1) ?c1 ?c2 ?c3 ?c4 ?c5 ?_)
    case c1 => exact HF1.out.cells
    case c2 => exact flds_one l1
    case c3 => unfold maxLen; omega
    case c4 => omega
    case c5 => omega
    · intro v4 w4 hown4 hgrow _
      have hw4 : Below w.heap.size w w4 := hw3.grown hgrow (by omega) (fun b hb => Nat.le_trans hsz2 (hown3.lt b hb).1)
      have HFB : Hid (Fl w4 v4 (l0 ++ l1)) := by
        apply Fl.own (B := w2.heap.size) (e := 29)
        rw [flds_app, List.length_append]; exact hown4
      clear hown4 hgrow hown3 hw3
      go_wp2_with fail
      refine (get_at _ _ a2 t2 c2 HT2.out HC2.out _ HFB.out HWB.out (by omega) (by omega)).mono ?_
      rintro e w5 ⟨rfl, hb5⟩
      have hw5 := hw4.trans (hb5.mono hw4.size)
      clear hb5 hw4
      go_wp2_with fail
      refine (set_any _ [] ⟨#[120]⟩ ⟨#[121]⟩ _ (Fl.nil _) ⟨fun x hx => (by cases hx), by decide⟩ (by decide) (by decide)).mono ?_
      rintro e w6 ⟨v6, rfl, hown6, hb6⟩
      have HF6 : Hid (Fl w6 v6 [([120], [121])]) := Fl.own hown6
      have hw6 := hw5.trans (hb6.mono hw5.size)
      clear hown6 hb6 hw5
      go_wp2_with fail
      refine (get_at _ [([120], [121])] ⟨#[88]⟩ ⟨#[121]⟩ true (by show _ = jn (vals _ [88]); rw [vals_x, jn_one]) (by show true = !(vals _ [88]).isEmpty; rw [vals_x]; rfl) _ HF6.out wide_x (by decide) (by decide)).mono ?_
      rintro e w7 ⟨rfl, hb7⟩
      have hw7 := hw6.trans (hb7.mono hw6.size)
      clear hb7 hw6 HF6 HT2 HC2 HT0 HT1 HC0 HC1 HFB
      cases c0
      · cases c1
        · have e2 : t2 = ⟨#[]⟩ := by apply ByteArray.ext; apply Array.ext'; rw [HJ.out]; exact HE.out rfl
          subst hcc e2
          clear HJ HE
          go_wp2_with fail
          go_ret
          exact ⟨rfl, hw7⟩
        · have e2 : t2 = t1 := by apply ByteArray.ext; apply Array.ext'; rw [HJ.out]; rfl
          subst hcc e2
          clear HJ HE
          go_wp2_with fail
          go_ret
          exact ⟨ret_bool (by simp), hw7⟩
      · cases c1
        · have e2 : t2 = t0 := by apply ByteArray.ext; apply Array.ext'; rw [HJ.out]; rfl
          subst hcc e2
          clear HJ HE
          go_wp2_with fail
          go_ret
          exact ⟨ret_bool (by simp), hw7⟩
        · have e2 : t2 = t0 ++ ⟨#[44, 32]⟩ ++ t1 := by apply ByteArray.ext; apply Array.ext'; rw [HJ.out, ByteArray.data_append, Array.toList_append, ByteArray.data_append, Array.toList_append]; rfl
          subst hcc e2
          clear HJ HE
          go_wp2_with fail
          go_ret
          exact ⟨ret_bool (by simp), hw7⟩
end Go.Proofs.Ytflkgpjapgkgmab
