/-
  What Set of package field computes; lists and texts are no longer than Go allows.
-/
import Derived.Test.YtigbjhkkbgdkcacGreatDoorMe
import Derived.Test.YtigbjhkkbgdkcacGreatDoorRows
import Derived.Test.YtigbjhkkbgdkcacGreatDoorShelf
import Derived.Laws.Rows
import Derived.Lib.Buffer
import Derived.Laws.IdiomStrings
import Derived.Lib.ItoaLen
import Derived.Deep.RegionHeld3
import Derived.Deep.SlicePairs
import Derived.Lib.SmallJoins
import Derived.Deep.Strs
namespace Go.Proofs.YtigbjhkkbgdkcacGreatDoor
open Go.RowKit

theorem place (s : List UInt8) (ls : List Fld) : (∀ x ∈ ls, nm s x = false) ∨ ∃ (k : Nat) (h : k < ls.length), nm s ls[k] = true ∧ ∀ x ∈ ls.take k, nm s x = false := by
  induction ls with
  | nil => exact .inl fun x hx => by cases hx
  | cons a r ih =>
    cases ha : nm s a
    · rcases ih with h | ⟨k, hk, h1, h2⟩
      · exact .inl fun x hx => by
          rcases List.mem_cons.1 hx with rfl | hx
          · exact ha
          · exact h x hx
      · refine .inr ⟨k + 1, by simp; omega, by simpa using h1, fun x hx => ?_⟩
        rw [List.take_succ_cons] at hx
        rcases List.mem_cons.1 hx with rfl | hx
        · exact ha
        · exact h2 x hx
    · exact .inr ⟨0, by simp, by simpa using ha, fun x hx => by simp at hx⟩

set_option maxHeartbeats 4000000 in
set_option maxRecDepth 100000 in
theorem set_any (v : Value) (ls : List Fld) (s u : ByteArray) (w : World) (hf : Fl w v ls) (hl : Wide ls) (hs : s.size ≤ 140737488351232) (hu : u.size ≤ 140737488351232) :
    Calls Tryz.prog 11 #[v, .string s, .string u] w fun e w' => ∃ v', e = .returned v' ∧ w'.ownsRow w.heap.size 58 2 v' (setS s.data.toList u.data.toList ls).length (flds (setS s.data.toList u.data.toList ls)) ∧ Below w.heap.size w w' := by
  obtain ⟨i0, hi, hz0, hz1, hz2⟩ := info_parts infoF
  obtain ⟨ad, cap, hv, hcap, hcm, hcx⟩ := id hf
  clear hcx
  subst hv
  have HF : Hid (Fl w (.slice ad ls.length cap) ls) := hf
  have HL : Hid (Wide ls) := hl
  have hll := hl.2
  clear hf hl
  unfold maxLen at hcm
  rcases place s.data.toList ls with hnone | ⟨k, hkk, h1, h2⟩
  · have HI : Hid (∀ x ∈ ls, nm s.data.toList x = false) := hnone
    clear hnone
    have hk : ls.length ≤ ls.length := by omega
    have HSET : Hid (setS s.data.toList u.data.toList ls = rest1 s.data.toList (ls.take ls.length) ++ [(s.data.toList, u.data.toList)] ++ rest1 s.data.toList (ls.drop ls.length)) := setS_parts _ _ ls ls.length hk (by rw [List.take_length]; exact HI.out) (fun h => absurd h (Nat.lt_irrefl _))
    have hl1 : (rest1 s.data.toList (ls.take ls.length)).length ≤ ls.length := by
      have h1 := List.length_filter_le (fun x => !nm s.data.toList x) (ls.take ls.length)
      have h2 := List.length_take_le ls.length ls
      unfold rest1; omega
    have hl2 : (rest1 s.data.toList (ls.drop ls.length)).length ≤ ls.length - ls.length := by
      have h1 := List.length_filter_le (fun x => !nm s.data.toList x) (ls.drop ls.length)
      rw [List.length_drop] at h1
      unfold rest1; exact h1
    obtain ⟨A, hA⟩ : ∃ A, A = rest1 s.data.toList (ls.take ls.length) := ⟨_, rfl⟩
    obtain ⟨B, hB⟩ : ∃ B, B = rest1 s.data.toList (ls.drop ls.length) := ⟨_, rfl⟩
    rw [← hA] at hl1
    rw [← hB] at hl2
    have HAA : Hid (rest1 s.data.toList (ls.take ls.length) = A) := hA.symm
    have HBB : Hid (rest1 s.data.toList (ls.drop ls.length) = B) := hB.symm
    have hsh : ∀ W : World, (Instr.slice 22 (.slice ad ls.length cap) none (some (.int .i64 (ls.length : Int))) none).run Tryz.prog W = .ok (.slice ad ls.length cap) W := fun W => slice_high ad ls.length cap ls.length (by omega) W
    obtain ⟨ad2, had2⟩ : ∃ ad2, ad2 = if cap = ls.length then ad else ad.map (·.add (ls.length * 2)) := ⟨_, rfl⟩
    obtain ⟨m2, hm2⟩ : ∃ m2, m2 = ls.length - ls.length := ⟨_, rfl⟩
    obtain ⟨c2, hc2⟩ : ∃ c2, c2 = cap - ls.length := ⟨_, rfl⟩
    have hsl : ∀ W : World, (Instr.slice 22 (.slice ad ls.length cap) (some (.int .i64 (ls.length : Int))) none none).run Tryz.prog W = .ok (.slice ad2 m2 c2) W := fun W => by rw [had2, hm2, hc2]; exact slice_low ad ls.length cap ls.length hk W
    have HD2 : Hid ((.slice (if cap = ls.length then ad else ad.map (·.add (ls.length * 2))) (ls.length - ls.length) (cap - ls.length) : Value) = .slice ad2 m2 c2) := by show _ = _; rw [had2, hm2, hc2]
    clear hA hB had2 hm2 hc2
    have hkc : (ls.length : Int) ≤ (cap : Int) := by omega
    have hkl : (ls.length : Int) ≤ (ls.length : Int) := by omega
    go_enter Tryz.func11, Tryz.ntmps11
    go_wp2_with fail
    refine (named_any s _ hs).mono ?_
    rintro e w1 ⟨f1, rfl, hp1, hb1⟩
    have HP1 : Hid (Pred w1 f1 (fun x => lower x.1 == lower s.data.toList)) := hp1
    clear hp1
    go_wp2_with fail
    refine (idx_any _ _ ls _ (-1) (.inl ⟨rfl, HI.out⟩) _ (HF.out.below hb1) HL.out HP1.out).mono ?_
    rintro e w2 ⟨rfl, hb2⟩
    have hw2 := hb1.trans (hb2.mono hb1.size)
    clear hb1 hb2 HP1
    go_wp2_with fail
    refine (named_any s _ hs).mono ?_
    rintro e w3 ⟨f3, rfl, hp3, hb3⟩
    have HP3 : Hid (Pred w3 f3 (fun x => lower x.1 == lower s.data.toList)) := hp3
    have hw3 := hw2.trans (hb3.mono hw2.size)
    clear hp3 hb3 hw2
    go_wp2_with fail
    refine (but_any f3 _ _ HP3.out).mono ?_
    rintro e w4 ⟨f4, rfl, hp4, hb4⟩
    have HP4 : Hid (Pred w4 f4 (fun x => !(lower x.1 == lower s.data.toList))) := hp4
    have hw4 := hw3.trans (hb4.mono hw3.size)
    have hsz4 := hw4.size
    have HF4 : Hid (Fl w4 (.slice ad ls.length cap) ls) := HF.out.below hw4
    clear hp4 hb4 HP3 hw3
    go_wp2_with fail
    refine (pick_any _ _ (ls.take ls.length) _ _ (HF4.out.take ls.length hk) (HL.out.take ls.length) HP4.out).mono ?_
    rintro e w5 ⟨v5, rfl, hown5, hb5⟩
    have hown5' : w5.ownsRow w4.heap.size 58 2 v5 A.length (flds A) := by rw [← HAA.out]; exact hown5
    have hsz5 := hb5.size
    clear hown5
    go_wp2_with fail
    refine (fclone_any s u _ (by omega) (by omega)).mono ?_
    rintro e w6 ⟨rfl, hb6⟩
    have hown6 := own_below3 hown5' hb6
    have hb46 := hb5.trans (hb6.mono hsz5)
    have hsz6 := hb46.size
    clear hown5' hb5 hb6 hsz5
    go_wp2_with (at_builtin; refine wpList_append_own _ rfl _ _ 22 rfl w4.heap.size 58 i0 (.agg #[.string ⟨#[]⟩, .string ⟨#[]⟩]) 2 32 Tryz.underlying22 hi hz0 hz1 hz2 rfl (by decide) _ _ _ rfl (hown6.alloc _) ⟨w6.heap.size, 0, none⟩ 1 1 [.string s, .string u] rfl rfl ?c1 ?c2 ?c3 ?c4 ?c5 ?_)
    case c1 =>
      intro j z h
      match j, h with
      | 0, h => simp at h; subst h; simp [Addr.add]
      | 1, h => simp at h; subst h; simp [Addr.add]
    case c2 => intro z hx; simp at hx; rcases hx with rfl | rfl <;> rfl
    case c3 => unfold maxLen; omega
    case c4 => omega
    case c5 => simp; omega
    · intro v7 w7 hown7' hgrow _
      have hb47 : Below w4.heap.size w4 w7 := (hb46.alloc hsz6 _).grown hgrow (by simp; omega) (fun b hb => ((hown6.alloc (.cells #[.string s, .string u] 58)).lt b hb).1)
      have hown7 : w7.ownsRow w4.heap.size 58 2 v7 (A ++ [(s.data.toList, u.data.toList)]).length (flds (A ++ [(s.data.toList, u.data.toList)])) := by
        rw [← flds_snoc, List.length_append]; exact hown7'
      have hsz7 := hb47.size
      have HP7 : Hid (Pred w7 f4 (fun x => !(lower x.1 == lower s.data.toList))) := HP4.out.later hb47
      have HF7 : Hid (Fl w7 (.slice ad2 m2 c2) (ls.drop ls.length)) := by
        have := (HF4.out.below hb47).drop ls.length hk
        rw [HD2.out] at this
        exact this
      clear hown7' hgrow hown6 hb46 hsz6
      go_wp2_with fail
      refine (pick_any _ _ (ls.drop ls.length) _ _ HF7.out (HL.out.drop ls.length) HP7.out).mono ?_
      rintro e w8 ⟨v8, rfl, hown8, hb8⟩
      have hown8' : w8.ownsRow w7.heap.size 58 2 v8 B.length (flds B) := by rw [← HBB.out]; exact hown8
      have hown78 := own_below3 hown7 hb8
      have hb48 := hb47.trans (hb8.mono hsz7)
      have hsz8 := hb48.size
      have hw8 := hw4.trans (hb48.mono hsz4)
      have hlA : (A ++ [(s.data.toList, u.data.toList)]).length = A.length + 1 := by simp
      have HLA : Hid ((A ++ [(s.data.toList, u.data.toList)]).length = A.length + 1) := hlA
      clear hown8 hown7 hb8 hb47 hlA
      by_cases hB0 : B.length = 0
      · have hBn := List.eq_nil_of_length_eq_zero hB0
        have HBN : Hid (B = []) := hBn
        rcases id hown8'.2 with ⟨hvn, _⟩ | ⟨g, cp, cur, hvb, hgB, hgh, hgn, hgc, _, _⟩
        · subst hvn
          clear hown8' hBn hB0
          go_wp2_with (at_builtin; refine wpList_append_own_none rfl _ _ 22 rfl w4.heap.size 58 i0 2 Tryz.underlying22 hi _ _ _ rfl hown78 rfl ?_)
          go_ret
          refine ⟨_, rfl, ?_, hw8⟩
          rw [HSET.out, HAA.out, HBB.out, HBN.out, List.append_nil]
          exact own_le hown78 hsz4
        · subst hvb
          subst hBn
          clear hgh hB0
          go_wp2_with (at_builtin; refine wpList_append_own _ rfl _ _ 22 rfl w4.heap.size 58 i0 (.agg #[.string ⟨#[]⟩, .string ⟨#[]⟩]) 2 32 Tryz.underlying22 hi hz0 hz1 hz2 rfl (by decide) _ _ _ rfl hown78 ⟨g, 0, none⟩ 0 cp [] rfl rfl (fun j z h => by simp at h) (fun z hz => by cases hz) ?c3 ?c4 ?c5 ?_)
          case c3 => rw [HLA.out]; unfold maxLen; omega
          case c4 => rw [HLA.out]; omega
          case c5 => omega
          · intro v9 w9 hown9 hgrow9 _
            have hw9 : Below w.heap.size w w9 := hw8.grown hgrow9 (by omega) (fun b hb => Nat.le_trans hsz4 (hown78.lt b hb).1)
            have HO : Hid (w9.ownsRow w.heap.size 58 2 v9 (setS s.data.toList u.data.toList ls).length (flds (setS s.data.toList u.data.toList ls))) := by
              show World.ownsRow _ _ _ _ _ _ _
              rw [HSET.out, HAA.out, HBB.out, List.append_nil, HLA.out]
              have e := own_le hown9 hsz4
              exact e
            clear hown9 hgrow9 hown78 hown8'
            go_wp2_with fail
            go_ret
            exact ⟨_, rfl, HO.out, hw9⟩
      · rcases id hown8'.2 with ⟨hvn, hn0⟩ | ⟨g, cp, cur, hvb, hgB, hgh, hgn, hgc, _, _⟩
        · exact absurd hn0 hB0
        · subst hvb
          clear hgh
          go_wp2_with (at_builtin; refine wpList_append_own _ rfl _ _ 22 rfl w4.heap.size 58 i0 (.agg #[.string ⟨#[]⟩, .string ⟨#[]⟩]) 2 32 Tryz.underlying22 hi hz0 hz1 hz2 rfl (by decide) _ _ _ rfl hown78 ⟨g, 0, none⟩ B.length cp (flds B) rfl (flds_length B) ?c1 ?c2 ?c3 ?c4 ?c5 ?_)
          case c1 => exact hown8'.cells rfl
          case c2 => exact flds_one B
          case c3 => rw [HLA.out]; unfold maxLen; omega
          case c4 => rw [HLA.out]; omega
          case c5 => omega
          · intro v9 w9 hown9 hgrow9 _
            have hw9 : Below w.heap.size w w9 := hw8.grown hgrow9 (by omega) (fun b hb => Nat.le_trans hsz4 (hown78.lt b hb).1)
            have HO : Hid (w9.ownsRow w.heap.size 58 2 v9 (setS s.data.toList u.data.toList ls).length (flds (setS s.data.toList u.data.toList ls))) := by
              show World.ownsRow _ _ _ _ _ _ _
              rw [HSET.out, HAA.out, HBB.out, flds_app, List.length_append, HLA.out]
              exact own_le hown9 hsz4
            clear hown9 hgrow9 hown78 hown8'
            go_wp2_with fail
            go_ret
            exact ⟨_, rfl, HO.out, hw9⟩
  · have HI : Hid (∃ h : k < ls.length, nm s.data.toList ls[k] = true ∧ ∀ x ∈ ls.take k, nm s.data.toList x = false) := ⟨hkk, h1, h2⟩
    clear h1 h2
    have hkn : decide ((k : Int) < 0) = false := decide_eq_false (by omega)
    have hk : k ≤ ls.length := by omega
    have HSET : Hid (setS s.data.toList u.data.toList ls = rest1 s.data.toList (ls.take k) ++ [(s.data.toList, u.data.toList)] ++ rest1 s.data.toList (ls.drop k)) := setS_parts _ _ ls k hk (HI.out).choose_spec.2 (fun h => ⟨ls[k], ls.drop (k + 1), List.drop_eq_getElem_cons h, (HI.out).choose_spec.1⟩)
    have hl1 : (rest1 s.data.toList (ls.take k)).length ≤ k := by
      have h1 := List.length_filter_le (fun x => !nm s.data.toList x) (ls.take k)
      have h2 := List.length_take_le k ls
      unfold rest1; omega
    have hl2 : (rest1 s.data.toList (ls.drop k)).length ≤ ls.length - k := by
      have h1 := List.length_filter_le (fun x => !nm s.data.toList x) (ls.drop k)
      rw [List.length_drop] at h1
      unfold rest1; exact h1
    obtain ⟨A, hA⟩ : ∃ A, A = rest1 s.data.toList (ls.take k) := ⟨_, rfl⟩
    obtain ⟨B, hB⟩ : ∃ B, B = rest1 s.data.toList (ls.drop k) := ⟨_, rfl⟩
    rw [← hA] at hl1
    rw [← hB] at hl2
    have HAA : Hid (rest1 s.data.toList (ls.take k) = A) := hA.symm
    have HBB : Hid (rest1 s.data.toList (ls.drop k) = B) := hB.symm
    have hsh : ∀ W : World, (Instr.slice 22 (.slice ad ls.length cap) none (some (.int .i64 (k : Int))) none).run Tryz.prog W = .ok (.slice ad k cap) W := fun W => slice_high ad ls.length cap k (by omega) W
    obtain ⟨ad2, had2⟩ : ∃ ad2, ad2 = if cap = k then ad else ad.map (·.add (k * 2)) := ⟨_, rfl⟩
    obtain ⟨m2, hm2⟩ : ∃ m2, m2 = ls.length - k := ⟨_, rfl⟩
    obtain ⟨c2, hc2⟩ : ∃ c2, c2 = cap - k := ⟨_, rfl⟩
    have hsl : ∀ W : World, (Instr.slice 22 (.slice ad ls.length cap) (some (.int .i64 (k : Int))) none none).run Tryz.prog W = .ok (.slice ad2 m2 c2) W := fun W => by rw [had2, hm2, hc2]; exact slice_low ad ls.length cap k hk W
    have HD2 : Hid ((.slice (if cap = k then ad else ad.map (·.add (k * 2))) (ls.length - k) (cap - k) : Value) = .slice ad2 m2 c2) := by show _ = _; rw [had2, hm2, hc2]
    clear hA hB had2 hm2 hc2
    have hkc : (k : Int) ≤ (cap : Int) := by omega
    have hkl : (k : Int) ≤ (ls.length : Int) := by omega
    go_enter Tryz.func11, Tryz.ntmps11
    go_wp2_with fail
    refine (named_any s _ hs).mono ?_
    rintro e w1 ⟨f1, rfl, hp1, hb1⟩
    have HP1 : Hid (Pred w1 f1 (fun x => lower x.1 == lower s.data.toList)) := hp1
    clear hp1
    go_wp2_with fail
    refine (idx_any _ _ ls _ (k : Int) (.inr ⟨k, (HI.out).choose, rfl, (HI.out).choose_spec.1, (HI.out).choose_spec.2⟩) _ (HF.out.below hb1) HL.out HP1.out).mono ?_
    rintro e w2 ⟨rfl, hb2⟩
    have hw2 := hb1.trans (hb2.mono hb1.size)
    clear hb1 hb2 HP1
    go_wp2_with fail
    refine (named_any s _ hs).mono ?_
    rintro e w3 ⟨f3, rfl, hp3, hb3⟩
    have HP3 : Hid (Pred w3 f3 (fun x => lower x.1 == lower s.data.toList)) := hp3
    have hw3 := hw2.trans (hb3.mono hw2.size)
    clear hp3 hb3 hw2
    go_wp2_with fail
    refine (but_any f3 _ _ HP3.out).mono ?_
    rintro e w4 ⟨f4, rfl, hp4, hb4⟩
    have HP4 : Hid (Pred w4 f4 (fun x => !(lower x.1 == lower s.data.toList))) := hp4
    have hw4 := hw3.trans (hb4.mono hw3.size)
    have hsz4 := hw4.size
    have HF4 : Hid (Fl w4 (.slice ad ls.length cap) ls) := HF.out.below hw4
    clear hp4 hb4 HP3 hw3
    go_wp2_with fail
    refine (pick_any _ _ (ls.take k) _ _ (HF4.out.take k hk) (HL.out.take k) HP4.out).mono ?_
    rintro e w5 ⟨v5, rfl, hown5, hb5⟩
    have hown5' : w5.ownsRow w4.heap.size 58 2 v5 A.length (flds A) := by rw [← HAA.out]; exact hown5
    have hsz5 := hb5.size
    clear hown5
    go_wp2_with fail
    refine (fclone_any s u _ (by omega) (by omega)).mono ?_
    rintro e w6 ⟨rfl, hb6⟩
    have hown6 := own_below3 hown5' hb6
    have hb46 := hb5.trans (hb6.mono hsz5)
    have hsz6 := hb46.size
    clear hown5' hb5 hb6 hsz5
    go_wp2_with (at_builtin; refine wpList_append_own _ rfl _ _ 22 rfl w4.heap.size 58 i0 (.agg #[.string ⟨#[]⟩, .string ⟨#[]⟩]) 2 32 Tryz.underlying22 hi hz0 hz1 hz2 rfl (by decide) _ _ _ rfl (hown6.alloc _) ⟨w6.heap.size, 0, none⟩ 1 1 [.string s, .string u] rfl rfl ?c1 ?c2 ?c3 ?c4 ?c5 ?_)
    case c1 =>
      intro j z h
      match j, h with
      | 0, h => simp at h; subst h; simp [Addr.add]
      | 1, h => simp at h; subst h; simp [Addr.add]
    case c2 => intro z hx; simp at hx; rcases hx with rfl | rfl <;> rfl
    case c3 => unfold maxLen; omega
    case c4 => omega
    case c5 => simp; omega
    · intro v7 w7 hown7' hgrow _
      have hb47 : Below w4.heap.size w4 w7 := (hb46.alloc hsz6 _).grown hgrow (by simp; omega) (fun b hb => ((hown6.alloc (.cells #[.string s, .string u] 58)).lt b hb).1)
      have hown7 : w7.ownsRow w4.heap.size 58 2 v7 (A ++ [(s.data.toList, u.data.toList)]).length (flds (A ++ [(s.data.toList, u.data.toList)])) := by
        rw [← flds_snoc, List.length_append]; exact hown7'
      have hsz7 := hb47.size
      have HP7 : Hid (Pred w7 f4 (fun x => !(lower x.1 == lower s.data.toList))) := HP4.out.later hb47
      have HF7 : Hid (Fl w7 (.slice ad2 m2 c2) (ls.drop k)) := by
        have := (HF4.out.below hb47).drop k hk
        rw [HD2.out] at this
        exact this
      clear hown7' hgrow hown6 hb46 hsz6
      go_wp2_with fail
      refine (pick_any _ _ (ls.drop k) _ _ HF7.out (HL.out.drop k) HP7.out).mono ?_
      rintro e w8 ⟨v8, rfl, hown8, hb8⟩
      have hown8' : w8.ownsRow w7.heap.size 58 2 v8 B.length (flds B) := by rw [← HBB.out]; exact hown8
      have hown78 := own_below3 hown7 hb8
      have hb48 := hb47.trans (hb8.mono hsz7)
      have hsz8 := hb48.size
      have hw8 := hw4.trans (hb48.mono hsz4)
      have hlA : (A ++ [(s.data.toList, u.data.toList)]).length = A.length + 1 := by simp
      have HLA : Hid ((A ++ [(s.data.toList, u.data.toList)]).length = A.length + 1) := hlA
      clear hown8 hown7 hb8 hb47 hlA
      by_cases hB0 : B.length = 0
      · have hBn := List.eq_nil_of_length_eq_zero hB0
        have HBN : Hid (B = []) := hBn
        rcases id hown8'.2 with ⟨hvn, _⟩ | ⟨g, cp, cur, hvb, hgB, hgh, hgn, hgc, _, _⟩
        · subst hvn
          clear hown8' hBn hB0
          go_wp2_with (at_builtin; refine wpList_append_own_none rfl _ _ 22 rfl w4.heap.size 58 i0 2 Tryz.underlying22 hi _ _ _ rfl hown78 rfl ?_)
          go_ret
          refine ⟨_, rfl, ?_, hw8⟩
          rw [HSET.out, HAA.out, HBB.out, HBN.out, List.append_nil]
          exact own_le hown78 hsz4
        · subst hvb
          subst hBn
          clear hgh hB0
          go_wp2_with (at_builtin; refine wpList_append_own _ rfl _ _ 22 rfl w4.heap.size 58 i0 (.agg #[.string ⟨#[]⟩, .string ⟨#[]⟩]) 2 32 Tryz.underlying22 hi hz0 hz1 hz2 rfl (by decide) _ _ _ rfl hown78 ⟨g, 0, none⟩ 0 cp [] rfl rfl (fun j z h => by simp at h) (fun z hz => by cases hz) ?c3 ?c4 ?c5 ?_)
          case c3 => rw [HLA.out]; unfold maxLen; omega
          case c4 => rw [HLA.out]; omega
          case c5 => omega
          · intro v9 w9 hown9 hgrow9 _
            have hw9 : Below w.heap.size w w9 := hw8.grown hgrow9 (by omega) (fun b hb => Nat.le_trans hsz4 (hown78.lt b hb).1)
            have HO : Hid (w9.ownsRow w.heap.size 58 2 v9 (setS s.data.toList u.data.toList ls).length (flds (setS s.data.toList u.data.toList ls))) := by
              show World.ownsRow _ _ _ _ _ _ _
              rw [HSET.out, HAA.out, HBB.out, List.append_nil, HLA.out]
              have e := own_le hown9 hsz4
              exact e
            clear hown9 hgrow9 hown78 hown8'
            go_wp2_with fail
            go_ret
            exact ⟨_, rfl, HO.out, hw9⟩
      · rcases id hown8'.2 with ⟨hvn, hn0⟩ | ⟨g, cp, cur, hvb, hgB, hgh, hgn, hgc, _, _⟩
        · exact absurd hn0 hB0
        · subst hvb
          clear hgh
          go_wp2_with (at_builtin; refine wpList_append_own _ rfl _ _ 22 rfl w4.heap.size 58 i0 (.agg #[.string ⟨#[]⟩, .string ⟨#[]⟩]) 2 32 Tryz.underlying22 hi hz0 hz1 hz2 rfl (by decide) _ _ _ rfl hown78 ⟨g, 0, none⟩ B.length cp (flds B) rfl (flds_length B) ?c1 ?c2 ?c3 ?c4 ?c5 ?_)
          case c1 => exact hown8'.cells rfl
          case c2 => exact flds_one B
          case c3 => rw [HLA.out]; unfold maxLen; omega
          case c4 => rw [HLA.out]; omega
          case c5 => omega
          · intro v9 w9 hown9 hgrow9 _
            have hw9 : Below w.heap.size w w9 := hw8.grown hgrow9 (by omega) (fun b hb => Nat.le_trans hsz4 (hown78.lt b hb).1)
            have HO : Hid (w9.ownsRow w.heap.size 58 2 v9 (setS s.data.toList u.data.toList ls).length (flds (setS s.data.toList u.data.toList ls))) := by
              show World.ownsRow _ _ _ _ _ _ _
              rw [HSET.out, HAA.out, HBB.out, flds_app, List.length_append, HLA.out]
              exact own_le hown9 hsz4
            clear hown9 hgrow9 hown78 hown8'
            go_wp2_with fail
            go_ret
            exact ⟨_, rfl, HO.out, hw9⟩
end Go.Proofs.YtigbjhkkbgdkcacGreatDoor

/-
  What chr of the document's answers computes, a contract over the program's text.
-/
namespace Go.Proofs.YtigbjhkkbgdkcacGreatDoor
open Go.RowKit

theorem mk_data (s : ByteArray) (l : List UInt8) (h : s.data.toList = l) : s = ⟨l.toArray⟩ := by
  apply ByteArray.ext
  rw [← h, Array.toArray_toList]
theorem app_list (a b : ByteArray) : (a ++ b).data.toList = a.data.toList ++ b.data.toList := by
  rw [ByteArray.data_append, Array.toList_append]

set_option maxHeartbeats 1000000 in
set_option maxRecDepth 100000 in
theorem rchr_any (u : Nat) (h : u < 256) (w : World) :
    Calls Tryz.prog 21 #[.int .i64 (u : Int)] w fun e w' => e = .returned (.string ⟨#[UInt8.ofNat u]⟩) ∧ Below w.heap.size w w' := by
  have h1 : (u : Int) < 256 := by omega
  have h0 : (0 : Int) ≤ (u : Int) := by omega
  have hcv := run_convert_bytes_back (P := Tryz.prog) (w.alloc (.cells #[.int .u8 (u : Int)] 5)) 72 9 5 ⟨w.heap.size, 0, none⟩ 1 [UInt8.ofNat u] Tryz.underlying72 Tryz.underlying5 Tryz.underlying9 (fun j hj => by
    have hj' : j < 1 := hj
    obtain rfl : j = 0 := by omega
    rw [show (⟨w.heap.size, 0, none⟩ : Addr).add 0 = ⟨w.heap.size, 0, none⟩ from rfl, World.cell?_alloc_at _ _ _ _ (by simp)]
    simp [Nat.mod_eq_of_lt h])
  rw [show ([UInt8.ofNat u] : List UInt8).length = 1 from rfl] at hcv
  go_enter Tryz.func21, Tryz.ntmps21
  go_wp2_with fail
  go_ret
  exact ⟨rfl, (Below.refl _ w).alloc (Nat.le_refl _) _⟩
end Go.Proofs.YtigbjhkkbgdkcacGreatDoor

/-
  What chr and Digits of the document's answers compute, each a contract over the program's text.
-/
namespace Go.Proofs.YtigbjhkkbgdkcacGreatDoor
open Go.RowKit

theorem dec_len (u : Nat) (h : u ≤ 9223372036854775807) : (Lib.decDigits u).length ≤ 21 := by
  have := Lib.itoa_length_le (u : Int) (by omega) (by omega)
  rw [Lib.itoa, if_neg (by omega)] at this
  simpa using this

set_option maxHeartbeats 1000000 in
set_option maxRecDepth 100000 in
theorem rdigits_any (N : Nat) : ∀ (u : Nat) (_ : u ≤ N) (_ : u ≤ 9223372036854775807) (w : World),
    Calls Tryz.prog 8 #[.int .i64 (u : Int)] w fun e w' => e = .returned (.string ⟨(Lib.decDigits u).toArray⟩) ∧ Below w.heap.size w w' := by
  induction N with
  | zero =>
    intro u h1 h2 w
    obtain rfl : u = 0 := by omega
    have c := rchr_any 48 (by omega) w
    go_enter Tryz.func8, Tryz.ntmps8
    go_wp2_with fail
    refine c.mono ?_
    rintro e w1 ⟨rfl, hb⟩
    go_wp2_with fail
    go_ret
    exact ⟨ret_str (by rw [Lib.decDigits_one (by omega)]; rfl), hb⟩
  | succ N ih =>
    intro u h1 h2 w
    by_cases h10 : u < 10
    · have c := rchr_any (48 + u) (by omega) w
      have hi : (u : Int) < 10 := by omega
      have HL : Hid (Lib.decDigits u = [UInt8.ofNat (48 + u)]) := Lib.decDigits_one h10
      rw [Int.natCast_add] at c
      clear ih
      go_enter Tryz.func8, Tryz.ntmps8
      go_wp2_with fail
      refine c.mono ?_
      rintro e w1 ⟨rfl, hb⟩
      go_wp2_with fail
      go_ret
      exact ⟨ret_str (by rw [HL.out, UInt8.ofNat_add]; rfl), hb⟩
    · have c1 := ih (u / 10) (by omega) (by omega) w
      have c2 := rchr_any (48 + u % 10) (by omega)
      have hlen := dec_len (u / 10) (by omega)
      obtain ⟨t, ht⟩ : ∃ t : ByteArray, t = ⟨(Lib.decDigits (u / 10)).toArray⟩ := ⟨_, rfl⟩
      rw [← ht] at c1
      have hts : t.size ≤ 21 := by rw [← size_list, ht]; exact hlen
      have HL : Hid (Lib.decDigits u = t.data.toList ++ [UInt8.ofNat (48 + u % 10)]) := by
        show Lib.decDigits u = _
        rw [Lib.decDigits, dif_neg h10, ht]
      have hi : ¬ (u : Int) < 10 := by omega
      have hmx : (u : Int) ≤ 9223372036854775807 := by omega
      rw [Int.natCast_ediv] at c1
      clear ih ht hlen
      go_enter Tryz.func8, Tryz.ntmps8
      go_wp2_with fail
      refine c1.mono ?_
      rintro e w1 ⟨rfl, hb1⟩
      have c3 := c2 w1
      rw [Int.natCast_add, Int.natCast_emod] at c3
      clear c2
      go_wp2_with fail
      refine c3.mono ?_
      rintro e w2 ⟨rfl, hb2⟩
      have HB : Hid (Below w.heap.size w w2) := hb1.trans (hb2.mono hb1.size)
      clear hb1 hb2 c3
      go_wp2_with fail
      go_ret
      exact ⟨ret_str (mk_data _ _ (by rw [app_list, HL.out, UInt8.ofNat_add]; rfl)), HB.out⟩
end Go.Proofs.YtigbjhkkbgdkcacGreatDoor

/-
  The demands that are tried one behind the other, over plain lists; no program is named here.
-/
namespace Go.Proofs.YtigbjhkkbgdkcacGreatDoor
open Go.RowKit

theorem suf_not (pre t p t' p' : List UInt8) (b c : UInt8) (ht : t = t' ++ [b]) (hp : p = p' ++ [c]) (h : b ≠ c) : Lib.hasSuffix (pre ++ t) p = false := by
  rw [Bool.eq_false_iff]
  intro hs
  unfold Lib.hasSuffix at hs
  obtain ⟨r, hr⟩ := List.isSuffixOf_iff_suffix.1 hs
  rw [ht, hp, ← List.append_assoc, ← List.append_assoc] at hr
  have h2 := congrArg List.getLast? hr
  simp at h2
  exact h h2.symm
theorem suf_self (pre t : List UInt8) : Lib.hasSuffix (pre ++ t) t = true := by
  unfold Lib.hasSuffix
  exact List.isSuffixOf_iff_suffix.2 ⟨pre, rfl⟩
/-- A demand: what it reads as, and how it ends. -/
def DemandIs (u : Nat) (t : List UInt8) (x : Dv) (nB oB : Bool) : Prop :=
  Bare t ∧ paD t = some x ∧ t.length ≤ 30 ∧ (x = xMA u ∨ x = xMF u ∨ x = xNC ∨ x = xOIC) ∧ (∀ pre, Lib.hasSuffix (pre ++ t) dNC = nB) ∧ (∀ pre, Lib.hasSuffix (pre ++ t) dOIC = oB) ∧ (nB = true → x = xNC) ∧ (oB = true → x = xOIC)
theorem dec_last (u : Nat) : ∃ l b, Lib.decDigits u = l ++ [b] ∧ b ≠ 101 ∧ b ≠ 100 := by
  have h1 := dec_ne u
  have h2 := dec_all u
  refine ⟨(Lib.decDigits u).dropLast, (Lib.decDigits u).getLast h1, (List.dropLast_concat_getLast h1).symm, ?_, ?_⟩
  all_goals
    intro h
    rw [List.all_eq_true] at h2
    have := h2 _ (List.getLast_mem h1)
    rw [h] at this
    revert this
    decide
theorem num_demand (m : List UInt8) (u : Nat) (x : Dv) (hu : u < 1000) (hm : m.length ≤ 9) (hp : prD x = m ++ 61 :: Lib.decDigits u) (hx : x = xMA u ∨ x = xMF u ∨ x = xNC ∨ x = xOIC) : DemandIs u (m ++ 61 :: Lib.decDigits u) x false false := by
  obtain ⟨h1, h2, _⟩ := demand_bare x u hx
  rw [hp] at h1 h2
  obtain ⟨l, b, hl, hb1, hb2⟩ := dec_last u
  have hlen := dec_short 2 u (by omega)
  have ht : m ++ 61 :: Lib.decDigits u = (m ++ 61 :: l) ++ [b] := by rw [hl]; simp
  refine ⟨h1, h2, by simp; omega, hx, fun pre => ?_, fun pre => ?_, fun h => (by cases h), fun h => (by cases h)⟩
  · exact suf_not pre _ dNC _ [110, 111, 45, 99, 97, 99, 104] b 101 ht rfl hb1
  · exact suf_not pre _ dOIC _ [111, 110, 108, 121, 45, 105, 102, 45, 99, 97, 99, 104, 101] b 100 ht rfl hb2
theorem dm_ma (u : Nat) (hu : u < 1000) : DemandIs u (dMA ++ 61 :: Lib.decDigits u) (xMA u) false false := num_demand dMA u _ hu (by decide) (pr_num dMA u) (.inl rfl)
theorem dm_mf (u : Nat) (hu : u < 1000) : DemandIs u (dMF ++ 61 :: Lib.decDigits u) (xMF u) false false := num_demand dMF u _ hu (by decide) (pr_num dMF u) (.inr (.inl rfl))
theorem dm_nc (u : Nat) : DemandIs u dNC xNC true false := by
  obtain ⟨h1, h2, _⟩ := demand_bare xNC u (.inr (.inr (.inl rfl)))
  have hp : prD xNC = dNC := rfl
  rw [hp] at h1 h2
  refine ⟨h1, h2, by decide, .inr (.inr (.inl rfl)), fun pre => suf_self pre dNC, fun pre => ?_, fun _ => rfl, fun h => (by cases h)⟩
  exact suf_not pre dNC dOIC [110, 111, 45, 99, 97, 99, 104] [111, 110, 108, 121, 45, 105, 102, 45, 99, 97, 99, 104, 101] 101 100 rfl rfl (by decide)
theorem dm_oic (u : Nat) : DemandIs u dOIC xOIC false true := by
  obtain ⟨h1, h2, _⟩ := demand_bare xOIC u (.inr (.inr (.inr rfl)))
  have hp : prD xOIC = dOIC := rfl
  rw [hp] at h1 h2
  refine ⟨h1, h2, by decide, .inr (.inr (.inr rfl)), fun pre => ?_, fun pre => suf_self pre dOIC, fun h => (by cases h), fun _ => rfl⟩
  exact suf_not pre dOIC dNC [111, 110, 108, 121, 45, 105, 102, 45, 99, 97, 99, 104, 101] [110, 111, 45, 99, 97, 99, 104] 100 101 rfl rfl (by decide)
theorem less_ways (asks says : List Dv) (life age : Int) (u : Nat) (t : List UInt8) (x : Dv) (nB oB : Bool) (h : DemandIs u t x nB oB) (A B : Int) (hA : useP asks says life age = A) (hB : useP (asks ++ [x]) says life age = B) :
    (nB = true ∧ oB = false ∧ (B = 2 ∨ B = 3)) ∨ (nB = false ∧ oB = false ∧ (B = 1 ∧ A = 1 ∨ B = 2 ∨ B = 3)) ∨ (nB = false ∧ oB = true ∧ (B = 1 ∧ A = 1 ∨ B = 3 ∧ A ≠ 1)) := by
  obtain ⟨_, _, _, hx, _, _, hn, ho⟩ := h
  have hin := use_in (asks ++ [x]) says life age
  have hls : B = 1 → A = 1 := fun hb => by rw [← hA]; exact use_less asks says life age x u hx (by rw [hB]; exact hb)
  rw [hB] at hin
  cases nB
  · right
    cases oB
    · left
      refine ⟨rfl, rfl, ?_⟩
      rcases hin with h | h | h
      · exact .inl ⟨h, hls h⟩
      · exact .inr (.inl h)
      · exact .inr (.inr h)
    · right
      refine ⟨rfl, rfl, ?_⟩
      have he := ho rfl
      subst he
      obtain ⟨h1, h2⟩ := use_oic asks says life age
      rw [hA, hB] at h1
      rw [hB] at h2
      rcases hin with h | h | h
      · exact .inl ⟨h, hls h⟩
      · exact absurd h h2
      · right
        refine ⟨h, fun ha => ?_⟩
        have := h1.2 ha
        omega
  · left
    have he := hn rfl
    have ho' : oB = false := by
      cases oB
      · rfl
      · have := ho rfl
        rw [he] at this
        cases this
    refine ⟨rfl, ho', ?_⟩
    subst he
    have h1 := use_nc asks says life age
    rw [hB] at h1
    rcases hin with h | h | h
    · exact absurd h h1
    · exact .inl h
    · exact .inr h
/-- What is demanded when one demand more is set behind what was there. -/
theorem ctl_there (ks L : List Fld) (u : Nat) (t : List UInt8) (x : Dv) (nB oB : Bool) (h : DemandIs u t x nB oB) (hL : setS nCC (gv ks nCC ++ 44 :: t) ks = L) (hz : (ctQ (gv ks nCC ++ 44 :: t)).2 = 0) : ctl L = ctl ks ++ [x] := by
  have hv : vals L nCC = [gv ks nCC ++ 44 :: t] := by rw [← hL]; exact vals_set _ _ _
  have h2 := ctQ_comma (gv ks nCC) t h.1 x h.2.1 _ _ (Prod.eta (ctQ (gv ks nCC ++ 44 :: t))).symm hz
  unfold ctl
  rw [show gv L nCC = gv ks nCC ++ 44 :: t by unfold gv at hv ⊢; rw [hv, jn_one]]
  exact h2
theorem ctl_bare (ks L : List Fld) (u : Nat) (t : List UInt8) (x : Dv) (nB oB : Bool) (h : DemandIs u t x nB oB) (hL : setS nCC t ks = L) (hn : vals ks nCC = []) : ctl L = ctl ks ++ [x] := by
  have hv : vals L nCC = [t] := by rw [← hL]; exact vals_set _ _ _
  have hk : ctl ks = [] := by unfold ctl gv; rw [hn]; rfl
  rw [hk, List.nil_append]
  have hlt : t.length ≤ 1000 := by have := h.2.2.1; omega
  have h2 := ctQ_one t h.1 hlt x h.2.1
  unfold ctl
  rw [show gv L nCC = t by unfold gv; rw [hv, jn_one], h2]
end Go.Proofs.YtigbjhkkbgdkcacGreatDoor

/-
  The walk through FreshLess: it answers true and turns nothing that was there. The lists hold at most 2^20 letters and values, and the listed variables hold what their text lays.
-/
namespace Go.Proofs.YtigbjhkkbgdkcacGreatDoor
open Go.RowKit

set_option maxHeartbeats 8000000 in
set_option maxRecDepth 100000 in
theorem walkFreshLess (av : Value) (ks : List Fld) (v0 v1 v2 v3 v5 v7 v10 fv : Value) (l0 : List Fld) (c o m : Int) (a2 a3 : Int) (w : World) (za : Fl w av ks) (ba : bulkF ks ≤ 1048576) (z0 : Fl w fv l0) (b0 : bulkF l0 ≤ 1048576) (_z2 : (Lit.int .i64 a2).wf = true) (z3 : (Lit.int .i64 a3).wf = true) (ht : DTabs w) :
    Calls Tryz.prog 3 #[av, .agg #[v0, v1, v2, v3, .int .i64 c, v5, fv, v7, .int .i64 o, .int .i64 m, v10], .int .i64 a2, .int .i64 a3] w fun e w' => e = .returned (.bool true) ∧ Below w.heap.size w w' := by
  obtain ⟨D, hD⟩ := dfn_ex
  have hb0 : Below w.heap.size w (w.alloc (.cells #[v0, v1, v2, v3, .int .i64 c, v5, fv, v7, .int .i64 o, .int .i64 m, v10] 28)) := (Below.refl _ w).alloc (Nat.le_refl _) _
  have HALL : Hid (∀ W : World, Below (w.alloc (.cells #[v0, v1, v2, v3, .int .i64 c, v5, fv, v7, .int .i64 o, .int .i64 m, v10] 28)).heap.size (w.alloc (.cells #[v0, v1, v2, v3, .int .i64 c, v5, fv, v7, .int .i64 o, .int .i64 m, v10] 28)) W →
      Cells11 W w.heap.size v0 v1 v2 v3 (.int .i64 c) v5 fv v7 (.int .i64 o) (.int .i64 m) v10 ∧ Below w.heap.size w W ∧ Fl W fv l0 ∧ DTabs W ∧ Fl W av ks) := fun W h => by
    have hB := hb0.trans (h.mono hb0.size)
    exact ⟨eleven h, hB, z0.below hB, ht.below hB, za.below hB⟩
  obtain ⟨u, eu⟩ : ∃ u : Nat, restV a3 1000 = (u : Int) := ⟨(restV a3 1000).toNat, by have := restV_in a3 1000 (by omega); omega⟩
  have hiu := restV_in a3 1000 (by omega)
  rw [eu] at hiu
  have u1 := hiu.2
  have HRu : Hid (∀ W : World, Calls Tryz.prog 7 #[.int .i64 a3, .int .i64 1000] W fun e w' => e = .returned (.int .i64 (u : Int)) ∧ w' = W) := fun W => by rw [← eu]; exact rest_is a3 1000 (by omega) (by omega) z3 W
  have hul := dec_short 2 u (by omega)
  have HDU : Hid (∀ W : World, Calls Tryz.prog 8 #[.int .i64 (u : Int)] W fun e w' => e = .returned (.string ⟨(Lib.decDigits u).toArray⟩) ∧ Below W.heap.size W w') := fun W => rdigits_any u u (Nat.le_refl _) (by omega) W
  obtain ⟨tu, htu⟩ : ∃ tu : ByteArray, tu = ⟨(Lib.decDigits u).toArray⟩ := ⟨_, rfl⟩
  have ltu : tu.data.toList = Lib.decDigits u := by rw [htu]
  have stu : tu.size ≤ 3 := by rw [← size_list, ltu]; exact hul
  rw [← htu] at HDU
  obtain ⟨tA, htA⟩ : ∃ tA : ByteArray, tA = (⟨#[109, 97, 120, 45, 97, 103, 101, 61]⟩ : ByteArray) ++ tu := ⟨_, rfl⟩
  obtain ⟨tB, htB⟩ : ∃ tB : ByteArray, tB = (⟨#[109, 105, 110, 45, 102, 114, 101, 115, 104, 61]⟩ : ByteArray) ++ tu := ⟨_, rfl⟩
  have HDA : Hid (DemandIs u tA.data.toList (xMA u) false false) := by
    have h : tA.data.toList = dMA ++ 61 :: Lib.decDigits u := by rw [htA, app_list, ltu]; simp [dMA]
    show DemandIs _ _ _ _ _
    rw [h]; exact dm_ma u (by omega)
  have HDB : Hid (DemandIs u tB.data.toList (xMF u) false false) := by
    have h : tB.data.toList = dMF ++ 61 :: Lib.decDigits u := by rw [htB, app_list, ltu]; simp [dMF]
    show DemandIs _ _ _ _ _
    rw [h]; exact dm_mf u (by omega)
  have HTA : Hid ((⟨#[109, 97, 120, 45, 97, 103, 101, 61]⟩ : ByteArray) ++ tu = tA) := htA.symm
  have HTB : Hid ((⟨#[109, 105, 110, 45, 102, 114, 101, 115, 104, 61]⟩ : ByteArray) ++ tu = tB) := htB.symm
  obtain ⟨life, elf⟩ : ∃ n, lifeP D l0 c m = n := ⟨_, rfl⟩
  obtain ⟨age, eag⟩ : ∃ n, ageP D l0 o m a2 = n := ⟨_, rfl⟩
  obtain ⟨A, eA⟩ : ∃ n, useP (ctl ks) (ctl l0) life age = n := ⟨_, rfl⟩
  have HEA : Hid (useP (ctl ks) (ctl l0) life age = A) := eA
  have HUA : Hid (∀ W : World, Fl W av ks → Fl W fv l0 → DTabs W → Calls Tryz.prog 6 #[av, .agg #[v0, v1, v2, v3, .int .i64 c, v5, fv, v7, .int .i64 o, .int .i64 m, v10], .int .i64 a2] W fun e w' => e = .returned (.int .i64 A) ∧ Below W.heap.size W w') := fun W hA hW hM => by
    rw [← eA, ← elf, ← eag]
    exact fuse_at D hD av ks v0 v1 v2 v3 v5 v7 v10 fv l0 c o m a2 W hA (Nat.le_trans ba (by decide)) hW (Nat.le_trans b0 (by decide)) hM
  have HUB : Hid (∀ (L : List Fld) (B : Int) (lv : Value) (W : World), useP (ctl L) (ctl l0) life age = B → bulkF L ≤ 4194304 → Fl W lv L → Fl W fv l0 → DTabs W → Calls Tryz.prog 6 #[lv, .agg #[v0, v1, v2, v3, .int .i64 c, v5, fv, v7, .int .i64 o, .int .i64 m, v10], .int .i64 a2] W fun e w' => e = .returned (.int .i64 B) ∧ Below W.heap.size W w') := fun L B lv W hB hl hA hW hM => by
    rw [← hB, ← elf, ← eag]
    exact fuse_at D hD lv L v0 v1 v2 v3 v5 v7 v10 fv l0 c o m a2 W hA hl hW (Nat.le_trans b0 (by decide)) hM
  have HWK : Hid (Wide ks) := wide_fr ks (by omega)
  obtain ⟨s, hs⟩ : ∃ s : ByteArray, s.data.toList = jn (vals ks (⟨#[67, 97, 99, 104, 101, 45, 67, 111, 110, 116, 114, 111, 108]⟩ : ByteArray).data.toList) := ⟨⟨(jn (vals ks nCC)).toArray⟩, rfl⟩
  obtain ⟨ist, hist⟩ : ∃ b, b = !(vals ks (⟨#[67, 97, 99, 104, 101, 45, 67, 111, 110, 116, 114, 111, 108]⟩ : ByteArray).data.toList).isEmpty := ⟨_, rfl⟩
  have HS : Hid (s.data.toList = jn (vals ks (⟨#[67, 97, 99, 104, 101, 45, 67, 111, 110, 116, 114, 111, 108]⟩ : ByteArray).data.toList)) := hs
  have HIS : Hid (ist = !(vals ks (⟨#[67, 97, 99, 104, 101, 45, 67, 111, 110, 116, 114, 111, 108]⟩ : ByteArray).data.toList).isEmpty) := hist
  have hss : s.size ≤ 1048576 := by
    have h := jn_bulk ks (⟨#[67, 97, 99, 104, 101, 45, 67, 111, 110, 116, 114, 111, 108]⟩ : ByteArray).data.toList
    rw [← hs, size_list] at h
    omega
  have HBA : Hid (bulkF ks ≤ 1048576) := ba
  obtain ⟨ad, cap, hv, hnc, hcm, hcx⟩ := id z0
  subst hv
  unfold maxLen at hcm
  obtain ⟨ad', cap', hv', hnc', hcm', hcx'⟩ := id za
  subst hv'
  unfold maxLen at hcm'
  clear hcx hcx' za z0 ba b0 hb0 ht elf eag eA eu z3 htA htB htu ltu hs hist hiu hul
  have HSE : Hid (∀ (W : World) (dv : ByteArray) (L : List Fld), dv.size ≤ 140737488351232 → setS (⟨#[67, 97, 99, 104, 101, 45, 67, 111, 110, 116, 114, 111, 108]⟩ : ByteArray).data.toList dv.data.toList ks = L → Below (w.alloc (.cells #[v0, v1, v2, v3, .int .i64 c, v5, .slice ad l0.length cap, v7, .int .i64 o, .int .i64 m, v10] 28)).heap.size (w.alloc (.cells #[v0, v1, v2, v3, .int .i64 c, v5, .slice ad l0.length cap, v7, .int .i64 o, .int .i64 m, v10] 28)) W → Calls Tryz.prog 11 #[.slice ad' ks.length cap', .string ⟨#[67, 97, 99, 104, 101, 45, 67, 111, 110, 116, 114, 111, 108]⟩, .string dv] W fun e w' => ∃ v', e = .returned v' ∧ Fl w' v' L ∧ Below (w.alloc (.cells #[v0, v1, v2, v3, .int .i64 c, v5, .slice ad l0.length cap, v7, .int .i64 o, .int .i64 m, v10] 28)).heap.size (w.alloc (.cells #[v0, v1, v2, v3, .int .i64 c, v5, .slice ad l0.length cap, v7, .int .i64 o, .int .i64 m, v10] 28)) w' ∧ (w'.cell? ⟨w.heap.size, 0, none⟩ = some v0 ∧ w'.cell? ⟨w.heap.size, 1, none⟩ = some v1 ∧ w'.cell? ⟨w.heap.size, 2, none⟩ = some v2 ∧ w'.cell? ⟨w.heap.size, 3, none⟩ = some v3 ∧ w'.cell? ⟨w.heap.size, 4, none⟩ = some (.int .i64 c) ∧ w'.cell? ⟨w.heap.size, 5, none⟩ = some v5 ∧ w'.cell? ⟨w.heap.size, 6, none⟩ = some (.slice ad l0.length cap) ∧ w'.cell? ⟨w.heap.size, 7, none⟩ = some v7 ∧ w'.cell? ⟨w.heap.size, 8, none⟩ = some (.int .i64 o) ∧ w'.cell? ⟨w.heap.size, 9, none⟩ = some (.int .i64 m) ∧ w'.cell? ⟨w.heap.size, 10, none⟩ = some v10) ∧ Below W.heap.size W w') := fun W dv L hdv hL hX => by
    refine (set_any _ ks _ dv W (HALL.out _ hX).2.2.2.2 HWK.out (by decide) hdv).mono ?_
    rintro e w' ⟨v', he, hown, hb⟩
    rw [hL] at hown
    have hX' := hX.trans (hb.mono hX.size)
    exact ⟨v', he, Fl.own hown, hX', (HALL.out _ hX').1, hb⟩
  have HUB2 : Hid (∀ (L : List Fld) (B : Int) (lv : Value) (W : World), useP (ctl L) (ctl l0) life age = B → bulkF L ≤ 4194304 → Fl W lv L → Below (w.alloc (.cells #[v0, v1, v2, v3, .int .i64 c, v5, .slice ad l0.length cap, v7, .int .i64 o, .int .i64 m, v10] 28)).heap.size (w.alloc (.cells #[v0, v1, v2, v3, .int .i64 c, v5, .slice ad l0.length cap, v7, .int .i64 o, .int .i64 m, v10] 28)) W → Calls Tryz.prog 6 #[lv, .agg #[v0, v1, v2, v3, .int .i64 c, v5, .slice ad l0.length cap, v7, .int .i64 o, .int .i64 m, v10], .int .i64 a2] W fun e w' => e = .returned (.int .i64 B) ∧ Below (w.alloc (.cells #[v0, v1, v2, v3, .int .i64 c, v5, .slice ad l0.length cap, v7, .int .i64 o, .int .i64 m, v10] 28)).heap.size (w.alloc (.cells #[v0, v1, v2, v3, .int .i64 c, v5, .slice ad l0.length cap, v7, .int .i64 o, .int .i64 m, v10] 28)) w' ∧ (w'.cell? ⟨w.heap.size, 0, none⟩ = some v0 ∧ w'.cell? ⟨w.heap.size, 1, none⟩ = some v1 ∧ w'.cell? ⟨w.heap.size, 2, none⟩ = some v2 ∧ w'.cell? ⟨w.heap.size, 3, none⟩ = some v3 ∧ w'.cell? ⟨w.heap.size, 4, none⟩ = some (.int .i64 c) ∧ w'.cell? ⟨w.heap.size, 5, none⟩ = some v5 ∧ w'.cell? ⟨w.heap.size, 6, none⟩ = some (.slice ad l0.length cap) ∧ w'.cell? ⟨w.heap.size, 7, none⟩ = some v7 ∧ w'.cell? ⟨w.heap.size, 8, none⟩ = some (.int .i64 o) ∧ w'.cell? ⟨w.heap.size, 9, none⟩ = some (.int .i64 m) ∧ w'.cell? ⟨w.heap.size, 10, none⟩ = some v10) ∧ Below W.heap.size W w') := fun L B lv W hB hl hF hX => by
    refine (HUB.out L B lv W hB hl hF (HALL.out _ hX).2.2.1 (HALL.out _ hX).2.2.2.1).mono ?_
    rintro e w' ⟨he, hb⟩
    have hX' := hX.trans (hb.mono hX.size)
    exact ⟨he, hX', (HALL.out _ hX').1, hb⟩
  go_enter Tryz.func3, Tryz.ntmps3
  go_wp2_with fail
  refine (anch_any D hD _ (HALL.out _ (Below.refl _ _)).2.2.2.1).mono ?_
  rintro e w1 ⟨rfl, hb1⟩
  have HX1 : Hid (Below (w.alloc (.cells #[v0, v1, v2, v3, .int .i64 c, v5, .slice ad l0.length cap, v7, .int .i64 o, .int .i64 m, v10] 28)).heap.size (w.alloc (.cells #[v0, v1, v2, v3, .int .i64 c, v5, .slice ad l0.length cap, v7, .int .i64 o, .int .i64 m, v10] 28)) w1) := hb1
  clear hb1
  obtain ⟨⟨c0, c1, c2, c3, c4, c5, c6, c7, c8, c9, c10⟩, _, _, _, _⟩ := HALL.out _ HX1.out
  go_wp2_with fail
  refine (HUA.out _ (HALL.out _ HX1.out).2.2.2.2 (HALL.out _ HX1.out).2.2.1 (HALL.out _ HX1.out).2.2.2.1).mono ?_
  rintro e w2 ⟨rfl, hb2⟩
  have HX2 : Hid (Below (w.alloc (.cells #[v0, v1, v2, v3, .int .i64 c, v5, .slice ad l0.length cap, v7, .int .i64 o, .int .i64 m, v10] 28)).heap.size (w.alloc (.cells #[v0, v1, v2, v3, .int .i64 c, v5, .slice ad l0.length cap, v7, .int .i64 o, .int .i64 m, v10] 28)) w2) := HX1.out.trans (hb2.mono HX1.out.size)
  clear hb2 HX1
  clear c0 c1 c2 c3 c4 c5 c6 c7 c8 c9 c10
  go_wp2_with fail
  refine (HRu.out _).mono ?_
  rintro e w3 ⟨rfl, rfl⟩
  go_wp2_with fail
  refine (HDU.out _).mono ?_
  rintro e w3 ⟨rfl, hb3⟩
  have HX3 : Hid (Below (w.alloc (.cells #[v0, v1, v2, v3, .int .i64 c, v5, .slice ad l0.length cap, v7, .int .i64 o, .int .i64 m, v10] 28)).heap.size (w.alloc (.cells #[v0, v1, v2, v3, .int .i64 c, v5, .slice ad l0.length cap, v7, .int .i64 o, .int .i64 m, v10] 28)) w3) := HX2.out.trans (hb3.mono HX2.out.size)
  clear hb3 HX2
  go_wp2_with fail
  refine (HDU.out _).mono ?_
  rintro e w4 ⟨rfl, hb4⟩
  have HX4 : Hid (Below (w.alloc (.cells #[v0, v1, v2, v3, .int .i64 c, v5, .slice ad l0.length cap, v7, .int .i64 o, .int .i64 m, v10] 28)).heap.size (w.alloc (.cells #[v0, v1, v2, v3, .int .i64 c, v5, .slice ad l0.length cap, v7, .int .i64 o, .int .i64 m, v10] 28)) w4) := HX3.out.trans (hb4.mono HX3.out.size)
  clear hb4 HX3
  go_wp2_with fail
  try rw [HTA.out]
  try rw [HTB.out]
  obtain ⟨wL, hwL⟩ : ∃ wL, wL = w4.alloc (.cells #[.string tA, .string tB, .string ⟨#[110, 111, 45, 99, 97, 99, 104, 101]⟩, .string ⟨#[111, 110, 108, 121, 45, 105, 102, 45, 99, 97, 99, 104, 101, 100]⟩] 9) := ⟨_, rfl⟩
  have HXL : Hid (Below (w.alloc (.cells #[v0, v1, v2, v3, .int .i64 c, v5, .slice ad l0.length cap, v7, .int .i64 o, .int .i64 m, v10] 28)).heap.size (w.alloc (.cells #[v0, v1, v2, v3, .int .i64 c, v5, .slice ad l0.length cap, v7, .int .i64 o, .int .i64 m, v10] 28)) wL) := by rw [hwL]; exact HX4.out.alloc HX4.out.size _
  have d0 : wL.cell? ⟨w4.heap.size, 0, none⟩ = some (.string tA) := by rw [hwL]; simp
  have d1 : wL.cell? ⟨w4.heap.size, 1, none⟩ = some (.string tB) := by rw [hwL]; simp
  have d2 : wL.cell? ⟨w4.heap.size, 2, none⟩ = some (.string ⟨#[110, 111, 45, 99, 97, 99, 104, 101]⟩) := by rw [hwL]; simp
  have d3 : wL.cell? ⟨w4.heap.size, 3, none⟩ = some (.string ⟨#[111, 110, 108, 121, 45, 105, 102, 45, 99, 97, 99, 104, 101, 100]⟩) := by rw [hwL]; simp
  have hsL : w4.heap.size < wL.heap.size := by rw [hwL]; simp
  have HTX : Hid (∀ (k : Nat) (W : World), k < 4 → Below wL.heap.size wL W → ∃ (t : ByteArray) (x : Dv) (nB oB : Bool), W.cell? ⟨w4.heap.size, k, none⟩ = some (.string t) ∧ DemandIs u t.data.toList x nB oB) := fun k W hk hW => by
    have hc : k = 0 ∨ k = 1 ∨ k = 2 ∨ k = 3 := by omega
    rcases hc with rfl | rfl | rfl | rfl
    · exact ⟨tA, _, _, _, (hW.cell (p := ⟨w4.heap.size, 0, none⟩) hsL).trans d0, HDA.out⟩
    · exact ⟨tB, _, _, _, (hW.cell (p := ⟨w4.heap.size, 1, none⟩) hsL).trans d1, HDB.out⟩
    · exact ⟨⟨#[110, 111, 45, 99, 97, 99, 104, 101]⟩, _, _, _, (hW.cell (p := ⟨w4.heap.size, 2, none⟩) hsL).trans d2, dm_nc u⟩
    · exact ⟨⟨#[111, 110, 108, 121, 45, 105, 102, 45, 99, 97, 99, 104, 101, 100]⟩, _, _, _, (hW.cell (p := ⟨w4.heap.size, 3, none⟩) hsL).trans d3, dm_oic u⟩
  try rw [← hwL]
  clear hwL d0 d1 d2 d3 HX4 HDA HDB
  go_loopw [33] (fun i wr => ∃ k : Nat, k ≤ 4 ∧ i = .int .i64 k ∧ Below wL.heap.size wL wr) (fun i _ => 4 - (intOf i).toNat)
  case atStart => exact ⟨0, by omega, rfl, Below.refl _ _⟩
  case round =>
    obtain ⟨k, hk, rfl, hw⟩ := hrel
    have HW : Hid (Below wL.heap.size wL wr) := hw
    have HXr : Hid (Below (w.alloc (.cells #[v0, v1, v2, v3, .int .i64 c, v5, .slice ad l0.length cap, v7, .int .i64 o, .int .i64 m, v10] 28)).heap.size (w.alloc (.cells #[v0, v1, v2, v3, .int .i64 c, v5, .slice ad l0.length cap, v7, .int .i64 o, .int .i64 m, v10] 28)) wr) := HXL.out.trans (hw.mono HXL.out.size)
    have hsr : w4.heap.size < wr.heap.size := Nat.lt_of_lt_of_le hsL hw.size
    clear hw
    by_cases hlt : k < 4
    · obtain ⟨t, x, nB, oB, hct, hdm⟩ := HTX.out k wr hlt HW.out
      have HDM : Hid (DemandIs u t.data.toList x nB oB) := hdm
      have hts : t.size ≤ 30 := by rw [← size_list]; exact hdm.2.2.1
      have hki : (k : Int) < 4 := by omega
      have hk0 : (0 : Int) ≤ (k : Int) := by omega
      clear hdm
      go_wp2_with fail
      refine (get_at _ ks _ s ist HS.out HIS.out _ (HALL.out _ HXr.out).2.2.2.2 HWK.out (by decide) (by omega)).mono ?_
      rintro e w5 ⟨rfl, hb5⟩
      have HX5 : Hid (Below (w.alloc (.cells #[v0, v1, v2, v3, .int .i64 c, v5, .slice ad l0.length cap, v7, .int .i64 o, .int .i64 m, v10] 28)).heap.size (w.alloc (.cells #[v0, v1, v2, v3, .int .i64 c, v5, .slice ad l0.length cap, v7, .int .i64 o, .int .i64 m, v10] 28)) w5) := HXr.out.trans (hb5.mono HXr.out.size)
      have HW5 : Hid (Below wL.heap.size wL w5) := HW.out.trans (hb5.mono HW.out.size)
      clear hb5 hct HXr HW hsr
      go_wp2_with fail
      generalize hsd : s ++ (⟨#[44]⟩ : ByteArray) ++ t = sd
      have HSD : Hid (s ++ (⟨#[44]⟩ : ByteArray) ++ t = sd) := hsd
      clear hsd
      refine (kparse_any sd _).mono ?_
      rintro e w6 ⟨v6, rfl, hown6, hb6⟩
      have HX6 : Hid (Below (w.alloc (.cells #[v0, v1, v2, v3, .int .i64 c, v5, .slice ad l0.length cap, v7, .int .i64 o, .int .i64 m, v10] 28)).heap.size (w.alloc (.cells #[v0, v1, v2, v3, .int .i64 c, v5, .slice ad l0.length cap, v7, .int .i64 o, .int .i64 m, v10] 28)) w6) := HX5.out.trans (hb6.mono HX5.out.size)
      have HW6 : Hid (Below wL.heap.size wL w6) := HW5.out.trans (hb6.mono HW5.out.size)
      obtain ⟨ad6, cap6, hv6, hcm6, hnc6, _⟩ := own_form2 hown6
      subst hv6
      obtain ⟨ec, hec⟩ : ∃ ec, (ctQ sd.data.toList).2 = ec := ⟨_, rfl⟩
      have HEC : Hid ((ctQ sd.data.toList).2 = ec) := hec
      rw [HEC.out]
      clear hb6 hown6 HX5 HW5
      by_cases hz : ec = 0
      rotate_left
      · have hzb : (ec == 0) = false := beq_eq_false_iff_ne.2 hz
        go_wp2_with fail
        go_ret
        exact ⟨by first | rfl | simp, (HALL.out _ HX6.out).2.1⟩
      · subst hz
        have hboth : ∃ (dv : ByteArray) (pre : List UInt8), dv = (if ist = true then sd else t) ∧ dv.data.toList = pre ++ t.data.toList ∧ ctl (setS (⟨#[67, 97, 99, 104, 101, 45, 67, 111, 110, 116, 114, 111, 108]⟩ : ByteArray).data.toList dv.data.toList ks) = ctl ks ++ [x] ∧ dv.size ≤ 1048620 := by
          have hgv : gv ks nCC = s.data.toList := HS.out.symm
          have hi : ist = !(vals ks nCC).isEmpty := HIS.out
          cases hb : ist
          · rw [hb] at hi
            have hn : vals ks nCC = [] := by
              cases hvv : vals ks nCC with
              | nil => rfl
              | cons _ _ => rw [hvv] at hi; cases hi
            exact ⟨t, [], rfl, rfl, ctl_bare ks _ u _ x nB oB HDM.out rfl hn, by omega⟩
          · have hl : sd.data.toList = gv ks nCC ++ 44 :: t.data.toList := by rw [← HSD.out, app_list, app_list, hgv]; simp
            refine ⟨sd, s.data.toList ++ [44], rfl, by rw [hl, hgv]; simp, ?_, ?_⟩
            · refine ctl_there ks _ u t.data.toList x nB oB HDM.out ?_ ?_
              · rw [← hl]; rfl
              · rw [← hl]; exact HEC.out
            · rw [← size_list, hl, hgv, List.length_append, List.length_cons, size_list, size_list]; omega
        obtain ⟨dv, pre, hdv, hpre, hctl, hds⟩ := hboth
        obtain ⟨L, hL⟩ : ∃ L, setS (⟨#[67, 97, 99, 104, 101, 45, 67, 111, 110, 116, 114, 111, 108]⟩ : ByteArray).data.toList dv.data.toList ks = L := ⟨_, rfl⟩
        have HL : Hid (setS (⟨#[67, 97, 99, 104, 101, 45, 67, 111, 110, 116, 114, 111, 108]⟩ : ByteArray).data.toList dv.data.toList ks = L) := hL
        rw [hL] at hctl
        have HBL : Hid (bulkF L ≤ 4194304) := by
          have h := bulk_set (⟨#[67, 97, 99, 104, 101, 45, 67, 111, 110, 116, 114, 111, 108]⟩ : ByteArray).data.toList dv.data.toList ks
          have h2 : (⟨#[67, 97, 99, 104, 101, 45, 67, 111, 110, 116, 114, 111, 108]⟩ : ByteArray).data.toList.length = 13 := rfl
          rw [hL, h2, size_list] at h
          have := HBA.out
          show _ ≤ _
          omega
        obtain ⟨B, hB⟩ : ∃ B, useP (ctl L) (ctl l0) life age = B := ⟨_, rfl⟩
        have HB : Hid (useP (ctl L) (ctl l0) life age = B) := hB
        rw [hctl] at hB
        have hways := less_ways (ctl ks) (ctl l0) life age u t.data.toList x nB oB HDM.out A B HEA.out hB
        have HNB : Hid (Lib.hasSuffix dv.data.toList (⟨#[110, 111, 45, 99, 97, 99, 104, 101]⟩ : ByteArray).data.toList = nB) := by
          show _ = _
          rw [hpre]; exact HDM.out.2.2.2.2.1 pre
        have HOB : Hid (Lib.hasSuffix dv.data.toList (⟨#[111, 110, 108, 121, 45, 105, 102, 45, 99, 97, 99, 104, 101, 100]⟩ : ByteArray).data.toList = oB) := by
          show _ = _
          rw [hpre]; exact HDM.out.2.2.2.2.2.1 pre
        have HXd : Below (w.alloc (.cells #[v0, v1, v2, v3, .int .i64 c, v5, .slice ad l0.length cap, v7, .int .i64 o, .int .i64 m, v10] 28)).heap.size (w.alloc (.cells #[v0, v1, v2, v3, .int .i64 c, v5, .slice ad l0.length cap, v7, .int .i64 o, .int .i64 m, v10] 28)) w6.drew := HX6.out.drew
        have HWd : Hid (Below wL.heap.size wL w6.drew) := HW6.out.drew
        clear hL hctl hB hpre HEC HDM
        obtain ⟨⟨c0, c1, c2, c3, c4, c5, c6, c7, c8, c9, c10⟩, _, _, _, _⟩ := HALL.out _ HX6.out
        cases ist
        · have hdv' : dv = t := hdv
          subst hdv'
          clear hdv
          go_upto_region 14 with fail
          go_region_held3 (fun W => W.cell? ⟨w.heap.size, 0, none⟩ = some v0 ∧ W.cell? ⟨w.heap.size, 1, none⟩ = some v1 ∧ W.cell? ⟨w.heap.size, 2, none⟩ = some v2 ∧ W.cell? ⟨w.heap.size, 3, none⟩ = some v3 ∧ W.cell? ⟨w.heap.size, 4, none⟩ = some (.int .i64 c) ∧ W.cell? ⟨w.heap.size, 5, none⟩ = some v5 ∧ W.cell? ⟨w.heap.size, 6, none⟩ = some (.slice ad l0.length cap) ∧ W.cell? ⟨w.heap.size, 7, none⟩ = some v7 ∧ W.cell? ⟨w.heap.size, 8, none⟩ = some (.int .i64 o) ∧ W.cell? ⟨w.heap.size, 9, none⟩ = some (.int .i64 m) ∧ W.cell? ⟨w.heap.size, 10, none⟩ = some v10) (go_keep) (first
            | (go_at_call 11; with_reducible refine (HSE.out _ dv L (by omega) HL.out HXd).mono ?_; rintro e w7 ⟨lv, rfl, hFL, hX7, ⟨c0, c1, c2, c3, c4, c5, c6, c7, c8, c9, c10⟩, hb7⟩)
            | (go_at_call 6; with_reducible refine (HUB2.out L B _ _ HB.out HBL.out hFL hX7).mono ?_; rintro e w8 ⟨rfl, hX8, ⟨c0, c1, c2, c3, c4, c5, c6, c7, c8, c9, c10⟩, hb8⟩))
          have HW7 : Below wL.heap.size wL w7 := HWd.out.trans (hb7.mono HWd.out.size)
          have HWn : Hid (Below wL.heap.size wL w8) := HW7.trans (hb8.mono HW7.size)
          have hways' : (nB = true ∧ oB = false ∧ (B = 2 ∨ B = 3)) ∨ (nB = false ∧ oB = false ∧ (B = 1 ∧ A = 1 ∨ B = 2 ∨ B = 3)) ∨ (nB = false ∧ oB = true ∧ (B = 1 ∧ A = 1 ∨ B = 3 ∧ (A == 1) = false)) := by
            rcases hways with h | h | ⟨h1, h2, h | ⟨h3, h4⟩⟩
            · exact .inl h
            · exact .inr (.inl h)
            · exact .inr (.inr ⟨h1, h2, .inl h⟩)
            · exact .inr (.inr ⟨h1, h2, .inr ⟨h3, beq_eq_false_iff_ne.2 h4⟩⟩)
          clear hways HW7 hb7 hb8 hX7 hX8 hFL HXd
          clear c0 c1 c2 c3 c4 c5 c6 c7 c8 c9 c10
          clear c0 c1 c2 c3 c4 c5 c6 c7 c8 c9 c10
          clear c0 c1 c2 c3 c4 c5 c6 c7 c8 c9 c10
          clear HB HBL HL HSE HUB HUB2 HALL HS HIS HEA
          rcases hways' with ⟨rfl, rfl, rfl | rfl⟩ | ⟨rfl, rfl, ⟨rfl, rfl⟩ | rfl | rfl⟩ | ⟨rfl, rfl, ⟨rfl, rfl⟩ | ⟨rfl, hA⟩⟩
          all_goals
            go_wp2_with fail
            refine (Tryz.strings_HasSuffix dv ⟨#[110, 111, 45, 99, 97, 99, 104, 101]⟩ _ (by omega)).mono ?_
            rintro e w9 ⟨rfl, rfl⟩
            rw [show Lib.hasSuffix dv.data.toList (⟨#[110, 111, 45, 99, 97, 99, 104, 101]⟩ : ByteArray).data.toList = _ from HNB.out]
            go_wp2_with fail
            refine (Tryz.strings_HasSuffix dv ⟨#[111, 110, 108, 121, 45, 105, 102, 45, 99, 97, 99, 104, 101, 100]⟩ _ (by omega)).mono ?_
            rintro e w9 ⟨rfl, rfl⟩
            rw [show Lib.hasSuffix dv.data.toList (⟨#[111, 110, 108, 121, 45, 105, 102, 45, 99, 97, 99, 104, 101, 100]⟩ : ByteArray).data.toList = _ from HOB.out]
            go_wp2_with fail
            refine (Tryz.strings_HasSuffix dv ⟨#[111, 110, 108, 121, 45, 105, 102, 45, 99, 97, 99, 104, 101, 100]⟩ _ (by omega)).mono ?_
            rintro e w9 ⟨rfl, rfl⟩
            rw [show Lib.hasSuffix dv.data.toList (⟨#[111, 110, 108, 121, 45, 105, 102, 45, 99, 97, 99, 104, 101, 100]⟩ : ByteArray).data.toList = _ from HOB.out]
            go_wp2_with fail
            go_roundw
            case rel => exact ⟨k + 1, by omega, by go_num, HWn.out⟩
            case measure => simp [intOf]; omega
        · have hdv' : dv = sd := hdv
          subst hdv'
          clear hdv
          go_upto_region 14 with fail
          try rw [HSD.out]
          go_region_held3 (fun W => W.cell? ⟨w.heap.size, 0, none⟩ = some v0 ∧ W.cell? ⟨w.heap.size, 1, none⟩ = some v1 ∧ W.cell? ⟨w.heap.size, 2, none⟩ = some v2 ∧ W.cell? ⟨w.heap.size, 3, none⟩ = some v3 ∧ W.cell? ⟨w.heap.size, 4, none⟩ = some (.int .i64 c) ∧ W.cell? ⟨w.heap.size, 5, none⟩ = some v5 ∧ W.cell? ⟨w.heap.size, 6, none⟩ = some (.slice ad l0.length cap) ∧ W.cell? ⟨w.heap.size, 7, none⟩ = some v7 ∧ W.cell? ⟨w.heap.size, 8, none⟩ = some (.int .i64 o) ∧ W.cell? ⟨w.heap.size, 9, none⟩ = some (.int .i64 m) ∧ W.cell? ⟨w.heap.size, 10, none⟩ = some v10) (go_keep) (first
            | (go_at_call 11; with_reducible refine (HSE.out _ dv L (by omega) HL.out HXd).mono ?_; rintro e w7 ⟨lv, rfl, hFL, hX7, ⟨c0, c1, c2, c3, c4, c5, c6, c7, c8, c9, c10⟩, hb7⟩)
            | (go_at_call 6; with_reducible refine (HUB2.out L B _ _ HB.out HBL.out hFL hX7).mono ?_; rintro e w8 ⟨rfl, hX8, ⟨c0, c1, c2, c3, c4, c5, c6, c7, c8, c9, c10⟩, hb8⟩))
          have HW7 : Below wL.heap.size wL w7 := HWd.out.trans (hb7.mono HWd.out.size)
          have HWn : Hid (Below wL.heap.size wL w8) := HW7.trans (hb8.mono HW7.size)
          have hways' : (nB = true ∧ oB = false ∧ (B = 2 ∨ B = 3)) ∨ (nB = false ∧ oB = false ∧ (B = 1 ∧ A = 1 ∨ B = 2 ∨ B = 3)) ∨ (nB = false ∧ oB = true ∧ (B = 1 ∧ A = 1 ∨ B = 3 ∧ (A == 1) = false)) := by
            rcases hways with h | h | ⟨h1, h2, h | ⟨h3, h4⟩⟩
            · exact .inl h
            · exact .inr (.inl h)
            · exact .inr (.inr ⟨h1, h2, .inl h⟩)
            · exact .inr (.inr ⟨h1, h2, .inr ⟨h3, beq_eq_false_iff_ne.2 h4⟩⟩)
          clear hways HW7 hb7 hb8 hX7 hX8 hFL HXd
          clear c0 c1 c2 c3 c4 c5 c6 c7 c8 c9 c10
          clear c0 c1 c2 c3 c4 c5 c6 c7 c8 c9 c10
          clear c0 c1 c2 c3 c4 c5 c6 c7 c8 c9 c10
          clear HB HBL HL HSE HUB HUB2 HALL HS HIS HEA
          rcases hways' with ⟨rfl, rfl, rfl | rfl⟩ | ⟨rfl, rfl, ⟨rfl, rfl⟩ | rfl | rfl⟩ | ⟨rfl, rfl, ⟨rfl, rfl⟩ | ⟨rfl, hA⟩⟩
          all_goals
            go_wp2_with fail
            refine (Tryz.strings_HasSuffix dv ⟨#[110, 111, 45, 99, 97, 99, 104, 101]⟩ _ (by omega)).mono ?_
            rintro e w9 ⟨rfl, rfl⟩
            rw [show Lib.hasSuffix dv.data.toList (⟨#[110, 111, 45, 99, 97, 99, 104, 101]⟩ : ByteArray).data.toList = _ from HNB.out]
            go_wp2_with fail
            refine (Tryz.strings_HasSuffix dv ⟨#[111, 110, 108, 121, 45, 105, 102, 45, 99, 97, 99, 104, 101, 100]⟩ _ (by omega)).mono ?_
            rintro e w9 ⟨rfl, rfl⟩
            rw [show Lib.hasSuffix dv.data.toList (⟨#[111, 110, 108, 121, 45, 105, 102, 45, 99, 97, 99, 104, 101, 100]⟩ : ByteArray).data.toList = _ from HOB.out]
            go_wp2_with fail
            refine (Tryz.strings_HasSuffix dv ⟨#[111, 110, 108, 121, 45, 105, 102, 45, 99, 97, 99, 104, 101, 100]⟩ _ (by omega)).mono ?_
            rintro e w9 ⟨rfl, rfl⟩
            rw [show Lib.hasSuffix dv.data.toList (⟨#[111, 110, 108, 121, 45, 105, 102, 45, 99, 97, 99, 104, 101, 100]⟩ : ByteArray).data.toList = _ from HOB.out]
            go_wp2_with fail
            go_roundw
            case rel => exact ⟨k + 1, by omega, by go_num, HWn.out⟩
            case measure => simp [intOf]; omega
    · obtain rfl : k = 4 := by omega
      go_wp2_with fail
      go_ret
      exact ⟨by first | rfl | simp, (HALL.out _ HXr.out).2.1⟩
end Go.Proofs.YtigbjhkkbgdkcacGreatDoor

/-
  A list of fields that came in, opened as a plain list of names and values; no program is named here.
-/
namespace Go.Proofs.YtigbjhkkbgdkcacGreatDoor
open Go.RowKit Go.ChangeShapes Go.WideShapes Go.Deep

def bytesOfV : Value → List UInt8
  | .string s => s.data.toList
  | _ => []
theorem add_form (b off n : Nat) : (⟨b, off, none⟩ : Addr).add n = ⟨b, off + n, none⟩ := by
  by_cases h0 : n = 0
  · subst h0; simp [Addr.add]
  · simp [Addr.add, h0]
def fl1 {H : Type} (y : Fld) : DataW H := .agg [.lit (.string y.1), .lit (.string y.2)]

theorem open_fl {H : Type} {enc : TypeId × Value → H} {P : Program} {w : World} {base : Nat} {spare : Nat → Bool} {held : Bool} {t e : TypeId} {f0 f1 : Field} {fuel : Nat} {v : Value} {x : DataW H × List MemPlace}
    (ht : P.underlying t = some (.slice e)) (he : P.underlying e = some (.struct #[f0, f1])) (ce : P.cellsOf e = 2) (o0 : f0.offset = 0) (o1 : f1.offset = 1) (c0 : P.cellsOf f0.type = 1) (c1 : P.cellsOf f1.type = 1)
    (s0 : P.underlying f0.type = some .string) (s1 : P.underlying f1.type = some .string) (h : DataW.trod enc P w base spare held fuel t [v] = some x) :
    ∃ (ls : List Fld) (sp : List (DataW H)), Fl w v ls ∧ Most maxLen ls ∧ (x.1 = .nil ∧ ls = [] ∨ x.1 = .slice (ls.map fl1) sp) := by
  rcases open_slice_pairs ht he ce o0 o1 c0 c1 h with ⟨hcs, hx⟩ | ⟨a, len, cap, m, n, V0, V1, D0, D1, P0, P1, hcs, _, hl, hm, hmm, hx, hi⟩
  · simp only [List.cons.injEq, and_true] at hcs
    subst hcs
    have hM : Most maxLen [] := fun y hy => by cases hy
    exact ⟨[], [], Fl.nil w, hM, Or.inl ⟨by rw [hx], rfl⟩⟩
  · simp only [List.cons.injEq, and_true] at hcs
    subst hcs
    have hlm : len ≤ m := by rw [hmm]; split <;> omega
    have each : ∀ i, i < len → V0 i = .string ⟨(bytesOfV (V0 i)).toArray⟩ ∧ V1 i = .string ⟨(bytesOfV (V1 i)).toArray⟩ ∧ D0 i = .lit (.string (bytesOfV (V0 i))) ∧ D1 i = .lit (.string (bytesOfV (V1 i))) ∧ (bytesOfV (V0 i)).length ≤ maxLen ∧ (bytesOfV (V1 i)).length ≤ maxLen := by
      intro i hil
      obtain ⟨_, _, t0, t1⟩ := hi i (by omega)
      obtain ⟨a0, ha0, hd0, hz0⟩ := DataW.trod_string s0 t0
      obtain ⟨a1, ha1, hd1, hz1⟩ := DataW.trod_string s1 t1
      simp only [List.cons.injEq, and_true] at ha0 ha1
      simp only [Prod.mk.injEq] at hd0 hd1
      rw [ha0, ha1, hd0.1, hd1.1]
      refine ⟨rfl, rfl, rfl, rfl, ?_, ?_⟩
      · show a0.data.toList.length ≤ maxLen; rw [size_list]; exact hz0
      · show a1.data.toList.length ≤ maxLen; rw [size_list]; exact hz1
    refine ⟨(List.range len).map fun i => (bytesOfV (V0 i), bytesOfV (V1 i)), (List.range (m - len)).map fun j => .agg [D0 (len + j), D1 (len + j)], ⟨some a, cap, by simp, by simpa using hl, hm, fun h0 => ?_⟩, ?_, .inr ?_⟩
    rotate_left
    · intro y hy
      obtain ⟨i, hir, rfl⟩ := List.mem_map.1 hy
      obtain ⟨_, _, _, _, h5, h6⟩ := each i (List.mem_range.1 hir)
      exact ⟨h5, h6⟩
    · rw [hx]
      show DataW.slice _ _ = DataW.slice _ _
      congr 1
      rw [List.map_map]
      refine List.map_congr_left fun i hir => ?_
      obtain ⟨_, _, h3, h4, _⟩ := each i (List.mem_range.1 hir)
      show DataW.agg [D0 i, D1 i] = DataW.agg _
      rw [h3, h4]
    · simp only [List.length_map, List.length_range] at h0 ⊢
      obtain ⟨b, off, spot⟩ := a
      have hc0 := (hi 0 (by omega)).1
      have hspot : spot = none := by simpa [Addr.add] using World.cell?_spot hc0
      subst hspot
      refine ⟨b, off, rfl, ?_, fun k hk => ?_⟩
      · rw [add_form] at hc0
        exact cell_in hc0
      · obtain ⟨q0, q1, _⟩ := hi k (by omega)
        obtain ⟨h1, h2, _⟩ := each k hk
        rw [add_form] at q0 q1
        rw [List.getElem_map, List.getElem_range]
        refine ⟨?_, ?_⟩
        · rw [q0, h1]; rfl
        · rw [Nat.add_assoc, q1, h2]; rfl
end Go.Proofs.YtigbjhkkbgdkcacGreatDoor

/-
  A stored response that came in, by value: a request, a response and three numbers, opened as eleven values; no program is named here.
-/
namespace Go.Proofs.YtigbjhkkbgdkcacGreatDoor
open Go.RowKit Go.ChangeShapes Go.WideShapes Go.Deep

theorem trod_struct5 {H : Type} {enc : TypeId × Value → H} {P : Program} {w : World} {base : Nat} {spare : Nat → Bool} {held : Bool} {t : TypeId} {f0 f1 f2 f3 f4 : Field} {fuel : Nat} {cs : List Value} {x : DataW H × List MemPlace} (ht : P.underlying t = some (.struct #[f0, f1, f2, f3, f4])) (h : DataW.trod enc P w base spare held fuel t cs = some x) :
    ∃ y0 y1 y2 y3 y4 n, x.1 = .agg [y0.1, y1.1, y2.1, y3.1, y4.1] ∧ cs.length = P.cellsOf t ∧ DataW.trod enc P w base spare held n f0.type ((cs.drop f0.offset).take (P.cellsOf f0.type)) = some y0 ∧
      DataW.trod enc P w base spare held n f1.type ((cs.drop f1.offset).take (P.cellsOf f1.type)) = some y1 ∧ DataW.trod enc P w base spare held n f2.type ((cs.drop f2.offset).take (P.cellsOf f2.type)) = some y2 ∧
      DataW.trod enc P w base spare held n f3.type ((cs.drop f3.offset).take (P.cellsOf f3.type)) = some y3 ∧ DataW.trod enc P w base spare held n f4.type ((cs.drop f4.offset).take (P.cellsOf f4.type)) = some y4 := by
  obtain ⟨xs, n, _, rfl, hl, hlen, hf⟩ := DataW.trod_struct ht h
  match xs, hlen with
  | [y0, y1, y2, y3, y4], _ => exact ⟨y0, y1, y2, y3, y4, n, by simp, hl, by simpa using hf 0 f0 rfl, by simpa using hf 1 f1 rfl, by simpa using hf 2 f2 rfl, by simpa using hf 3 f3 rfl, by simpa using hf 4 f4 rfl⟩
theorem array11 {α : Type} {cs : Array α} (h : cs.size = 11) : ∃ c0 c1 c2 c3 c4 c5 c6 c7 c8 c9 c10, cs = #[c0, c1, c2, c3, c4, c5, c6, c7, c8, c9, c10] := by
  obtain ⟨l⟩ := cs
  match l, h with
  | [c0, c1, c2, c3, c4, c5, c6, c7, c8, c9, c10], _ => exact ⟨c0, c1, c2, c3, c4, c5, c6, c7, c8, c9, c10, rfl⟩
theorem open_held {H : Type} {enc : TypeId × Value → H} {P : Program} {w : World} {base : Nat} {spare : Nat → Bool} {held : Bool} {r : Reach} {b0 : Nat} {t : TypeId} {f0 f1 f2 f3 f4 g0 g1 g2 g3 h0 h1 h2 h3 : Field} {v : Value} {d : DataW H} {p : List MemPlace}
    (hs : P.underlying t = some (.struct #[f0, f1, f2, f3, f4])) (hq : P.underlying f0.type = some (.struct #[g0, g1, g2, g3])) (hp : P.underlying f1.type = some (.struct #[h0, h1, h2, h3]))
    (oneq : oneCellFields P #[g0, g1, g2, g3] = true) (onep : oneCellFields P #[h0, h1, h2, h3] = true) (hC : P.cellsOf t = 11) (C0 : P.cellsOf f0.type = 4) (C1 : P.cellsOf f1.type = 4) (C2 : P.cellsOf f2.type = 1) (C3 : P.cellsOf f3.type = 1) (C4 : P.cellsOf f4.type = 1)
    (o0 : f0.offset = 0) (o1 : f1.offset = 4) (o2 : f2.offset = 8) (o3 : f3.offset = 9) (o4 : f4.offset = 10) (hv : Value.okWide P w r b0 t v) (h : DataW.Trod enc P w base spare held t v d p) :
    ∃ (v0 v1 v2 v3 v4 v5 v6 v7 v8 v9 v10 : Value) (y0 y1 y2 y3 y4 y5 y6 y7 y8 y9 y10 : DataW H × List MemPlace) (n m : Nat), v = .agg #[v0, v1, v2, v3, v4, v5, v6, v7, v8, v9, v10] ∧
      d = .agg [.agg [y0.1, y1.1, y2.1, y3.1], .agg [y4.1, y5.1, y6.1, y7.1], y8.1, y9.1, y10.1] ∧
      (DataW.trod enc P w base spare held n g0.type [v0] = some y0 ∧ DataW.trod enc P w base spare held n g1.type [v1] = some y1 ∧ DataW.trod enc P w base spare held n g2.type [v2] = some y2 ∧ DataW.trod enc P w base spare held n g3.type [v3] = some y3) ∧
      (DataW.trod enc P w base spare held m h0.type [v4] = some y4 ∧ DataW.trod enc P w base spare held m h1.type [v5] = some y5 ∧ DataW.trod enc P w base spare held m h2.type [v6] = some y6 ∧ DataW.trod enc P w base spare held m h3.type [v7] = some y7) ∧
      (∃ k, DataW.trod enc P w base spare held k f2.type [v8] = some y8 ∧ DataW.trod enc P w base spare held k f3.type [v9] = some y9 ∧ DataW.trod enc P w base spare held k f4.type [v10] = some y10) := by
  obtain ⟨cs, rfl, hsz⟩ := okWide_struct hs hv
  obtain ⟨v0, v1, v2, v3, v4, v5, v6, v7, v8, v9, v10, rfl⟩ := array11 (hsz.trans hC)
  obtain ⟨fuel, hf⟩ := h
  obtain ⟨a0, a1, y8, y9, y10, k, hx, _, t0, t1, t2, t3, t4⟩ := trod_struct5 hs hf
  simp only [Value.cells, o0, o1, o2, o3, o4, C0, C1, C2, C3, C4] at t0 t1 t2 t3 t4
  obtain ⟨y0, y1, y2, y3, n, hy, _, q0, q1, q2, q3⟩ := Go.Joins.trod_struct4 hq t0
  obtain ⟨y4, y5, y6, y7, m, hz, _, p0, p1, p2, p3⟩ := Go.Joins.trod_struct4 hp t1
  obtain ⟨oq0, kq0⟩ := hone_of oneq 0 g0 rfl
  obtain ⟨oq1, kq1⟩ := hone_of oneq 1 g1 rfl
  obtain ⟨oq2, kq2⟩ := hone_of oneq 2 g2 rfl
  obtain ⟨oq3, kq3⟩ := hone_of oneq 3 g3 rfl
  obtain ⟨op0, kp0⟩ := hone_of onep 0 h0 rfl
  obtain ⟨op1, kp1⟩ := hone_of onep 1 h1 rfl
  obtain ⟨op2, kp2⟩ := hone_of onep 2 h2 rfl
  obtain ⟨op3, kp3⟩ := hone_of onep 3 h3 rfl
  refine ⟨v0, v1, v2, v3, v4, v5, v6, v7, v8, v9, v10, y0, y1, y2, y3, y4, y5, y6, y7, y8, y9, y10, n, m, rfl, ?_, ⟨by simpa [oq0, kq0] using q0, by simpa [oq1, kq1] using q1, by simpa [oq2, kq2] using q2, by simpa [oq3, kq3] using q3⟩,
    ⟨by simpa [op0, kp0] using p0, by simpa [op1, kp1] using p1, by simpa [op2, kp2] using p2, by simpa [op3, kp3] using p3⟩, k, by simpa using t2, by simpa using t3, by simpa using t4⟩
  have hd : d = _ := hx
  rw [hd, hy, hz]
end Go.Proofs.YtigbjhkkbgdkcacGreatDoor

/-
  What Drop of package field computes; lists and texts are no longer than Go allows.
-/
namespace Go.Proofs.YtigbjhkkbgdkcacGreatDoor
open Go.RowKit

set_option maxHeartbeats 2000000 in
set_option maxRecDepth 100000 in
theorem drop_any (v : Value) (ls : List Fld) (s : ByteArray) (w : World) (hf : Fl w v ls) (hl : Wide ls) (hs : s.size ≤ 140737488351232) :
    Calls Tryz.prog 15 #[v, .string s] w fun e w' => ∃ v', e = .returned v' ∧ w'.ownsRow w.heap.size 58 2 v' (rest1 s.data.toList ls).length (flds (rest1 s.data.toList ls)) ∧ Below w.heap.size w w' := by
  have HF : Hid (Fl w v ls) := hf
  have HL : Hid (Wide ls) := hl
  clear hf hl
  go_enter Tryz.func15, Tryz.ntmps15
  go_wp2_with fail
  refine (named_any s _ hs).mono ?_
  rintro e w1 ⟨f, rfl, hp1, hb1⟩
  have HP1 : Hid (Pred w1 f (fun x => lower x.1 == lower s.data.toList)) := hp1
  clear hp1
  go_wp2_with fail
  refine (but_any f _ _ HP1.out).mono ?_
  rintro e w2 ⟨f2, rfl, hp2, hb2⟩
  have HP2 : Hid (Pred w2 f2 (fun x => !(lower x.1 == lower s.data.toList))) := hp2
  have hw2 := hb1.trans (hb2.mono hb1.size)
  clear hp2 hb2 hb1
  go_wp2_with fail
  refine (pick_any _ _ ls _ _ (HF.out.below hw2) HL.out HP2.out).mono ?_
  rintro e w3 ⟨v3, rfl, hown3, hb3⟩
  have hw3 := hw2.trans (hb3.mono hw2.size)
  go_wp2_with fail
  go_ret
  exact ⟨_, rfl, own_le hown3 hw2.size, hw3⟩
end Go.Proofs.YtigbjhkkbgdkcacGreatDoor

/-
  What Print of package date computes, as a relation.
-/
namespace Go.Proofs.YtigbjhkkbgdkcacGreatDoor
open Go.RowKit

theorem dprint_at (n : Int) (w : World) (ht : DTabs w) :
    Calls Tryz.prog 13 #[.int .i64 n] w fun e w' => ∃ (d : ByteArray) (c : Int), e = .returned (.tuple #[.string d, .int .i64 c]) ∧ ((c = 0 ∧ IsDT d.data.toList n) ∨ (c ≠ 0 ∧ d = ⟨#[]⟩ ∧ (n < 0 ∨ 253402300799 < n))) ∧ Below w.heap.size w w' := by
  by_cases h : n < 0 ∨ 253402300799 < n
  · refine (dprint_no n w h).mono ?_
    rintro e w' ⟨rfl, rfl⟩
    exact ⟨⟨#[]⟩, 1, rfl, .inr ⟨by decide, rfl, h⟩, Below.refl _ _⟩
  · refine (dprint_yes n w (by omega) (by omega) ht).mono ?_
    rintro e w' ⟨y, m, d, rfl, hv, hn, hb⟩
    exact ⟨⟨(dtext n y m d).toArray⟩, 0, rfl, .inl ⟨rfl, by omega, by omega, y, m, d, hv, hn, rfl⟩, hb⟩
end Go.Proofs.YtigbjhkkbgdkcacGreatDoor

/-
  The walk through FreshTold: it answers true and turns nothing that was there. The lists hold at most 2^20 letters and values, and the listed variables hold what their text lays.
-/
namespace Go.Proofs.YtigbjhkkbgdkcacGreatDoor
open Go.RowKit

set_option maxHeartbeats 8000000 in
set_option maxRecDepth 100000 in
theorem walkFreshTold (v0 v1 v2 v3 v5 v7 v10 fv : Value) (l0 : List Fld) (c o m : Int) (a1 a2 a3 : Int) (w : World) (z0 : Fl w fv l0) (b0 : bulkF l0 ≤ 1048576) (z1 : (Lit.int .i64 a1).wf = true) (z2 : (Lit.int .i64 a2).wf = true) (z3 : (Lit.int .i64 a3).wf = true) (ht : DTabs w) :
    Calls Tryz.prog 4 #[.agg #[v0, v1, v2, v3, .int .i64 c, v5, fv, v7, .int .i64 o, .int .i64 m, v10], .int .i64 a1, .int .i64 a2, .int .i64 a3] w fun e w' => e = .returned (.bool true) ∧ Below w.heap.size w w' := by
  obtain ⟨D, hD⟩ := dfn_ex
  obtain ⟨p, ep⟩ : ∃ u : Nat, restV a1 100000 = (u : Int) := ⟨(restV a1 100000).toNat, by have := restV_in a1 100000 (by omega); omega⟩
  have hip := restV_in a1 100000 (by omega)
  rw [ep] at hip
  have p1 := hip.2
  have HRp : Hid (∀ W : World, Calls Tryz.prog 7 #[.int .i64 a1, .int .i64 100000] W fun e w' => e = .returned (.int .i64 (p : Int)) ∧ w' = W) := fun W => by rw [← ep]; exact rest_is a1 100000 (by omega) (by omega) z1 W
  obtain ⟨q, eq⟩ : ∃ u : Nat, restV a2 100000 = (u : Int) := ⟨(restV a2 100000).toNat, by have := restV_in a2 100000 (by omega); omega⟩
  have hiq := restV_in a2 100000 (by omega)
  rw [eq] at hiq
  have q1 := hiq.2
  have HRq : Hid (∀ W : World, Calls Tryz.prog 7 #[.int .i64 a2, .int .i64 100000] W fun e w' => e = .returned (.int .i64 (q : Int)) ∧ w' = W) := fun W => by rw [← eq]; exact rest_is a2 100000 (by omega) (by omega) z2 W
  obtain ⟨n, en⟩ : ∃ u : Nat, restV a3 253402300800 = (u : Int) := ⟨(restV a3 253402300800).toNat, by have := restV_in a3 253402300800 (by omega); omega⟩
  have hin := restV_in a3 253402300800 (by omega)
  rw [en] at hin
  have n1 := hin.2
  have HRn : Hid (∀ W : World, Calls Tryz.prog 7 #[.int .i64 a3, .int .i64 253402300800] W fun e w' => e = .returned (.int .i64 (n : Int)) ∧ w' = W) := fun W => by rw [← en]; exact rest_is a3 253402300800 (by omega) (by omega) z3 W
  obtain ⟨mx, hmx⟩ : ∃ mx : ByteArray, mx = (⟨#[109, 97, 120, 45, 97, 103, 101, 61]⟩ : ByteArray) ++ ⟨(Lib.decDigits p).toArray⟩ := ⟨_, rfl⟩
  obtain ⟨my, hmy⟩ : ∃ my : ByteArray, my = mx ++ (⟨#[44, 32, 115, 45, 109, 97, 120, 97, 103, 101, 61]⟩ : ByteArray) ++ ⟨(Lib.decDigits q).toArray⟩ := ⟨_, rfl⟩
  have hpl := dec_short 5 p (by omega)
  have hql := dec_short 5 q (by omega)
  have lmx : mx.data.toList = dMA ++ 61 :: Lib.decDigits p := by rw [hmx, app_list]; simp [dMA]
  have lmy : my.data.toList = (dMA ++ 61 :: Lib.decDigits p) ++ (44 :: 32 :: (dSM ++ 61 :: Lib.decDigits q)) := by rw [hmy, app_list, app_list, lmx]; simp [dSM]
  have smx : mx.size ≤ 20 := by rw [← size_list, lmx]; simp [dMA]; omega
  have smy : my.size ≤ 50 := by rw [← size_list, lmy]; simp [dMA, dSM]; omega
  have sp : (⟨(Lib.decDigits p).toArray⟩ : ByteArray).size ≤ 6 := by rw [← size_list]; exact hpl
  have sq : (⟨(Lib.decDigits q).toArray⟩ : ByteArray).size ≤ 6 := by rw [← size_list]; exact hql
  have smx' := size_list mx
  have smy' := size_list my
  have HDP : Hid (∀ W : World, Calls Tryz.prog 8 #[.int .i64 (p : Int)] W fun e w' => e = .returned (.string ⟨(Lib.decDigits p).toArray⟩) ∧ Below W.heap.size W w') := fun W => rdigits_any p p (Nat.le_refl _) (by omega) W
  have HDQ : Hid (∀ W : World, Calls Tryz.prog 8 #[.int .i64 (q : Int)] W fun e w' => e = .returned (.string ⟨(Lib.decDigits q).toArray⟩) ∧ Below W.heap.size W w') := fun W => rdigits_any q q (Nat.le_refl _) (by omega) W
  obtain ⟨tp, htp⟩ : ∃ tp : ByteArray, tp = ⟨(Lib.decDigits p).toArray⟩ := ⟨_, rfl⟩
  obtain ⟨tq, htq⟩ : ∃ tq : ByteArray, tq = ⟨(Lib.decDigits q).toArray⟩ := ⟨_, rfl⟩
  rw [← htp] at hmx HDP sp
  rw [← htq] at hmy HDQ sq
  have HMX : Hid ((⟨#[109, 97, 120, 45, 97, 103, 101, 61]⟩ : ByteArray) ++ tp = mx) := hmx.symm
  have HMY : Hid (mx ++ (⟨#[44, 32, 115, 45, 109, 97, 120, 97, 103, 101, 61]⟩ : ByteArray) ++ tq = my) := hmy.symm
  have HLF : Hid (∀ (lv : Value) (ls : List Fld) (W : World), bulkF ls ≤ 4194304 → Fl W lv ls → DTabs W → Calls Tryz.prog 14 #[.agg #[v0, v1, v2, v3, .int .i64 c, v5, lv, v7, .int .i64 o, .int .i64 m, v10]] W fun e w' => e = .returned (.int .i64 (lifeP D ls c m)) ∧ Below W.heap.size W w') := fun lv ls W hl hW hM => flife_at D hD v0 v1 v2 v3 v5 v7 _ v10 lv ls c m W hW hl hM
  have HF0 : Hid (Fl w fv l0) := z0
  have HB0 : Hid (bulkF l0 ≤ 1048576) := b0
  have HT : Hid (DTabs w) := ht
  have HA0 : Hid (At11 w (w.alloc (.cells #[v0, v1, v2, v3, .int .i64 c, v5, fv, v7, .int .i64 o, .int .i64 m, v10] 28)) v0 v1 v2 v3 (.int .i64 c) v5 fv v7 (.int .i64 o) (.int .i64 m) v10) := At11.new w _ _ _ _ _ _ _ _ _ _ _ _
  obtain ⟨ad, cap, hv, hnc, hcm, hcx⟩ := id z0
  subst hv
  unfold maxLen at hcm
  clear hcx z0 b0 ht hmx hmy htp htq ep eq en z1 z2 z3 hip hiq hin
  go_enter Tryz.func4, Tryz.ntmps4
  go_wp2_with fail
  refine (anch_any D hD _ (HT.out.below HA0.out.2.2.2)).mono ?_
  rintro e w1 ⟨rfl, hb1⟩
  have HA1 : Hid (At11 w w1 v0 v1 v2 v3 (.int .i64 c) v5 (.slice ad l0.length cap) v7 (.int .i64 o) (.int .i64 m) v10) := HA0.out.below hb1
  clear hb1 HA0
  go_wp2_with fail
  refine (HRp.out _).mono ?_
  rintro e w2 ⟨rfl, rfl⟩
  go_wp2_with fail
  refine (HRq.out _).mono ?_
  rintro e w2 ⟨rfl, rfl⟩
  go_wp2_with fail
  refine (HRn.out _).mono ?_
  rintro e w2 ⟨rfl, rfl⟩
  go_wp2_with fail
  refine (dprint_at n _ (HT.out.below HA1.out.2.2.2)).mono ?_
  rintro e w3 ⟨d, cd, rfl, hd, hb3⟩
  have hd0 : cd = 0 ∧ IsDT d.data.toList n := by
    rcases hd with h | ⟨_, _, h⟩
    · exact h
    · omega
  clear hd
  obtain ⟨rfl, hdt⟩ := hd0
  have HDT : Hid (IsDT d.data.toList n) := hdt
  have hds : d.size = 29 := by rw [← size_list]; exact dt_len hdt
  have HA3 : Hid (At11 w w3 v0 v1 v2 v3 (.int .i64 c) v5 (.slice ad l0.length cap) v7 (.int .i64 o) (.int .i64 m) v10) := HA1.out.below hb3
  clear hb3 hdt HA1
  obtain ⟨L1, hL1⟩ : ∃ L, setS (⟨#[69, 120, 112, 105, 114, 101, 115]⟩ : ByteArray).data.toList d.data.toList l0 = L := ⟨_, rfl⟩
  obtain ⟨L2, hL2⟩ : ∃ L, setS (⟨#[67, 97, 99, 104, 101, 45, 67, 111, 110, 116, 114, 111, 108]⟩ : ByteArray).data.toList mx.data.toList L1 = L := ⟨_, rfl⟩
  obtain ⟨L3, hL3⟩ : ∃ L, setS (⟨#[67, 97, 99, 104, 101, 45, 67, 111, 110, 116, 114, 111, 108]⟩ : ByteArray).data.toList my.data.toList L1 = L := ⟨_, rfl⟩
  obtain ⟨L4, hL4⟩ : ∃ L, rest1 (⟨#[67, 97, 99, 104, 101, 45, 67, 111, 110, 116, 114, 111, 108]⟩ : ByteArray).data.toList L1 = L := ⟨_, rfl⟩
  obtain ⟨L5, hL5⟩ : ∃ L, setS (⟨#[68, 97, 116, 101]⟩ : ByteArray).data.toList d.data.toList L4 = L := ⟨_, rfl⟩
  have k1 : bulkF L1 ≤ 1048700 := by
    have h := bulk_set (⟨#[69, 120, 112, 105, 114, 101, 115]⟩ : ByteArray).data.toList d.data.toList l0
    have h2 : (⟨#[69, 120, 112, 105, 114, 101, 115]⟩ : ByteArray).data.toList.length = 7 := rfl
    rw [hL1, h2, size_list] at h
    have := HB0.out
    omega
  have k2 : bulkF L2 ≤ 1048800 := by
    have h := bulk_set (⟨#[67, 97, 99, 104, 101, 45, 67, 111, 110, 116, 114, 111, 108]⟩ : ByteArray).data.toList mx.data.toList L1
    have h2 : (⟨#[67, 97, 99, 104, 101, 45, 67, 111, 110, 116, 114, 111, 108]⟩ : ByteArray).data.toList.length = 13 := rfl
    rw [hL2, h2] at h
    omega
  have k3 : bulkF L3 ≤ 1048800 := by
    have h := bulk_set (⟨#[67, 97, 99, 104, 101, 45, 67, 111, 110, 116, 114, 111, 108]⟩ : ByteArray).data.toList my.data.toList L1
    have h2 : (⟨#[67, 97, 99, 104, 101, 45, 67, 111, 110, 116, 114, 111, 108]⟩ : ByteArray).data.toList.length = 13 := rfl
    rw [hL3, h2] at h
    omega
  have k4 : bulkF L4 ≤ 1048700 := by
    have h := bulk_drop (⟨#[67, 97, 99, 104, 101, 45, 67, 111, 110, 116, 114, 111, 108]⟩ : ByteArray).data.toList L1
    rw [hL4] at h
    omega
  have k5 : bulkF L5 ≤ 1048800 := by
    have h := bulk_set (⟨#[68, 97, 116, 101]⟩ : ByteArray).data.toList d.data.toList L4
    have h2 : (⟨#[68, 97, 116, 101]⟩ : ByteArray).data.toList.length = 4 := rfl
    rw [hL5, h2, size_list] at h
    omega
  obtain ⟨ne1, ne2, ne3, ne4, ne5⟩ := vals_names
  have e2 : lifeP D L2 c m = p := told_ma D L2 c m p (by omega) (by
    have h : vals L2 nCC = [mx.data.toList] := by rw [← hL2]; exact vals_set _ _ _
    unfold gv
    rw [h, jn_one, lmx])
  have e3 : lifeP D L3 c m = q := told_sm D L3 c m p q (by omega) (by omega) (by
    have h : vals L3 nCC = [my.data.toList] := by rw [← hL3]; exact vals_set _ _ _
    unfold gv
    rw [h, jn_one, lmy])
  have hL1' : setS nExp d.data.toList l0 = L1 := hL1
  have hL4' : rest1 nCC L1 = L4 := hL4
  have hL5' : setS nDate d.data.toList L4 = L5 := hL5
  have e5 : lifeP D L5 c m = 0 := by
    refine told_exp D hD L5 c m n d.data.toList HDT.out ?_ ?_ ?_
    · rw [← hL5', vals_set_other _ _ _ _ (show lower nCC ≠ lower nDate from ne5), ← hL4']; exact vals_rest _ _
    · rw [← hL5', vals_set_other _ _ _ _ (show lower nExp ≠ lower nDate from ne3), ← hL4', vals_rest' _ _ _ (show lower nExp ≠ lower nCC from ne1), ← hL1']; exact vals_set _ _ _
    · rw [← hL5']; exact vals_set _ _ _
  have HL1 : Hid (setS (⟨#[69, 120, 112, 105, 114, 101, 115]⟩ : ByteArray).data.toList d.data.toList l0 = L1) := hL1
  have HL2 : Hid (setS (⟨#[67, 97, 99, 104, 101, 45, 67, 111, 110, 116, 114, 111, 108]⟩ : ByteArray).data.toList mx.data.toList L1 = L2) := hL2
  have HL3 : Hid (setS (⟨#[67, 97, 99, 104, 101, 45, 67, 111, 110, 116, 114, 111, 108]⟩ : ByteArray).data.toList my.data.toList L1 = L3) := hL3
  have HL4 : Hid (rest1 (⟨#[67, 97, 99, 104, 101, 45, 67, 111, 110, 116, 114, 111, 108]⟩ : ByteArray).data.toList L1 = L4) := hL4
  have HL5 : Hid (setS (⟨#[68, 97, 116, 101]⟩ : ByteArray).data.toList d.data.toList L4 = L5) := hL5
  have HE2 : Hid (lifeP D L2 c m = p) := e2
  have HE3 : Hid (lifeP D L3 c m = q) := e3
  have HE5 : Hid (lifeP D L5 c m = 0) := e5
  have HW0 : Hid (Wide l0) := wide_fr l0 (by have := HB0.out; omega)
  have HW1 : Hid (Wide L1) := wide_fr L1 (by omega)
  have HW4 : Hid (Wide L4) := wide_fr L4 (by omega)
  clear hL1 hL2 hL3 hL4 hL5 hL1' hL4' hL5' ne1 ne2 ne3 ne4 ne5 lmx lmy e2 e3 e5 hpl hql
  obtain ⟨⟨c0, c1, c2, c3, c4, c5, c6, c7, c8, c9, c10⟩, hfz, hbs, _⟩ := HA3.out
  go_wp2_with fail
  refine (set_any _ l0 _ d _ (HF0.out.below HA3.out.2.2.2) HW0.out (by decide) (by omega)).mono ?_
  rintro e w4 ⟨r4, rfl, hown4, hb4⟩
  rw [HL1.out] at hown4
  have HA4 : Hid (At11 w w4 v0 v1 v2 v3 (.int .i64 c) v5 (.slice ad l0.length cap) v7 (.int .i64 o) (.int .i64 m) v10) := HA3.out.below hb4
  have HO4 : Hid (w4.ownsRow (w.heap.size + 1) 58 2 r4 L1.length (flds L1)) := own_le hown4 HA3.out.2.2.1
  obtain ⟨ad4, cap4, hv4, hcm4, hnc4, _⟩ := own_form2 hown4
  subst hv4
  clear hb4 hown4 HA3
  clear c0 c1 c2 c3 c4 c5 c6 c7 c8 c9 c10 hfz hbs
  go_wp2_with fail
  refine (HDP.out _).mono ?_
  rintro e w5 ⟨rfl, hb5⟩
  have HA5 : Hid (At11 w w5 v0 v1 v2 v3 (.int .i64 c) v5 (.slice ad l0.length cap) v7 (.int .i64 o) (.int .i64 m) v10) := HA4.out.below hb5
  have HO5 : Hid (w5.ownsRow (w.heap.size + 1) 58 2 (.slice ad4 L1.length cap4) L1.length (flds L1)) := own_below3 HO4.out hb5
  clear hb5 HA4 HO4
  go_wp2_with fail
  try rw [HMX.out]
  refine (set_any _ L1 _ mx _ (Fl.own HO5.out) HW1.out (by decide) (by omega)).mono ?_
  rintro e w6 ⟨r6, rfl, hown6, hb6⟩
  rw [HL2.out] at hown6
  have HA6 : Hid (At11 w w6 v0 v1 v2 v3 (.int .i64 c) v5 (.slice ad l0.length cap) v7 (.int .i64 o) (.int .i64 m) v10) := HA5.out.below hb6
  have HO6 : Hid (w6.ownsRow (w.heap.size + 1) 58 2 (.slice ad4 L1.length cap4) L1.length (flds L1)) := own_below3 HO5.out hb6
  have HR6 : Hid (w6.ownsRow (w.heap.size + 1) 58 2 r6 L2.length (flds L2)) := own_le hown6 HA5.out.2.2.1
  obtain ⟨ad6, cap6, hv6, hcm6, hnc6, _⟩ := own_form2 hown6
  subst hv6
  clear hb6 hown6 HA5 HO5
  obtain ⟨⟨c0, c1, c2, c3, c4, c5, c6, c7, c8, c9, c10⟩, hfz, hbs, _⟩ := HA6.out
  go_wp2_with fail
  clear c0 c1 c2 c3 c4 c5 c6 c7 c8 c9 c10 hfz hbs
  obtain ⟨w7, hw7⟩ : ∃ w7, w7 = w6.setCell ⟨w.heap.size, 6, none⟩ (.slice ad6 L2.length cap6) := ⟨_, rfl⟩
  have HA7 : Hid (At11 w w7 v0 v1 v2 v3 (.int .i64 c) v5 (.slice ad6 L2.length cap6) v7 (.int .i64 o) (.int .i64 m) v10) := by rw [hw7]; exact HA6.out.set _
  have HO7 : Hid (w7.ownsRow (w.heap.size + 1) 58 2 (.slice ad4 L1.length cap4) L1.length (flds L1)) := by rw [hw7]; exact ownsRow_setCell_below HO6.out (Nat.lt_succ_self _) _
  have HR7 : Hid (w7.ownsRow (w.heap.size + 1) 58 2 (.slice ad6 L2.length cap6) L2.length (flds L2)) := by rw [hw7]; exact ownsRow_setCell_below HR6.out (Nat.lt_succ_self _) _
  try rw [← hw7]
  clear hw7 HA6 HO6 HR6
  obtain ⟨⟨c0, c1, c2, c3, c4, c5, c6, c7, c8, c9, c10⟩, hfz, hbs, _⟩ := HA7.out
  go_wp2_with fail
  refine (HLF.out _ L2 _ (by omega) (Fl.own HR7.out) (HT.out.below HA7.out.2.2.2)).mono ?_
  rintro e w8 ⟨rfl, hb8⟩
  rw [HE2.out]
  have HA8 : Hid (At11 w w8 v0 v1 v2 v3 (.int .i64 c) v5 (.slice ad6 L2.length cap6) v7 (.int .i64 o) (.int .i64 m) v10) := HA7.out.below hb8
  have HO8 : Hid (w8.ownsRow (w.heap.size + 1) 58 2 (.slice ad4 L1.length cap4) L1.length (flds L1)) := own_below3 HO7.out hb8
  clear hb8 HA7 HO7 HR7
  clear c0 c1 c2 c3 c4 c5 c6 c7 c8 c9 c10 hfz hbs
  go_wp2_with fail
  refine (HDQ.out _).mono ?_
  rintro e w9 ⟨rfl, hb9⟩
  have HA9 : Hid (At11 w w9 v0 v1 v2 v3 (.int .i64 c) v5 (.slice ad6 L2.length cap6) v7 (.int .i64 o) (.int .i64 m) v10) := HA8.out.below hb9
  have HO9 : Hid (w9.ownsRow (w.heap.size + 1) 58 2 (.slice ad4 L1.length cap4) L1.length (flds L1)) := own_below3 HO8.out hb9
  clear hb9 HA8 HO8
  go_wp2_with fail
  try rw [HMY.out]
  refine (set_any _ L1 _ my _ (Fl.own HO9.out) HW1.out (by decide) (by omega)).mono ?_
  rintro e w10 ⟨r10, rfl, hown10, hb10⟩
  rw [HL3.out] at hown10
  have HA10 : Hid (At11 w w10 v0 v1 v2 v3 (.int .i64 c) v5 (.slice ad6 L2.length cap6) v7 (.int .i64 o) (.int .i64 m) v10) := HA9.out.below hb10
  have HO10 : Hid (w10.ownsRow (w.heap.size + 1) 58 2 (.slice ad4 L1.length cap4) L1.length (flds L1)) := own_below3 HO9.out hb10
  have HR10 : Hid (w10.ownsRow (w.heap.size + 1) 58 2 r10 L3.length (flds L3)) := own_le hown10 HA9.out.2.2.1
  obtain ⟨ad10, cap10, hv10, hcm10, hnc10, _⟩ := own_form2 hown10
  subst hv10
  clear hb10 hown10 HA9 HO9
  obtain ⟨⟨c0, c1, c2, c3, c4, c5, c6, c7, c8, c9, c10⟩, hfz, hbs, _⟩ := HA10.out
  go_wp2_with fail
  clear c0 c1 c2 c3 c4 c5 c6 c7 c8 c9 c10 hfz hbs
  obtain ⟨w11, hw11⟩ : ∃ w11, w11 = w10.setCell ⟨w.heap.size, 6, none⟩ (.slice ad10 L3.length cap10) := ⟨_, rfl⟩
  have HA11 : Hid (At11 w w11 v0 v1 v2 v3 (.int .i64 c) v5 (.slice ad10 L3.length cap10) v7 (.int .i64 o) (.int .i64 m) v10) := by rw [hw11]; exact HA10.out.set _
  have HO11 : Hid (w11.ownsRow (w.heap.size + 1) 58 2 (.slice ad4 L1.length cap4) L1.length (flds L1)) := by rw [hw11]; exact ownsRow_setCell_below HO10.out (Nat.lt_succ_self _) _
  have HR11 : Hid (w11.ownsRow (w.heap.size + 1) 58 2 (.slice ad10 L3.length cap10) L3.length (flds L3)) := by rw [hw11]; exact ownsRow_setCell_below HR10.out (Nat.lt_succ_self _) _
  try rw [← hw11]
  clear hw11 HA10 HO10 HR10
  obtain ⟨⟨c0, c1, c2, c3, c4, c5, c6, c7, c8, c9, c10⟩, hfz, hbs, _⟩ := HA11.out
  go_wp2_with fail
  refine (HLF.out _ L3 _ (by omega) (Fl.own HR11.out) (HT.out.below HA11.out.2.2.2)).mono ?_
  rintro e w12 ⟨rfl, hb12⟩
  rw [HE3.out]
  have HA12 : Hid (At11 w w12 v0 v1 v2 v3 (.int .i64 c) v5 (.slice ad10 L3.length cap10) v7 (.int .i64 o) (.int .i64 m) v10) := HA11.out.below hb12
  have HO12 : Hid (w12.ownsRow (w.heap.size + 1) 58 2 (.slice ad4 L1.length cap4) L1.length (flds L1)) := own_below3 HO11.out hb12
  clear hb12 HA11 HO11 HR11
  clear c0 c1 c2 c3 c4 c5 c6 c7 c8 c9 c10 hfz hbs
  go_wp2_with fail
  refine (drop_any _ L1 _ _ (Fl.own HO12.out) HW1.out (by decide)).mono ?_
  rintro e w13 ⟨r13, rfl, hown13, hb13⟩
  rw [HL4.out] at hown13
  have HA13 : Hid (At11 w w13 v0 v1 v2 v3 (.int .i64 c) v5 (.slice ad10 L3.length cap10) v7 (.int .i64 o) (.int .i64 m) v10) := HA12.out.below hb13
  have HF13 : Hid (Fl w13 r13 L4) := Fl.own hown13
  obtain ⟨ad13, cap13, hv13, hcm13, hnc13, _⟩ := own_form2 hown13
  subst hv13
  clear hb13 hown13 HA12 HO12
  go_wp2_with fail
  refine (set_any _ L4 _ d _ HF13.out HW4.out (by decide) (by omega)).mono ?_
  rintro e w14 ⟨r14, rfl, hown14, hb14⟩
  rw [HL5.out] at hown14
  have HA14 : Hid (At11 w w14 v0 v1 v2 v3 (.int .i64 c) v5 (.slice ad10 L3.length cap10) v7 (.int .i64 o) (.int .i64 m) v10) := HA13.out.below hb14
  have HR14 : Hid (w14.ownsRow (w.heap.size + 1) 58 2 r14 L5.length (flds L5)) := own_le hown14 HA13.out.2.2.1
  obtain ⟨ad14, cap14, hv14, hcm14, hnc14, _⟩ := own_form2 hown14
  subst hv14
  clear hb14 hown14 HA13 HF13
  obtain ⟨⟨c0, c1, c2, c3, c4, c5, c6, c7, c8, c9, c10⟩, hfz, hbs, _⟩ := HA14.out
  go_upto_region 14 with fail
  clear c0 c1 c2 c3 c4 c5 c6 c7 c8 c9 c10 hfz hbs
  obtain ⟨w15, hw15⟩ : ∃ w15, w15 = w14.setCell ⟨w.heap.size, 6, none⟩ (.slice ad14 L5.length cap14) := ⟨_, rfl⟩
  have HA15 : Hid (At11 w w15 v0 v1 v2 v3 (.int .i64 c) v5 (.slice ad14 L5.length cap14) v7 (.int .i64 o) (.int .i64 m) v10) := by rw [hw15]; exact HA14.out.set _
  have HR15 : Hid (w15.ownsRow (w.heap.size + 1) 58 2 (.slice ad14 L5.length cap14) L5.length (flds L5)) := by rw [hw15]; exact ownsRow_setCell_below HR14.out (Nat.lt_succ_self _) _
  try rw [← hw15]
  clear hw15 HA14 HR14
  obtain ⟨⟨c0, c1, c2, c3, c4, c5, c6, c7, c8, c9, c10⟩, hfz, hbs, _⟩ := HA15.out
  go_wp2_with fail
  refine (HLF.out _ L5 _ (by omega) (Fl.own HR15.out) (HT.out.below HA15.out.2.2.2)).mono ?_
  rintro e w16 ⟨rfl, hb16⟩
  rw [HE5.out]
  have HB16 : Hid (Below w.heap.size w w16) := (HA15.out.below hb16).2.2.2
  clear hb16
  clear c0 c1 c2 c3 c4 c5 c6 c7 c8 c9 c10 hfz hbs
  go_wp2_with fail
  go_ret
  exact ⟨by first | rfl | simp, HB16.out⟩
end Go.Proofs.YtigbjhkkbgdkcacGreatDoor
