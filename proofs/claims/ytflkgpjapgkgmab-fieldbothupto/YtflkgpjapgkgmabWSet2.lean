/-
  What Set of package field computes; lists and texts are no longer than Go allows.
-/
import Derived.Test.YtflkgpjapgkgmabWSet
namespace Go.Proofs.Ytflkgpjapgkgmab
open Go.RowKit

theorem place (s : List UInt8) (ls : List Fld) : (∀ x ∈ ls, nm s x = false) ∨ ∃ (k : Nat) (h : k < ls.length), nm s ls[k] = true ∧ ∀ x ∈ ls.take k, nm s x = false := by
  induction ls with
  | nil => exact .inl fun x hx => by cases hx
  | cons a r ih =>
    cases ha : nm s a
    · rcases ih with h | ⟨k, hk, h1, h2⟩
      · exact .inl fun x hx => by
          rcases List.mem_cons.1 hx with rfl | hx
          · exact ha
          · exact h x hx
      · refine .inr ⟨k + 1, by simp; omega, by simpa using h1, fun x hx => ?_⟩
        rw [List.take_succ_cons] at hx
        rcases List.mem_cons.1 hx with rfl | hx
        · exact ha
        · exact h2 x hx
    · exact .inr ⟨0, by simp, by simpa using ha, fun x hx => by simp at hx⟩

set_option maxHeartbeats 4000000 in
set_option maxRecDepth 100000 in
theorem set_any (v : Value) (ls : List Fld) (s u : ByteArray) (w : World) (hf : Fl w v ls) (hl : Wide ls) (hs : s.size ≤ 140737488351232) (hu : u.size ≤ 140737488351232) :
    Calls Try.prog 6 #[v, .string s, .string u] w fun e w' => ∃ v', e = .returned v' ∧ w'.ownsRow w.heap.size 29 2 v' (setS s.data.toList u.data.toList ls).length (flds (setS s.data.toList u.data.toList ls)) ∧ Below w.heap.size w w' := by
  obtain ⟨i0, hi, hz0, hz1, hz2⟩ := info_parts infoF
  obtain ⟨ad, cap, hv, hcap, hcm, hcx⟩ := id hf
  clear hcx
  subst hv
  have HF : Hid (Fl w (.slice ad ls.length cap) ls) := hf
  have HL : Hid (Wide ls) := hl
  have hll := hl.2
  clear hf hl
  unfold maxLen at hcm
  rcases place s.data.toList ls with hnone | ⟨k, hkk, h1, h2⟩
  · have HI : Hid (∀ x ∈ ls, nm s.data.toList x = false) := hnone
    clear hnone
    have hk : ls.length ≤ ls.length := by omega
    have HSET : Hid (setS s.data.toList u.data.toList ls = rest1 s.data.toList (ls.take ls.length) ++ [(s.data.toList, u.data.toList)] ++ rest1 s.data.toList (ls.drop ls.length)) := setS_parts _ _ ls ls.length hk (by rw [List.take_length]; exact HI.out) (fun h => absurd h (Nat.lt_irrefl _))
    have hl1 : (rest1 s.data.toList (ls.take ls.length)).length ≤ ls.length := by
      have h1 := List.length_filter_le (fun x => !nm s.data.toList x) (ls.take ls.length)
      have h2 := List.length_take_le ls.length ls
      unfold rest1; omega
    have hl2 : (rest1 s.data.toList (ls.drop ls.length)).length ≤ ls.length - ls.length := by
      have h1 := List.length_filter_le (fun x => !nm s.data.toList x) (ls.drop ls.length)
      rw [List.length_drop] at h1
      unfold rest1; exact h1
    obtain ⟨A, hA⟩ : ∃ A, A = rest1 s.data.toList (ls.take ls.length) := ⟨_, rfl⟩
    obtain ⟨B, hB⟩ : ∃ B, B = rest1 s.data.toList (ls.drop ls.length) := ⟨_, rfl⟩
    rw [← hA] at hl1
    rw [← hB] at hl2
    have HAA : Hid (rest1 s.data.toList (ls.take ls.length) = A) := hA.symm
    have HBB : Hid (rest1 s.data.toList (ls.drop ls.length) = B) := hB.symm
    have hsh : ∀ W : World, (Instr.slice 22 (.slice ad ls.length cap) none (some (.int .i64 (ls.length : Int))) none).run Try.prog W = .ok (.slice ad ls.length cap) W := fun W => slice_high ad ls.length cap ls.length (by omega) W
    obtain ⟨ad2, had2⟩ : ∃ ad2, ad2 = if cap = ls.length then ad else ad.map (·.add (ls.length * 2)) := ⟨_, rfl⟩
    obtain ⟨m2, hm2⟩ : ∃ m2, m2 = ls.length - ls.length := ⟨_, rfl⟩
    obtain ⟨c2, hc2⟩ : ∃ c2, c2 = cap - ls.length := ⟨_, rfl⟩
    have hsl : ∀ W : World, (Instr.slice 22 (.slice ad ls.length cap) (some (.int .i64 (ls.length : Int))) none none).run Try.prog W = .ok (.slice ad2 m2 c2) W := fun W => by rw [had2, hm2, hc2]; exact slice_low ad ls.length cap ls.length hk W
    have HD2 : Hid ((.slice (if cap = ls.length then ad else ad.map (·.add (ls.length * 2))) (ls.length - ls.length) (cap - ls.length) : Value) = .slice ad2 m2 c2) := by show _ = _; rw [had2, hm2, hc2]
    clear hA hB had2 hm2 hc2
    have hkc : (ls.length : Int) ≤ (cap : Int) := by omega
    have hkl : (ls.length : Int) ≤ (ls.length : Int) := by omega
    go_enter Try.func6, Try.ntmps6
    go_wp2_with fail
    refine (named_any s _ hs).mono ?_
    rintro e w1 ⟨f1, rfl, hp1, hb1⟩
    have HP1 : Hid (Pred w1 f1 (fun x => lower x.1 == lower s.data.toList)) := hp1
    clear hp1
    go_wp2_with fail
    refine (idx_any _ _ ls _ (-1) (.inl ⟨rfl, HI.out⟩) _ (HF.out.below hb1) HL.out HP1.out).mono ?_
    rintro e w2 ⟨rfl, hb2⟩
    have hw2 := hb1.trans (hb2.mono hb1.size)
    clear hb1 hb2 HP1
    go_wp2_with fail
    refine (named_any s _ hs).mono ?_
    rintro e w3 ⟨f3, rfl, hp3, hb3⟩
    have HP3 : Hid (Pred w3 f3 (fun x => lower x.1 == lower s.data.toList)) := hp3
    have hw3 := hw2.trans (hb3.mono hw2.size)
    clear hp3 hb3 hw2
    go_wp2_with fail
    refine (but_any f3 _ _ HP3.out).mono ?_
    rintro e w4 ⟨f4, rfl, hp4, hb4⟩
    have HP4 : Hid (Pred w4 f4 (fun x => !(lower x.1 == lower s.data.toList))) := hp4
    have hw4 := hw3.trans (hb4.mono hw3.size)
    have hsz4 := hw4.size
    have HF4 : Hid (Fl w4 (.slice ad ls.length cap) ls) := HF.out.below hw4
    clear hp4 hb4 HP3 hw3
    go_wp2_with fail
    refine (pick_any _ _ (ls.take ls.length) _ _ (HF4.out.take ls.length hk) (HL.out.take ls.length) HP4.out).mono ?_
    rintro e w5 ⟨v5, rfl, hown5, hb5⟩
    have hown5' : w5.ownsRow w4.heap.size 29 2 v5 A.length (flds A) := by rw [← HAA.out]; exact hown5
    have hsz5 := hb5.size
    clear hown5
    go_wp2_with fail
    refine (fclone_any s u _ (by omega) (by omega)).mono ?_
    rintro e w6 ⟨rfl, hb6⟩
    have hown6 := own_below3 hown5' hb6
    have hb46 := hb5.trans (hb6.mono hsz5)
    have hsz6 := hb46.size
    clear hown5' hb5 hb6 hsz5
    go_wp2_with (at_builtin; refine wpList_append_own _ rfl _ _ 22 rfl w4.heap.size 29 i0 (.agg #[.string ⟨#[]⟩, .string ⟨#[]⟩]) 2 32 Try.underlying22 hi hz0 hz1 hz2 rfl (by decide) _ _ _ rfl (hown6.alloc _) ⟨w6.heap.size, 0, none⟩ 1 1 [.string s, .string u] rfl rfl ?c1 ?c2 ?c3 ?c4 ?c5 ?_)
    case c1 =>
      intro j z h
      match j, h with
      | 0, h => simp at h; subst h; simp [Addr.add]
      | 1, h => simp at h; subst h; simp [Addr.add]
    case c2 => intro z hx; simp at hx; rcases hx with rfl | rfl <;> rfl
    case c3 => unfold maxLen; omega
    case c4 => omega
    case c5 => simp; omega
    · intro v7 w7 hown7' hgrow _
      have hb47 : Below w4.heap.size w4 w7 := (hb46.alloc hsz6 _).grown hgrow (by simp; omega) (fun b hb => ((hown6.alloc (.cells #[.string s, .string u] 29)).lt b hb).1)
      have hown7 : w7.ownsRow w4.heap.size 29 2 v7 (A ++ [(s.data.toList, u.data.toList)]).length (flds (A ++ [(s.data.toList, u.data.toList)])) := by
        rw [← flds_snoc, List.length_append]; exact hown7'
      have hsz7 := hb47.size
      have HP7 : Hid (Pred w7 f4 (fun x => !(lower x.1 == lower s.data.toList))) := HP4.out.later hb47
      have HF7 : Hid (Fl w7 (.slice ad2 m2 c2) (ls.drop ls.length)) := by
        have := (HF4.out.below hb47).drop ls.length hk
        rw [HD2.out] at this
        exact this
      clear hown7' hgrow hown6 hb46 hsz6
      go_wp2_with fail
      refine (pick_any _ _ (ls.drop ls.length) _ _ HF7.out (HL.out.drop ls.length) HP7.out).mono ?_
      rintro e w8 ⟨v8, rfl, hown8, hb8⟩
      have hown8' : w8.ownsRow w7.heap.size 29 2 v8 B.length (flds B) := by rw [← HBB.out]; exact hown8
      have hown78 := own_below3 hown7 hb8
      have hb48 := hb47.trans (hb8.mono hsz7)
      have hsz8 := hb48.size
      have hw8 := hw4.trans (hb48.mono hsz4)
      have hlA : (A ++ [(s.data.toList, u.data.toList)]).length = A.length + 1 := by simp
      have HLA : Hid ((A ++ [(s.data.toList, u.data.toList)]).length = A.length + 1) := hlA
      clear hown8 hown7 hb8 hb47 hlA
      by_cases hB0 : B.length = 0
      · have hBn := List.eq_nil_of_length_eq_zero hB0
        have HBN : Hid (B = []) := hBn
        rcases id hown8'.2 with ⟨hvn, _⟩ | ⟨g, cp, cur, hvb, hgB, hgh, hgn, hgc, _, _⟩
        · subst hvn
          clear hown8' hBn hB0
          go_wp2_with (at_builtin; refine wpList_append_own_none rfl _ _ 22 rfl w4.heap.size 29 i0 2 Try.underlying22 hi _ _ _ rfl hown78 rfl ?_)
          go_ret
          refine ⟨_, rfl, ?_, hw8⟩
          rw [HSET.out, HAA.out, HBB.out, HBN.out, List.append_nil]
          exact own_le hown78 hsz4
        · subst hvb
          subst hBn
          clear hgh hB0
          go_wp2_with (at_builtin; refine wpList_append_own _ rfl _ _ 22 rfl w4.heap.size 29 i0 (.agg #[.string ⟨#[]⟩, .string ⟨#[]⟩]) 2 32 Try.underlying22 hi hz0 hz1 hz2 rfl (by decide) _ _ _ rfl hown78 ⟨g, 0, none⟩ 0 cp [] rfl rfl (fun j z h => by simp at h) (fun z hz => by cases hz) ?c3 ?c4 ?c5 ?_)
          case c3 => rw [HLA.out]; unfold maxLen; omega
          case c4 => rw [HLA.out]; omega
          case c5 => omega
          · intro v9 w9 hown9 hgrow9 _
            have hw9 : Below w.heap.size w w9 := hw8.grown hgrow9 (by omega) (fun b hb => Nat.le_trans hsz4 (hown78.lt b hb).1)
            have HO : Hid (w9.ownsRow w.heap.size 29 2 v9 (setS s.data.toList u.data.toList ls).length (flds (setS s.data.toList u.data.toList ls))) := by
              show World.ownsRow _ _ _ _ _ _ _
              rw [HSET.out, HAA.out, HBB.out, List.append_nil, HLA.out]
              have e := own_le hown9 hsz4
              exact e
            clear hown9 hgrow9 hown78 hown8'
            go_wp2_with fail
            go_ret
            exact ⟨_, rfl, HO.out, hw9⟩
      · rcases id hown8'.2 with ⟨hvn, hn0⟩ | ⟨g, cp, cur, hvb, hgB, hgh, hgn, hgc, _, _⟩
        · exact absurd hn0 hB0
        · subst hvb
          clear hgh
          go_wp2_with (at_builtin; refine wpList_append_own _ rfl _ _ 22 rfl w4.heap.size 29 i0 (.agg #[.string ⟨#[]⟩, .string ⟨#[]⟩]) 2 32 Try.underlying22 hi hz0 hz1 hz2 rfl (by decide) _ _ _ rfl hown78 ⟨g, 0, none⟩ B.length cp (flds B) rfl (flds_length B) ?c1 ?c2 ?c3 ?c4 ?c5 ?_)
          case c1 => exact hown8'.cells rfl
          case c2 => exact flds_one B
          case c3 => rw [HLA.out]; unfold maxLen; omega
          case c4 => rw [HLA.out]; omega
          case c5 => omega
          · intro v9 w9 hown9 hgrow9 _
            have hw9 : Below w.heap.size w w9 := hw8.grown hgrow9 (by omega) (fun b hb => Nat.le_trans hsz4 (hown78.lt b hb).1)
            have HO : Hid (w9.ownsRow w.heap.size 29 2 v9 (setS s.data.toList u.data.toList ls).length (flds (setS s.data.toList u.data.toList ls))) := by
              show World.ownsRow _ _ _ _ _ _ _
              rw [HSET.out, HAA.out, HBB.out, flds_app, List.length_append, HLA.out]
              exact own_le hown9 hsz4
            clear hown9 hgrow9 hown78 hown8'
            go_wp2_with fail
            go_ret
            exact ⟨_, rfl, HO.out, hw9⟩
  · have HI : Hid (∃ h : k < ls.length, nm s.data.toList ls[k] = true ∧ ∀ x ∈ ls.take k, nm s.data.toList x = false) := ⟨hkk, h1, h2⟩
    clear h1 h2
    have hkn : decide ((k : Int) < 0) = false := decide_eq_false (by omega)
    have hk : k ≤ ls.length := by omega
    have HSET : Hid (setS s.data.toList u.data.toList ls = rest1 s.data.toList (ls.take k) ++ [(s.data.toList, u.data.toList)] ++ rest1 s.data.toList (ls.drop k)) := setS_parts _ _ ls k hk (HI.out).choose_spec.2 (fun h => ⟨ls[k], ls.drop (k + 1), List.drop_eq_getElem_cons h, (HI.out).choose_spec.1⟩)
    have hl1 : (rest1 s.data.toList (ls.take k)).length ≤ k := by
      have h1 := List.length_filter_le (fun x => !nm s.data.toList x) (ls.take k)
      have h2 := List.length_take_le k ls
      unfold rest1; omega
    have hl2 : (rest1 s.data.toList (ls.drop k)).length ≤ ls.length - k := by
      have h1 := List.length_filter_le (fun x => !nm s.data.toList x) (ls.drop k)
      rw [List.length_drop] at h1
      unfold rest1; exact h1
    obtain ⟨A, hA⟩ : ∃ A, A = rest1 s.data.toList (ls.take k) := ⟨_, rfl⟩
    obtain ⟨B, hB⟩ : ∃ B, B = rest1 s.data.toList (ls.drop k) := ⟨_, rfl⟩
    rw [← hA] at hl1
    rw [← hB] at hl2
    have HAA : Hid (rest1 s.data.toList (ls.take k) = A) := hA.symm
    have HBB : Hid (rest1 s.data.toList (ls.drop k) = B) := hB.symm
    have hsh : ∀ W : World, (Instr.slice 22 (.slice ad ls.length cap) none (some (.int .i64 (k : Int))) none).run Try.prog W = .ok (.slice ad k cap) W := fun W => slice_high ad ls.length cap k (by omega) W
    obtain ⟨ad2, had2⟩ : ∃ ad2, ad2 = if cap = k then ad else ad.map (·.add (k * 2)) := ⟨_, rfl⟩
    obtain ⟨m2, hm2⟩ : ∃ m2, m2 = ls.length - k := ⟨_, rfl⟩
    obtain ⟨c2, hc2⟩ : ∃ c2, c2 = cap - k := ⟨_, rfl⟩
    have hsl : ∀ W : World, (Instr.slice 22 (.slice ad ls.length cap) (some (.int .i64 (k : Int))) none none).run Try.prog W = .ok (.slice ad2 m2 c2) W := fun W => by rw [had2, hm2, hc2]; exact slice_low ad ls.length cap k hk W
    have HD2 : Hid ((.slice (if cap = k then ad else ad.map (·.add (k * 2))) (ls.length - k) (cap - k) : Value) = .slice ad2 m2 c2) := by show _ = _; rw [had2, hm2, hc2]
    clear hA hB had2 hm2 hc2
    have hkc : (k : Int) ≤ (cap : Int) := by omega
    have hkl : (k : Int) ≤ (ls.length : Int) := by omega
    go_enter Try.func6, Try.ntmps6
    go_wp2_with fail
    refine (named_any s _ hs).mono ?_
    rintro e w1 ⟨f1, rfl, hp1, hb1⟩
    have HP1 : Hid (Pred w1 f1 (fun x => lower x.1 == lower s.data.toList)) := hp1
    clear hp1
    go_wp2_with fail
    refine (idx_any _ _ ls _ (k : Int) (.inr ⟨k, (HI.out).choose, rfl, (HI.out).choose_spec.1, (HI.out).choose_spec.2⟩) _ (HF.out.below hb1) HL.out HP1.out).mono ?_
    rintro e w2 ⟨rfl, hb2⟩
    have hw2 := hb1.trans (hb2.mono hb1.size)
    clear hb1 hb2 HP1
    go_wp2_with fail
    refine (named_any s _ hs).mono ?_
    rintro e w3 ⟨f3, rfl, hp3, hb3⟩
    have HP3 : Hid (Pred w3 f3 (fun x => lower x.1 == lower s.data.toList)) := hp3
    have hw3 := hw2.trans (hb3.mono hw2.size)
    clear hp3 hb3 hw2
    go_wp2_with fail
    refine (but_any f3 _ _ HP3.out).mono ?_
    rintro e w4 ⟨f4, rfl, hp4, hb4⟩
    have HP4 : Hid (Pred w4 f4 (fun x => !(lower x.1 == lower s.data.toList))) := hp4
    have hw4 := hw3.trans (hb4.mono hw3.size)
    have hsz4 := hw4.size
    have HF4 : Hid (Fl w4 (.slice ad ls.length cap) ls) := HF.out.below hw4
    clear hp4 hb4 HP3 hw3
    go_wp2_with fail
    refine (pick_any _ _ (ls.take k) _ _ (HF4.out.take k hk) (HL.out.take k) HP4.out).mono ?_
    rintro e w5 ⟨v5, rfl, hown5, hb5⟩
    have hown5' : w5.ownsRow w4.heap.size 29 2 v5 A.length (flds A) := by rw [← HAA.out]; exact hown5
    have hsz5 := hb5.size
    clear hown5
    go_wp2_with fail
    refine (fclone_any s u _ (by omega) (by omega)).mono ?_
    rintro e w6 ⟨rfl, hb6⟩
    have hown6 := own_below3 hown5' hb6
    have hb46 := hb5.trans (hb6.mono hsz5)
    have hsz6 := hb46.size
    clear hown5' hb5 hb6 hsz5
    go_wp2_with (at_builtin; refine wpList_append_own _ rfl _ _ 22 rfl w4.heap.size 29 i0 (.agg #[.string ⟨#[]⟩, .string ⟨#[]⟩]) 2 32 Try.underlying22 hi hz0 hz1 hz2 rfl (by decide) _ _ _ rfl (hown6.alloc _) ⟨w6.heap.size, 0, none⟩ 1 1 [.string s, .string u] rfl rfl ?c1 ?c2 ?c3 ?c4 ?c5 ?_)
    case c1 =>
      intro j z h
      match j, h with
      | 0, h => simp at h; subst h; simp [Addr.add]
      | 1, h => simp at h; subst h; simp [Addr.add]
    case c2 => intro z hx; simp at hx; rcases hx with rfl | rfl <;> rfl
    case c3 => unfold maxLen; omega
    case c4 => omega
    case c5 => simp; omega
    · intro v7 w7 hown7' hgrow _
      have hb47 : Below w4.heap.size w4 w7 := (hb46.alloc hsz6 _).grown hgrow (by simp; omega) (fun b hb => ((hown6.alloc (.cells #[.string s, .string u] 29)).lt b hb).1)
      have hown7 : w7.ownsRow w4.heap.size 29 2 v7 (A ++ [(s.data.toList, u.data.toList)]).length (flds (A ++ [(s.data.toList, u.data.toList)])) := by
        rw [← flds_snoc, List.length_append]; exact hown7'
      have hsz7 := hb47.size
      have HP7 : Hid (Pred w7 f4 (fun x => !(lower x.1 == lower s.data.toList))) := HP4.out.later hb47
      have HF7 : Hid (Fl w7 (.slice ad2 m2 c2) (ls.drop k)) := by
        have := (HF4.out.below hb47).drop k hk
        rw [HD2.out] at this
        exact this
      clear hown7' hgrow hown6 hb46 hsz6
      go_wp2_with fail
      refine (pick_any _ _ (ls.drop k) _ _ HF7.out (HL.out.drop k) HP7.out).mono ?_
      rintro e w8 ⟨v8, rfl, hown8, hb8⟩
      have hown8' : w8.ownsRow w7.heap.size 29 2 v8 B.length (flds B) := by rw [← HBB.out]; exact hown8
      have hown78 := own_below3 hown7 hb8
      have hb48 := hb47.trans (hb8.mono hsz7)
      have hsz8 := hb48.size
      have hw8 := hw4.trans (hb48.mono hsz4)
      have hlA : (A ++ [(s.data.toList, u.data.toList)]).length = A.length + 1 := by simp
      have HLA : Hid ((A ++ [(s.data.toList, u.data.toList)]).length = A.length + 1) := hlA
      clear hown8 hown7 hb8 hb47 hlA
      by_cases hB0 : B.length = 0
      · have hBn := List.eq_nil_of_length_eq_zero hB0
        have HBN : Hid (B = []) := hBn
        rcases id hown8'.2 with ⟨hvn, _⟩ | ⟨g, cp, cur, hvb, hgB, hgh, hgn, hgc, _, _⟩
        · subst hvn
          clear hown8' hBn hB0
          go_wp2_with (at_builtin; refine wpList_append_own_none rfl _ _ 22 rfl w4.heap.size 29 i0 2 Try.underlying22 hi _ _ _ rfl hown78 rfl ?_)
          go_ret
          refine ⟨_, rfl, ?_, hw8⟩
          rw [HSET.out, HAA.out, HBB.out, HBN.out, List.append_nil]
          exact own_le hown78 hsz4
        · subst hvb
          subst hBn
          clear hgh hB0
          go_wp2_with (at_builtin; refine wpList_append_own _ rfl _ _ 22 rfl w4.heap.size 29 i0 (.agg #[.string ⟨#[]⟩, .string ⟨#[]⟩]) 2 32 Try.underlying22 hi hz0 hz1 hz2 rfl (by decide) _ _ _ rfl hown78 ⟨g, 0, none⟩ 0 cp [] rfl rfl (fun j z h => by simp at h) (fun z hz => by cases hz) ?c3 ?c4 ?c5 ?_)
          case c3 => rw [HLA.out]; unfold maxLen; omega
          case c4 => rw [HLA.out]; omega
          case c5 => omega
          · intro v9 w9 hown9 hgrow9 _
            have hw9 : Below w.heap.size w w9 := hw8.grown hgrow9 (by omega) (fun b hb => Nat.le_trans hsz4 (hown78.lt b hb).1)
            have HO : Hid (w9.ownsRow w.heap.size 29 2 v9 (setS s.data.toList u.data.toList ls).length (flds (setS s.data.toList u.data.toList ls))) := by
              show World.ownsRow _ _ _ _ _ _ _
              rw [HSET.out, HAA.out, HBB.out, List.append_nil, HLA.out]
              have e := own_le hown9 hsz4
              exact e
            clear hown9 hgrow9 hown78 hown8'
            go_wp2_with fail
            go_ret
            exact ⟨_, rfl, HO.out, hw9⟩
      · rcases id hown8'.2 with ⟨hvn, hn0⟩ | ⟨g, cp, cur, hvb, hgB, hgh, hgn, hgc, _, _⟩
        · exact absurd hn0 hB0
        · subst hvb
          clear hgh
          go_wp2_with (at_builtin; refine wpList_append_own _ rfl _ _ 22 rfl w4.heap.size 29 i0 (.agg #[.string ⟨#[]⟩, .string ⟨#[]⟩]) 2 32 Try.underlying22 hi hz0 hz1 hz2 rfl (by decide) _ _ _ rfl hown78 ⟨g, 0, none⟩ B.length cp (flds B) rfl (flds_length B) ?c1 ?c2 ?c3 ?c4 ?c5 ?_)
          case c1 => exact hown8'.cells rfl
          case c2 => exact flds_one B
          case c3 => rw [HLA.out]; unfold maxLen; omega
          case c4 => rw [HLA.out]; omega
          case c5 => omega
          · intro v9 w9 hown9 hgrow9 _
            have hw9 : Below w.heap.size w w9 := hw8.grown hgrow9 (by omega) (fun b hb => Nat.le_trans hsz4 (hown78.lt b hb).1)
            have HO : Hid (w9.ownsRow w.heap.size 29 2 v9 (setS s.data.toList u.data.toList ls).length (flds (setS s.data.toList u.data.toList ls))) := by
              show World.ownsRow _ _ _ _ _ _ _
              rw [HSET.out, HAA.out, HBB.out, flds_app, List.length_append, HLA.out]
              exact own_le hown9 hsz4
            clear hown9 hgrow9 hown78 hown8'
            go_wp2_with fail
            go_ret
            exact ⟨_, rfl, HO.out, hw9⟩
end Go.Proofs.Ytflkgpjapgkgmab
