/-
  What Unquote of the document's answers computes; the string fits in Go's limits.
-/
import Derived.Test.YtoccjnbodoiibabDoorWUnq
import Derived.Test.YtoccjnbodoiibabDoorWRPlain
namespace Go.Proofs.YtoccjnbodoiibabDoor
open Go.RowKit

theorem one_list (s : ByteArray) (k : Nat) (h : k < s.size) : (s.extract k (k + 1)).toList = [s[k]] := by
  rw [extract_one s k h, ByteArray.toList_eq]
theorem first_eq (s : ByteArray) (h : 0 < s.size) (b : Bool) (hb : decide ((s[0].toNat : Int) = 34) = b) : ((s.extract 0 1).toList == [34]) = b := by
  rw [one_list s 0 h, ← hb, Bool.eq_iff_iff]
  simp
  constructor
  · intro e; rw [e]; rfl
  · intro e; exact eq_of_int _ 34 (by simpa using e)
theorem last_eq (s : ByteArray) (h : s.size - 1 < s.size) (b : Bool) (hb : decide ((s[s.size - 1].toNat : Int) = 34) = b) : ((s.extract (s.size - 1) s.size).toList == [34]) = b := by
  have e : s.extract (s.size - 1) s.size = s.extract (s.size - 1) (s.size - 1 + 1) := by congr 1; omega
  rw [e, one_list s (s.size - 1) h, ← hb, Bool.eq_iff_iff]
  simp
  constructor
  · intro e; rw [e]; rfl
  · intro e; exact eq_of_int _ 34 (by simpa using e)

theorem unesc_plain (l : List UInt8) (h : unesc l ≠ none) : allPlain l = true := by
  have gen : ∀ (l : List UInt8) x, l.foldl ustep x ≠ none → allPlain l = true := by
    intro l
    induction l with
    | nil => intro x h; rfl
    | cons c l ih =>
      intro x h
      rw [List.foldl_cons] at h
      cases hp : plainB c
      · rw [ustep_bad _ _ hp, ustep_none] at h
        exact absurd rfl h
      · have := ih _ h
        unfold allPlain at *
        rw [List.all_cons, hp, this]; rfl
  exact gen l _ h

theorem mid_plain (s : ByteArray) (hq : quoted s.data.toList = true) (h : allPlain s.data.toList = false) : allPlain (mid s.data.toList) = false := by
  unfold quoted at hq
  simp only [Bool.and_eq_true, decide_eq_true_eq, beq_iff_eq] at hq
  obtain ⟨⟨h2, h0⟩, h1⟩ := hq
  generalize s.data.toList = l at *
  cases hm : allPlain (mid l)
  · rfl
  · exfalso
    have e : l = 34 :: (mid l ++ [34]) := by
      match l, h2 with
      | a :: b :: r, _ =>
        simp only [List.getElem?_cons_zero, Option.some.injEq] at h0
        subst h0
        have hd : mid (34 :: b :: r) ++ [34] = b :: r := by
          have hne : (b :: r) ≠ [] := by simp
          have hl := List.dropLast_concat_getLast hne
          have hg : (b :: r).getLast hne = 34 := by
            rw [List.getLast_eq_getElem]
            have h1' : (34 :: b :: r)[(34 :: b :: r).length - 1]? = some 34 := h1
            simp only [List.length_cons, Nat.add_sub_cancel] at h1' ⊢
            rw [List.getElem?_cons_succ] at h1'
            exact (List.getElem?_eq_some_iff.1 h1').2
          rw [hg] at hl
          rw [← hl]
          congr 1
          simp [mid, List.dropLast_eq_take]
        rw [hd]
    rw [e] at h
    unfold allPlain at *
    rw [List.all_cons, List.all_append, hm] at h
    revert h
    decide

theorem unq_unplain (s : ByteArray) (h : allPlain s.data.toList = false) : unq s.data.toList = ([], 3) := by
  cases hq : quoted s.data.toList
  · exact unq_no _ hq
  · apply unq_bad
    have hm := mid_plain s hq h
    unfold unescOk
    cases hu : unesc (mid s.data.toList) with
    | none => rfl
    | some x => rw [unesc_plain _ (by rw [hu]; simp)] at hm; cases hm

theorem unq_dead (l : List UInt8) (h : unesc (mid l) = none) : unq l = ([], 3) := by
  apply unq_bad; unfold unescOk; rw [h]
theorem unq_open (l acc : List UInt8) (h : unesc (mid l) = some (acc, true)) : unq l = ([], 3) := by
  apply unq_bad; unfold unescOk; rw [h]; rfl
theorem unq_large (l acc : List UInt8) (hq : quoted l = true) (h : unesc (mid l) = some (acc, false)) (hl : 1000 < acc.length) : unq l = ([], 2) := by
  apply unq_long l hq
  · unfold unescOk; rw [h]; rfl
  · unfold unescT; rw [h]; exact hl
theorem unq_fine (l acc : List UInt8) (hq : quoted l = true) (h : unesc (mid l) = some (acc, false)) (hl : ¬ 1000 < acc.length) : unq l = (acc, 0) := by
  rw [unq_ok l hq]
  · unfold unescT; rw [h]
  · unfold unescOk; rw [h]; rfl
  · unfold unescT; rw [h]; exact hl

theorem mid_size (s : ByteArray) : (s.extract 1 (s.size - 1)).size = s.size - 2 := by rw [ByteArray.size_extract]; omega
theorem mid_get (s : ByteArray) (m : Nat) (h : m + 1 < s.size) (h' : m < (s.extract 1 (s.size - 1)).size) : (s.extract 1 (s.size - 1))[m] = s[m + 1] := by
  have e := get_at (s.extract 1 (s.size - 1)) m h'
  rw [Lib.extract_data, List.getElem?_take_of_lt (by rw [mid_size] at h'; omega), List.getElem?_drop, Nat.add_comm, get_at s (m + 1) h] at e
  exact (Option.some.inj e).symm
theorem plain_at (s : ByteArray) (h : allPlain s.data.toList = true) (k : Nat) (hk : k < s.size) : plainB s[k] = true := by
  cases hp : plainB s[k]
  · rw [allPlain_dead s k hk hp] at h; cases h
  · rfl

theorem app_one (t : ByteArray) (c : UInt8) : (t ++ ⟨#[c]⟩ : ByteArray).data.toList = t.data.toList ++ [c] := by
  rw [ByteArray.data_append, Array.toList_append]

set_option maxHeartbeats 4000000 in
set_option maxRecDepth 100000 in
theorem runquote_at (s t : ByteArray) (n : Int) (hu : unq s.data.toList = (t.data.toList, n)) (w : World) (hs : s.size ≤ 140737488351232) :
    Calls Tryd.prog 19 #[.string s] w fun e w' => e = .returned (.tuple #[.string t, .int .i64 n]) ∧ w' = w := by
  have fin : ∀ t' : ByteArray, ∀ n' : Int, unq s.data.toList = (t'.data.toList, n') → (t' = t ∧ n' = n) := by
    intro t' n' h
    rw [hu, Prod.mk.injEq] at h
    refine ⟨?_, h.2.symm⟩
    apply ByteArray.ext
    apply Array.ext'
    exact h.1.symm
  have HF : Hid (∀ t' : ByteArray, ∀ n' : Int, unq s.data.toList = (t'.data.toList, n') → (t' = t ∧ n' = n)) := fin
  have HM : Hid (s.size ≤ maxLen) := by show s.size ≤ maxLen; unfold maxLen; omega
  clear fin hu
  by_cases h2 : s.size < 2
  · have HQ : Hid (quoted s.data.toList = false) := quoted_short s h2
    go_enter Tryd.func19, Tryd.ntmps19
    go_wp2_with fail
    go_ret2
    obtain ⟨e1, e2⟩ := HF.out ⟨#[]⟩ 3 (unq_no _ HQ.out)
    exact ⟨ret_err e1 e2, rfl⟩
  · have hl : s.size - 1 < s.size := by omega
    have h0 : 0 < s.size := by omega
    have hz : decide ((s.size : Int) < 2) = false := by simp; omega
    have h2' : 2 ≤ (s.size : Int) := by omega
    clear h2
    by_cases hq : (s[0].toNat : Int) = 34
    · have hd := first_eq s h0 true (decide_eq_true hq)
      by_cases hq1 : (s[s.size - 1].toNat : Int) = 34
      · have hd1 := last_eq s hl true (decide_eq_true hq1)
        have HQ : Hid (quoted s.data.toList = true) := quoted_yes s (by omega) hq hq1
        clear hq hq1
        cases hp : allPlain s.data.toList
        · have HP : Hid (allPlain s.data.toList = false) := hp
          clear hp
          go_enter Tryd.func19, Tryd.ntmps19
          go_wp2_with fail
          refine (rplain_any _ _ HM.out).mono ?_
          rintro e w' ⟨rfl, rfl⟩
          rw [HP.out]
          go_wp2_with fail
          go_ret2
          obtain ⟨e1, e2⟩ := HF.out ⟨#[]⟩ 3 (unq_unplain _ HP.out)
          exact ⟨ret_err e1 e2, rfl⟩
        · have HP : Hid (allPlain s.data.toList = true) := hp
          clear hp
          go_enter Tryd.func19, Tryd.ntmps19
          go_wp2_with fail
          refine (rplain_any _ _ HM.out).mono ?_
          rintro e w' ⟨rfl, rfl⟩
          rw [HP.out]
          go_wp2_with fail
          clear hd hd1
          go_loop [4, 5, 6] (fun o c i => ∃ (m : Nat) (u : ByteArray) (cnt : Bool), m + 2 ≤ s.size ∧ i = .int .i64 ((m : Int) + 1) ∧ o = .string u ∧ c = .bool cnt ∧ unesc ((s.extract 1 (s.size - 1)).data.toList.take m) = some (u.data.toList, cnt)) (fun _ _ i => s.size - (intOf i).toNat)
          case atStart => exact ⟨0, ⟨#[]⟩, false, by omega, rfl, rfl, rfl, rfl⟩
          case round =>
            obtain ⟨m, u, cnt, hm, rfl, rfl, rfl, hu⟩ := hrel
            have hul : u.size ≤ 140737488351232 := by
              have h1 := unesc_len _ _ _ hu
              have h2 := List.length_take_le m (s.extract 1 (s.size - 1)).data.toList
              rw [size_list] at h1
              omega
            have HU : Hid (unesc ((s.extract 1 (s.size - 1)).data.toList.take m) = some (u.data.toList, cnt)) := hu
            clear hu
            by_cases hlt : m + 2 < s.size
            · have hlt1 : m + 1 < s.size := by omega
              have hmm : m < (s.extract 1 (s.size - 1)).size := by rw [mid_size]; omega
              have HG : Hid ((s.extract 1 (s.size - 1))[m] = s[m + 1]) := mid_get s m hlt1 hmm
              have HPL : Hid (plainB s[m + 1] = true) := plain_at s HP.out (m + 1) hlt1
              have HMM : Hid (m < (s.extract 1 (s.size - 1)).size) := hmm
              have HE : Hid (s.extract (m + 1) (m + 1 + 1) = ⟨#[s[m + 1]]⟩) := extract_one s (m + 1) hlt1
              have hc1 : (s[m + 1].toNat : Int) < 256 := by have := s[m + 1].toNat_lt; omega
              have HS : Hid (∀ x, ustep (some (u.data.toList, cnt)) s[m + 1] = x → unesc ((s.extract 1 (s.size - 1)).data.toList.take (m + 1)) = x) := by
                intro x hx
                rw [take_snoc _ m HMM.out, unesc_snoc, HU.out, HG.out, hx]
              cases cnt
              · by_cases h92 : (s[m + 1].toNat : Int) = 92
                · have hd2 : ((s[m + 1].toNat : Int) == 92) = true := by simp [h92]
                  have H92 : Hid ((s[m + 1].toNat : Int) = 92) := h92
                  clear h92
                  go_wp2_with fail
                  go_round
                  case rel => exact ⟨m + 1, u, true, by omega, by go_num, rfl, rfl, HS.out _ (ustep_back _ _ (eq_of_int _ 92 H92.out))⟩
                  case measure => simp [intOf]; omega
                · have hd2 : ((s[m + 1].toNat : Int) == 92) = false := by simp [h92]
                  have H92 : Hid ((s[m + 1].toNat : Int) ≠ 92) := h92
                  clear h92
                  by_cases h34 : (s[m + 1].toNat : Int) = 34
                  · have hd3 : ((s[m + 1].toNat : Int) == 34) = true := by simp [h34]
                    have H34 : Hid ((s[m + 1].toNat : Int) = 34) := h34
                    clear h34
                    go_wp2_with fail
                    go_ret2
                    have hn := unesc_dead _ m HMM.out _ HU.out (by rw [HG.out]; exact ustep_quote _ _ (eq_of_int _ 34 H34.out))
                    rw [mid_extract] at hn
                    obtain ⟨e1, e2⟩ := HF.out ⟨#[]⟩ 3 (unq_dead _ hn)
                    exact ⟨ret_err e1 e2, rfl⟩
                  · have hd3 : ((s[m + 1].toNat : Int) == 34) = false := by simp [h34]
                    have H34 : Hid ((s[m + 1].toNat : Int) ≠ 34) := h34
                    clear h34
                    go_wp2_with fail
                    go_round
                    case rel => exact ⟨m + 1, _, false, by omega, by go_num, rfl, rfl, by rw [HE.out, app_one]; exact HS.out _ (ustep_else _ _ HPL.out (ne_of_int _ 34 H34.out) (ne_of_int _ 92 H92.out))⟩
                    case measure => simp [intOf]; omega
              · go_wp2_with fail
                go_round
                case rel => exact ⟨m + 1, _, false, by omega, by go_num, rfl, rfl, by rw [HE.out, app_one]; exact HS.out _ (ustep_took _ _ HPL.out)⟩
                case measure => simp [intOf]; omega
            · have hn := HU.out
              rw [List.take_of_length_le (by rw [size_list, mid_size]; omega), mid_extract] at hn
              have HN : Hid (unesc (mid s.data.toList) = some (u.data.toList, cnt)) := hn
              clear hn
              cases cnt
              · by_cases hlen : 1000 < (u.size : Int)
                · go_wp2_with fail
                  go_ret2
                  obtain ⟨e1, e2⟩ := HF.out ⟨#[]⟩ 2 (unq_large _ _ HQ.out HN.out (by rw [size_list]; omega))
                  exact ⟨ret_err e1 e2, rfl⟩
                · go_wp2_with fail
                  go_ret2
                  obtain ⟨e1, e2⟩ := HF.out u 0 (unq_fine _ _ HQ.out HN.out (by rw [size_list]; omega))
                  exact ⟨ret_err e1 e2, rfl⟩
              · go_wp2_with fail
                go_ret2
                obtain ⟨e1, e2⟩ := HF.out ⟨#[]⟩ 3 (unq_open _ _ HN.out)
                exact ⟨ret_err e1 e2, rfl⟩
      · have hd1 := last_eq s hl false (decide_eq_false hq1)
        have HQ : Hid (quoted s.data.toList = false) := quoted_last s hl hq1
        clear hq hq1
        go_enter Tryd.func19, Tryd.ntmps19
        go_wp2_with fail
        go_ret2
        obtain ⟨e1, e2⟩ := HF.out ⟨#[]⟩ 3 (unq_no _ HQ.out)
        exact ⟨ret_err e1 e2, rfl⟩
    · have hd := first_eq s h0 false (decide_eq_false hq)
      have HQ : Hid (quoted s.data.toList = false) := quoted_first s h0 hq
      clear hq
      go_enter Tryd.func19, Tryd.ntmps19
      go_wp2_with fail
      go_ret2
      obtain ⟨e1, e2⟩ := HF.out ⟨#[]⟩ 3 (unq_no _ HQ.out)
      exact ⟨ret_err e1 e2, rfl⟩
end Go.Proofs.YtoccjnbodoiibabDoor
