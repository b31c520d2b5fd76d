/-
  What LineRequest of the document's answers computes; a string is no longer than Go allows.
-/
import Derived.Test.YtlfdbaggiimnjaaDoorSpecLn
import Derived.Test.YtlfdbaggiimnjaaDoorSpecF
import Derived.Test.YtlfdbaggiimnjaaDoorWRTok
import Derived.Test.YtlfdbaggiimnjaaDoorWRPlain
import Derived.Test.YtlfdbaggiimnjaaDoorWLn
namespace Go.Proofs.YtlfdbaggiimnjaaDoor
open Go.RowKit

theorem tgt_all (c : UInt8) : isTgt c = (plainB c && !([32, 9] : List UInt8).contains c) := by
  have := byAll (fun c => isTgt c == (plainB c && !([32, 9] : List UInt8).contains c)) (by decide +kernel) c
  simpa using this
theorem plain_low (l : List UInt8) (h : allPlain l = true) : ∀ (j : Nat) b, l[j]? = some b → b.toNat < 128 := by
  intro j b hj
  have hb : plainB b = true := List.all_eq_true.1 h b (List.mem_of_getElem? hj)
  have := byAll (fun c => !plainB c || decide (c.toNat < 128)) (by decide +kernel) b
  simpa [hb] using this
theorem low_of (l : List UInt8) (h : l.all (fun b => b.toNat < 128) = true) : ∀ (j : Nat) b, l[j]? = some b → b.toNat < 128 := by
  intro j b hj
  have := List.all_eq_true.1 h b (List.mem_of_getElem? hj)
  simpa using this
theorem anyB (l : List UInt8) : Lib.containsAny l [32, 9] = l.any fun c => ([32, 9] : List UInt8).contains c := by
  unfold Lib.containsAny
  induction l with
  | nil => rfl
  | cons b l ih =>
    rw [List.any_cons, ← ih]
    have e : Lib.indexAny (b :: l) [32, 9] = if ([32, 9] : List UInt8).contains b = true then 0 else if (Lib.indexAny l [32, 9] == -1) = true then -1 else Lib.indexAny l [32, 9] + 1 := rfl
    rw [e]
    have hg := Lib.indexAny_ge [32, 9] l
    generalize Lib.indexAny l [32, 9] = q at hg
    cases ([32, 9] : List UInt8).contains b
    · rw [Bool.false_or, if_neg (by decide)]
      by_cases h1 : q = -1
      · subst h1; rfl
      · rw [if_neg (by simpa using h1), decide_eq_decide]; omega
    · rfl
theorem targ_eq (l : List UInt8) (h0 : l ≠ []) (h1 : l.length ≤ 200) : targ l = (allPlain l && !Lib.containsAny l [32, 9]) := by
  have e : l.isEmpty = false := by cases l with | nil => exact absurd rfl h0 | cons a l => rfl
  unfold targ
  rw [e, decide_eq_true h1, anyB]
  simp only [Bool.not_false, Bool.and_true]
  unfold allPlain
  clear h0 h1 e
  induction l with
  | nil => rfl
  | cons b l ih =>
    rw [List.all_cons, List.all_cons, List.any_cons, ih, tgt_all]
    cases plainB b <;> cases ([32, 9] : List UInt8).contains b <;> simp
theorem targ_big (l : List UInt8) (h : 200 < l.length) : targ l = false := by
  unfold targ; rw [decide_eq_false (by omega)]; simp
theorem meth_big (l : List UInt8) (h : 30 < l.length) : meth l = false := by
  unfold meth; rw [decide_eq_false (by omega)]; simp

set_option maxHeartbeats 2000000 in
set_option maxRecDepth 100000 in
theorem rprintR_at (m t x : ByteArray) (c : Int) (h : prR m.data.toList t.data.toList = (x.data.toList, c)) (w : World) (hm : m.size ≤ maxLen) (ht : t.size ≤ maxLen) :
    Calls Tryd.prog 7 #[.string m, .string t] w fun e w' => e = .returned (.tuple #[.string x, .int .i64 c]) ∧ Below w.heap.size w w' := by
  have HS : Hid (m.size ≤ maxLen) := hm
  have HT : Hid (t.size ≤ maxLen) := ht
  clear hm ht
  have hml := size_list m
  have htl := size_list t
  have bad : (meth m.data.toList && targ t.data.toList) = false → (⟨#[]⟩ : ByteArray) = x ∧ 3 = c := by
    intro hb
    rw [prR_no _ _ hb] at h
    simp only [Prod.mk.injEq] at h
    exact ⟨mk_self x [] h.1.symm, h.2⟩
  cases h1 : token m.data.toList
  · obtain ⟨rfl, rfl⟩ := bad (by unfold meth; rw [h1]; rfl)
    have H1 : Hid (token m.data.toList = false) := h1
    clear h1 h bad hml htl
    go_enter Tryd.func7, Tryd.ntmps7
    go_wp2_with fail
    refine (rtoken_any _ _ HS.out).mono ?_
    rintro e w' ⟨rfl, rfl⟩
    rw [H1.out]
    go_wp2_with fail
    go_ret2
    exact ⟨rfl, Below.refl _ _⟩
  · have H1 : Hid (token m.data.toList = true) := h1
    by_cases h2 : 30 < (m.size : Int)
    · obtain ⟨rfl, rfl⟩ := bad (by rw [meth_big _ (by omega)]; rfl)
      clear h1 h bad hml htl
      go_enter Tryd.func7, Tryd.ntmps7
      go_wp2_with fail
      refine (rtoken_any _ _ HS.out).mono ?_
      rintro e w' ⟨rfl, rfl⟩
      rw [H1.out]
      go_wp2_with fail
      go_ret2
      exact ⟨rfl, Below.refl _ _⟩
    · have hmm : meth m.data.toList = true := by unfold meth; rw [h1, decide_eq_true (by omega)]; rfl
      have hd2 : decide (30 < (m.size : Int)) = false := decide_eq_false h2
      cases h3 : t.toList.isEmpty
      · have hne : t.data.toList ≠ [] := by
          rw [ByteArray.toList_eq] at h3
          intro e; rw [e] at h3; cases h3
        by_cases h4 : 200 < (t.size : Int)
        · obtain ⟨rfl, rfl⟩ := bad (by rw [targ_big _ (by omega), Bool.and_false])
          clear h1 h bad hml htl hmm hne
          go_enter Tryd.func7, Tryd.ntmps7
          go_wp2_with fail
          refine (rtoken_any _ _ HS.out).mono ?_
          rintro e w' ⟨rfl, rfl⟩
          rw [H1.out]
          go_wp2_with fail
          go_ret2
          exact ⟨rfl, Below.refl _ _⟩
        · have hd4 : decide (200 < (t.size : Int)) = false := decide_eq_false h4
          have hte := targ_eq _ hne (by omega)
          cases h5 : allPlain t.data.toList
          · obtain ⟨rfl, rfl⟩ := bad (by rw [hte, h5]; simp)
            have H5 : Hid (allPlain t.data.toList = false) := h5
            clear h1 h bad hml htl hmm hne hte h5
            go_enter Tryd.func7, Tryd.ntmps7
            go_wp2_with fail
            refine (rtoken_any _ _ HS.out).mono ?_
            rintro e w' ⟨rfl, rfl⟩
            rw [H1.out]
            go_wp2_with fail
            refine (rplain_any _ _ HT.out).mono ?_
            rintro e w' ⟨rfl, rfl⟩
            rw [H5.out]
            go_wp2_with fail
            go_ret2
            exact ⟨rfl, Below.refl _ _⟩
          · have H5 : Hid (allPlain t.data.toList = true) := h5
            have HLO : Hid (∀ (j : Nat) b, t.data.toList[j]? = some b → b.toNat < 128) := plain_low _ h5
            cases h6 : Lib.containsAny t.data.toList [32, 9]
            · have htt : targ t.data.toList = true := by rw [hte, h5, h6]; rfl
              rw [prR_ok _ _ hmm htt] at h
              simp only [Prod.mk.injEq] at h
              obtain ⟨h7, rfl⟩ := h
              have HX : Hid (reqB m.data.toList t.data.toList ++ [13, 10] = x.data.toList) := h7
              have H6 : Hid (Lib.containsAny t.data.toList (⟨#[32, 9]⟩ : ByteArray).data.toList = false) := h6
              have hmi : (m.size : Int) ≤ 30 := by omega
              have hti : (t.size : Int) ≤ 200 := by omega
              clear h1 bad hml htl hmm hne hte h5 h6 h7 htt
              go_enter Tryd.func7, Tryd.ntmps7
              go_wp2_with fail
              refine (rtoken_any _ _ HS.out).mono ?_
              rintro e w' ⟨rfl, rfl⟩
              rw [H1.out]
              go_wp2_with fail
              refine (rplain_any _ _ HT.out).mono ?_
              rintro e w' ⟨rfl, rfl⟩
              rw [H5.out]
              go_wp2_with fail
              refine (Tryd.strings_ContainsAny_laid t ⟨#[32, 9]⟩ _ (by omega) (by decide) HLO.out (low_of _ (by decide))).mono ?_
              rintro e w1 ⟨rfl, hb⟩
              rw [H6.out]
              go_wp2_with fail
              go_ret2
              refine ⟨ret_sv ?_, hb⟩
              apply ByteArray.ext; apply Array.ext'
              rw [← HX.out]
              simp [reqB, verB]
            · obtain ⟨rfl, rfl⟩ := bad (by rw [hte, h6]; simp)
              have H6 : Hid (Lib.containsAny t.data.toList (⟨#[32, 9]⟩ : ByteArray).data.toList = true) := h6
              clear h1 h bad hml htl hmm hne hte h5 h6
              go_enter Tryd.func7, Tryd.ntmps7
              go_wp2_with fail
              refine (rtoken_any _ _ HS.out).mono ?_
              rintro e w' ⟨rfl, rfl⟩
              rw [H1.out]
              go_wp2_with fail
              refine (rplain_any _ _ HT.out).mono ?_
              rintro e w' ⟨rfl, rfl⟩
              rw [H5.out]
              go_wp2_with fail
              refine (Tryd.strings_ContainsAny_laid t ⟨#[32, 9]⟩ _ (by omega) (by decide) HLO.out (low_of _ (by decide))).mono ?_
              rintro e w1 ⟨rfl, hb⟩
              rw [H6.out]
              go_wp2_with fail
              go_ret2
              exact ⟨rfl, hb⟩
      · have he : t.data.toList.isEmpty = true := by rw [ByteArray.toList_eq] at h3; exact h3
        obtain ⟨rfl, rfl⟩ := bad (by unfold targ; rw [he]; simp)
        clear h1 h bad hml htl hmm he
        go_enter Tryd.func7, Tryd.ntmps7
        go_wp2_with fail
        refine (rtoken_any _ _ HS.out).mono ?_
        rintro e w' ⟨rfl, rfl⟩
        rw [H1.out]
        go_wp2_with fail
        go_ret2
        exact ⟨rfl, Below.refl _ _⟩
end Go.Proofs.YtlfdbaggiimnjaaDoor
