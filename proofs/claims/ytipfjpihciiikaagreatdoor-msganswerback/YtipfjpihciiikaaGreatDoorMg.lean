/-
  What message of the document's answers computes: what stands behind the first line, written.
-/
import Derived.Test.YtipfjpihciiikaaGreatDoorMf
import Derived.Deep.SlicePairs
import Derived.Lib.AtoiErrMem
import Derived.Test.YtipfjpihciiikaaGreatDoorRows
import Derived.Test.YtipfjpihciiikaaGreatDoorShelf
import Derived.Laws.Rows
import Derived.Lib.Buffer
import Derived.Lib.ItoaLen
import Derived.Laws.IdiomStrings
namespace Go.Proofs.YtipfjpihciiikaaGreatDoor
open Go.RowKit

theorem rprint_at (t : ByteArray) (c : Int) (v : Value) (ls : List Fld) (h : prtS ls = (t.data.toList, c)) (w : World) (hf : Fl w v ls) (hm : Most maxLen ls) :
    Calls Tryz.prog 44 #[v] w fun e w' => e = .returned (.tuple #[.string t, .int .i64 c]) ∧ Below w.heap.size w w' := by
  have := rprint_any v ls w hf hm
  rw [h] at this
  exact this
theorem ba_app (a b t : ByteArray) (h : t.data.toList = a.data.toList ++ b.data.toList) : a ++ b = t := by
  apply ByteArray.ext; apply Array.ext'
  rw [ByteArray.data_append, Array.toList_append, h]
theorem ba_nil (t : ByteArray) (h : t.data.toList = []) : t = ⟨#[]⟩ := by apply ByteArray.ext; apply Array.ext'; exact h
set_option maxHeartbeats 4000000 in
set_option maxRecDepth 100000 in
theorem rmsg_at (first : ByteArray) (req : Bool) (m : ByteArray) (code : Int) (v : Value) (ls : List Fld) (b u : ByteArray) (c : Int) (h : wrB (kd req m.data.toList code) ls b.data.toList = (u.data.toList, c)) (x : ByteArray) (hx : (if c = 0 then first ++ u else ⟨#[]⟩) = x) (w : World) (hf : Fl w v ls) (hm : Most maxLen ls) (hfs : first.size ≤ 300) :
    Calls Tryz.prog 23 #[.string first, .bool req, .string m, .int .i64 code, v, .string b] w fun e w' => e = .returned (.tuple #[.string x, .int .i64 c]) ∧ Below w.heap.size w w' := by
  have HF : Hid (Fl w v ls) := hf
  have HM : Hid (Most maxLen ls) := hm
  clear hf hm
  obtain ⟨p, d, hp⟩ : ∃ (p : ByteArray) (d : Int), prtS ls = (p.data.toList, d) := ⟨⟨(prtS ls).1.toArray⟩, (prtS ls).2, rfl⟩
  have HP : Hid (prtS ls = (p.data.toList, d)) := hp
  have bsz : b.data.toList.length = b.size := size_list b
  have emp : ∀ y : Int, y ≠ 0 → ([], y) = (u.data.toList, c) → x = ⟨#[]⟩ ∧ c = y := by
    intro y hy h0
    simp only [Prod.mk.injEq] at h0
    obtain ⟨_, rfl⟩ := h0
    rw [if_neg hy] at hx
    exact ⟨hx.symm, rfl⟩
  by_cases hc : chk ls = 0
  · rw [prtS_ok ls hc, Prod.mk.injEq] at hp
    obtain ⟨hpl, rfl⟩ := hp
    have HB : Hid (bulkF ls ≤ 1048576) := bulk_chk ls hc
    have hps : p.size ≤ 31022 := by
      rw [← size_list, ← hpl, List.length_append]
      have := prt_take_len ls hc ls.length
      rw [List.take_length] at this
      simp; omega
    obtain ⟨k, n, z, hk⟩ : ∃ x y z, kd req m.data.toList code ls = (x, y, z) := ⟨_, _, _, rfl⟩
    have HK : Hid (kd req m.data.toList code ls = (k, n, z)) := hk
    have htail : ∀ (q : ByteArray), (prt ls ++ [13, 10] ++ q.data.toList, (0 : Int)) = (u.data.toList, c) → c = 0 ∧ x = first ++ p ++ q := by
      intro q h0
      simp only [Prod.mk.injEq] at h0
      obtain ⟨h1, rfl⟩ := h0
      rw [if_pos rfl] at hx
      refine ⟨rfl, ?_⟩
      rw [← hx]
      apply ByteArray.ext; apply Array.ext'
      simp only [ByteArray.data_append, Array.toList_append]
      rw [← h1, ← hpl]; simp
    have hwb := wrB_wb (kd_ok req m.data.toList code) b.data.toList hc
    rcases kd_ok req m.data.toList code ls with ⟨e, h1, he⟩ | h1 | h1 | h1 | ⟨n', h1, hn0, hn⟩
    · rw [hk] at h1
      simp only [Prod.mk.injEq] at h1
      obtain ⟨rfl, rfl, rfl⟩ := h1
      rw [wrB_err _ hc (by rw [hk]; exact he), hk] at h
      obtain ⟨rfl, rfl⟩ := emp _ he h
      have hcb : (c != 0) = true := by simpa using he
      clear hwb htail emp h hc hk hpl hx he
      go_enter Tryz.func23, Tryz.ntmps23
      go_wp2_with fail
      refine (rprint_at p 0 v ls HP.out _ HF.out HM.out).mono ?_
      rintro e w1 ⟨rfl, hb1⟩
      go_wp2_with fail
      refine (rkind_at req m code v ls 0 0 c HK.out _ (HF.out.below hb1) HB.out).mono ?_
      rintro e w2 ⟨rfl, hb2⟩
      have hw2 := hb1.trans (hb2.mono hb1.size)
      clear hb1 hb2
      go_wp2_with fail
      go_ret2
      exact ⟨rfl, hw2⟩
    · rw [hk] at h1
      simp only [Prod.mk.injEq] at h1
      obtain ⟨rfl, rfl, rfl⟩ := h1
      rw [hwb (by rw [hk]), hk] at h
      by_cases hb0 : b.size = 0
      · have e : wbS 1 0 b.data.toList = (b.data.toList, 0) := by
          unfold wbS; rw [if_neg (by decide), if_neg (by simp), if_neg (fun y => y.2 (by omega))]
        simp only [e] at h
        rw [if_neg (by simp)] at h
        obtain ⟨rfl, rfl⟩ := htail b h
        have hem : b.toList.isEmpty = true := by rw [ByteArray.toList_eq, isEmpty_size]; exact decide_eq_true hb0
        clear hwb htail emp h hc hk hpl hx e bsz
        go_enter Tryz.func23, Tryz.ntmps23
        go_wp2_with fail
        refine (rprint_at p 0 v ls HP.out _ HF.out HM.out).mono ?_
        rintro e w1 ⟨rfl, hb1⟩
        go_wp2_with fail
        refine (rkind_at req m code v ls 1 0 0 HK.out _ (HF.out.below hb1) HB.out).mono ?_
        rintro e w2 ⟨rfl, hb2⟩
        have hw2 := hb1.trans (hb2.mono hb1.size)
        clear hb1 hb2
        go_wp2_with fail
        go_ret2
        exact ⟨rfl, hw2⟩
      · have e : wbS 1 0 b.data.toList = ([], 10) := by
          unfold wbS; rw [if_neg (by decide), if_neg (by simp), if_pos ⟨by decide, by omega⟩]
        simp only [e] at h
        rw [if_pos (by simp)] at h
        obtain ⟨rfl, rfl⟩ := emp _ (by decide) h
        have hem : b.toList.isEmpty = false := by rw [ByteArray.toList_eq, isEmpty_size]; exact decide_eq_false hb0
        clear hwb htail emp h hc hk hpl hx e bsz
        go_enter Tryz.func23, Tryz.ntmps23
        go_wp2_with fail
        refine (rprint_at p 0 v ls HP.out _ HF.out HM.out).mono ?_
        rintro e w1 ⟨rfl, hb1⟩
        go_wp2_with fail
        refine (rkind_at req m code v ls 1 0 0 HK.out _ (HF.out.below hb1) HB.out).mono ?_
        rintro e w2 ⟨rfl, hb2⟩
        have hw2 := hb1.trans (hb2.mono hb1.size)
        clear hb1 hb2
        go_wp2_with fail
        go_ret2
        exact ⟨rfl, hw2⟩
    · rw [hk] at h1
      simp only [Prod.mk.injEq] at h1
      obtain ⟨rfl, rfl, rfl⟩ := h1
      rw [hwb (by rw [hk]), hk] at h
      by_cases hb0 : 5000 < b.size
      · have e : wbS 3 0 b.data.toList = ([], 2) := by
          unfold wbS; rw [if_pos rfl, enc_64, if_pos (by omega)]
        simp only [e] at h
        rw [if_pos (by simp)] at h
        obtain ⟨rfl, rfl⟩ := emp _ (by decide) h
        have hb5 : (5000 : Int) < (b.size : Int) := by omega
        clear hwb htail emp h hc hk hpl hx e bsz
        go_enter Tryz.func23, Tryz.ntmps23
        go_wp2_with fail
        refine (rprint_at p 0 v ls HP.out _ HF.out HM.out).mono ?_
        rintro e w1 ⟨rfl, hb1⟩
        go_wp2_with fail
        refine (rkind_at req m code v ls 3 0 0 HK.out _ (HF.out.below hb1) HB.out).mono ?_
        rintro e w2 ⟨rfl, hb2⟩
        have hw2 := hb1.trans (hb2.mono hb1.size)
        clear hb1 hb2
        go_wp2_with fail
        go_ret2
        exact ⟨rfl, hw2⟩
      · obtain ⟨q, hq⟩ : ∃ q : ByteArray, q.data.toList = encS 63 b.data.toList := ⟨⟨(encS 63 b.data.toList).toArray⟩, rfl⟩
        have e : wbS 3 0 b.data.toList = (q.data.toList, 0) := by
          unfold wbS; rw [if_pos rfl, enc_64, if_neg (by omega), hq]
        have HE : Hid (encE b.data.toList 64 = (q.data.toList, 0)) := by show _ = _; rw [enc_64, if_neg (by omega), hq]
        have hqs : q.size ≤ 45005 := by
          have := encS_len 63 b.size b.data.toList (by omega) (by omega)
          rw [← hq, size_list] at this
          omega
        simp only [e] at h
        rw [if_neg (by simp)] at h
        obtain ⟨rfl, rfl⟩ := htail q h
        have hb5 : ¬ (5000 : Int) < (b.size : Int) := by omega
        clear hq
        clear hwb htail emp h hc hk hpl hx e bsz
        go_enter Tryz.func23, Tryz.ntmps23
        go_wp2_with fail
        refine (rprint_at p 0 v ls HP.out _ HF.out HM.out).mono ?_
        rintro e w1 ⟨rfl, hb1⟩
        go_wp2_with fail
        refine (rkind_at req m code v ls 3 0 0 HK.out _ (HF.out.below hb1) HB.out).mono ?_
        rintro e w2 ⟨rfl, hb2⟩
        have hw2 := hb1.trans (hb2.mono hb1.size)
        clear hb1 hb2
        go_wp2_with fail
        refine (rchunksE_at b q 64 0 HE.out (by decide) _).mono ?_
        rintro e w3 ⟨rfl, hb3⟩
        have hw3 := hw2.trans (hb3.mono hw2.size)
        clear hw2 hb3
        go_wp2_with fail
        go_ret2
        exact ⟨rfl, hw3⟩
    · rw [hk] at h1
      simp only [Prod.mk.injEq] at h1
      obtain ⟨rfl, rfl, rfl⟩ := h1
      rw [hwb (by rw [hk]), hk] at h
      by_cases hb0 : 5000 < b.size
      · have e : wbS 4 0 b.data.toList = ([], 2) := by
          unfold wbS; rw [if_neg (by decide), if_pos ⟨rfl, by omega⟩]
        simp only [e] at h
        rw [if_pos (by simp)] at h
        obtain ⟨rfl, rfl⟩ := emp _ (by decide) h
        have hb5 : (5000 : Int) < (b.size : Int) := by omega
        clear hwb htail emp h hc hk hpl hx e bsz
        go_enter Tryz.func23, Tryz.ntmps23
        go_wp2_with fail
        refine (rprint_at p 0 v ls HP.out _ HF.out HM.out).mono ?_
        rintro e w1 ⟨rfl, hb1⟩
        go_wp2_with fail
        refine (rkind_at req m code v ls 4 0 0 HK.out _ (HF.out.below hb1) HB.out).mono ?_
        rintro e w2 ⟨rfl, hb2⟩
        have hw2 := hb1.trans (hb2.mono hb1.size)
        clear hb1 hb2
        go_wp2_with fail
        go_ret2
        exact ⟨rfl, hw2⟩
      · have e : wbS 4 0 b.data.toList = (b.data.toList, 0) := by
          unfold wbS; rw [if_neg (by decide), if_neg (fun y => hb0 (by have := y.2; omega)), if_neg (fun y => y.1 rfl)]
        simp only [e] at h
        rw [if_neg (by simp)] at h
        obtain ⟨rfl, rfl⟩ := htail b h
        have hb5 : ¬ (5000 : Int) < (b.size : Int) := by omega
        clear hwb htail emp h hc hk hpl hx e bsz
        go_enter Tryz.func23, Tryz.ntmps23
        go_wp2_with fail
        refine (rprint_at p 0 v ls HP.out _ HF.out HM.out).mono ?_
        rintro e w1 ⟨rfl, hb1⟩
        go_wp2_with fail
        refine (rkind_at req m code v ls 4 0 0 HK.out _ (HF.out.below hb1) HB.out).mono ?_
        rintro e w2 ⟨rfl, hb2⟩
        have hw2 := hb1.trans (hb2.mono hb1.size)
        clear hb1 hb2
        go_wp2_with fail
        go_ret2
        exact ⟨rfl, hw2⟩
    · rw [hk] at h1
      simp only [Prod.mk.injEq] at h1
      obtain ⟨rfl, rfl, rfl⟩ := h1
      rw [hwb (by rw [hk]), hk] at h
      by_cases hb0 : (b.size : Int) = n
      · have e : wbS 2 n b.data.toList = (b.data.toList, 0) := by
          unfold wbS; rw [if_neg (by decide), if_neg (by simp), if_neg (fun y => y.2 (by omega))]
        simp only [e] at h
        rw [if_neg (by simp)] at h
        obtain ⟨rfl, rfl⟩ := htail b h
        have hb5 : ((b.size : Int) != n) = false := by rw [hb0]; simp
        have hbs : b.size ≤ 5000 := by omega
        clear hb0
        clear hwb htail emp h hc hk hpl hx e bsz
        go_enter Tryz.func23, Tryz.ntmps23
        go_wp2_with fail
        refine (rprint_at p 0 v ls HP.out _ HF.out HM.out).mono ?_
        rintro e w1 ⟨rfl, hb1⟩
        go_wp2_with fail
        refine (rkind_at req m code v ls 2 n 0 HK.out _ (HF.out.below hb1) HB.out).mono ?_
        rintro e w2 ⟨rfl, hb2⟩
        have hw2 := hb1.trans (hb2.mono hb1.size)
        clear hb1 hb2
        go_wp2_with fail
        go_ret2
        exact ⟨rfl, hw2⟩
      · have e : wbS 2 n b.data.toList = ([], 10) := by
          unfold wbS; rw [if_neg (by decide), if_neg (by simp), if_pos ⟨by decide, by omega⟩]
        simp only [e] at h
        rw [if_pos (by simp)] at h
        obtain ⟨rfl, rfl⟩ := emp _ (by decide) h
        have hb5 : ((b.size : Int) != n) = true := by simpa using hb0
        clear hwb htail emp h hc hk hpl hx e bsz
        go_enter Tryz.func23, Tryz.ntmps23
        go_wp2_with fail
        refine (rprint_at p 0 v ls HP.out _ HF.out HM.out).mono ?_
        rintro e w1 ⟨rfl, hb1⟩
        go_wp2_with fail
        refine (rkind_at req m code v ls 2 n 0 HK.out _ (HF.out.below hb1) HB.out).mono ?_
        rintro e w2 ⟨rfl, hb2⟩
        have hw2 := hb1.trans (hb2.mono hb1.size)
        clear hb1 hb2
        go_wp2_with fail
        go_ret2
        exact ⟨rfl, hw2⟩
  · rw [wrB_bad _ hc] at h
    obtain ⟨rfl, rfl⟩ := emp _ hc h
    rw [prtS_bad ls hc, Prod.mk.injEq] at hp
    obtain ⟨hp1, rfl⟩ := hp
    have hcb : (chk ls != 0) = true := by simpa using hc
    obtain ⟨q, hq⟩ : ∃ q, q = chk ls := ⟨_, rfl⟩
    rw [← hq] at hcb HP ⊢
    clear h hc emp hp1 hq hx
    go_enter Tryz.func23, Tryz.ntmps23
    go_wp2_with fail
    refine (rprint_at p q v ls HP.out _ HF.out HM.out).mono ?_
    rintro e w1 ⟨rfl, hb1⟩
    go_wp2_with fail
    go_ret2
    exact ⟨rfl, hb1⟩
end Go.Proofs.YtipfjpihciiikaaGreatDoor

/-
  What LineRequest of the document's answers computes; a string is no longer than Go allows.
-/
namespace Go.Proofs.YtipfjpihciiikaaGreatDoor
open Go.RowKit

theorem tgt_all (c : UInt8) : isTgt c = (plainB c && !([32, 9] : List UInt8).contains c) := by
  have := byAll (fun c => isTgt c == (plainB c && !([32, 9] : List UInt8).contains c)) (by decide +kernel) c
  simpa using this
theorem plain_low (l : List UInt8) (h : allPlain l = true) : ∀ (j : Nat) b, l[j]? = some b → b.toNat < 128 := by
  intro j b hj
  have hb : plainB b = true := List.all_eq_true.1 h b (List.mem_of_getElem? hj)
  have := byAll (fun c => !plainB c || decide (c.toNat < 128)) (by decide +kernel) b
  simpa [hb] using this
theorem low_of (l : List UInt8) (h : l.all (fun b => b.toNat < 128) = true) : ∀ (j : Nat) b, l[j]? = some b → b.toNat < 128 := by
  intro j b hj
  have := List.all_eq_true.1 h b (List.mem_of_getElem? hj)
  simpa using this
theorem anyB (l : List UInt8) : Lib.containsAny l [32, 9] = l.any fun c => ([32, 9] : List UInt8).contains c := by
  unfold Lib.containsAny
  induction l with
  | nil => rfl
  | cons b l ih =>
    rw [List.any_cons, ← ih]
    have e : Lib.indexAny (b :: l) [32, 9] = if ([32, 9] : List UInt8).contains b = true then 0 else if (Lib.indexAny l [32, 9] == -1) = true then -1 else Lib.indexAny l [32, 9] + 1 := rfl
    rw [e]
    have hg := Lib.indexAny_ge [32, 9] l
    generalize Lib.indexAny l [32, 9] = q at hg
    cases ([32, 9] : List UInt8).contains b
    · rw [Bool.false_or, if_neg (by decide)]
      by_cases h1 : q = -1
      · subst h1; rfl
      · rw [if_neg (by simpa using h1), decide_eq_decide]; omega
    · rfl
theorem targ_eq (l : List UInt8) (h0 : l ≠ []) (h1 : l.length ≤ 200) : targ l = (allPlain l && !Lib.containsAny l [32, 9]) := by
  have e : l.isEmpty = false := by cases l with | nil => exact absurd rfl h0 | cons a l => rfl
  unfold targ
  rw [e, decide_eq_true h1, anyB]
  simp only [Bool.not_false, Bool.and_true]
  unfold allPlain
  clear h0 h1 e
  induction l with
  | nil => rfl
  | cons b l ih =>
    rw [List.all_cons, List.all_cons, List.any_cons, ih, tgt_all]
    cases plainB b <;> cases ([32, 9] : List UInt8).contains b <;> simp
theorem targ_big (l : List UInt8) (h : 200 < l.length) : targ l = false := by
  unfold targ; rw [decide_eq_false (by omega)]; simp
theorem meth_big (l : List UInt8) (h : 30 < l.length) : meth l = false := by
  unfold meth; rw [decide_eq_false (by omega)]; simp

set_option maxHeartbeats 2000000 in
set_option maxRecDepth 100000 in
theorem rprintR_at (m t x : ByteArray) (c : Int) (h : prR m.data.toList t.data.toList = (x.data.toList, c)) (w : World) (hm : m.size ≤ maxLen) (ht : t.size ≤ maxLen) :
    Calls Tryz.prog 22 #[.string m, .string t] w fun e w' => e = .returned (.tuple #[.string x, .int .i64 c]) ∧ Below w.heap.size w w' := by
  have HS : Hid (m.size ≤ maxLen) := hm
  have HT : Hid (t.size ≤ maxLen) := ht
  clear hm ht
  have hml := size_list m
  have htl := size_list t
  have bad : (meth m.data.toList && targ t.data.toList) = false → (⟨#[]⟩ : ByteArray) = x ∧ 3 = c := by
    intro hb
    rw [prR_no _ _ hb] at h
    simp only [Prod.mk.injEq] at h
    exact ⟨mk_self x [] h.1.symm, h.2⟩
  cases h1 : token m.data.toList
  · obtain ⟨rfl, rfl⟩ := bad (by unfold meth; rw [h1]; rfl)
    have H1 : Hid (token m.data.toList = false) := h1
    clear h1 h bad hml htl
    go_enter Tryz.func22, Tryz.ntmps22
    go_wp2_with fail
    refine (rtoken_any _ _ HS.out).mono ?_
    rintro e w' ⟨rfl, rfl⟩
    rw [H1.out]
    go_wp2_with fail
    go_ret2
    exact ⟨rfl, Below.refl _ _⟩
  · have H1 : Hid (token m.data.toList = true) := h1
    by_cases h2 : 30 < (m.size : Int)
    · obtain ⟨rfl, rfl⟩ := bad (by rw [meth_big _ (by omega)]; rfl)
      clear h1 h bad hml htl
      go_enter Tryz.func22, Tryz.ntmps22
      go_wp2_with fail
      refine (rtoken_any _ _ HS.out).mono ?_
      rintro e w' ⟨rfl, rfl⟩
      rw [H1.out]
      go_wp2_with fail
      go_ret2
      exact ⟨rfl, Below.refl _ _⟩
    · have hmm : meth m.data.toList = true := by unfold meth; rw [h1, decide_eq_true (by omega)]; rfl
      have hd2 : decide (30 < (m.size : Int)) = false := decide_eq_false h2
      cases h3 : t.toList.isEmpty
      · have hne : t.data.toList ≠ [] := by
          rw [ByteArray.toList_eq] at h3
          intro e; rw [e] at h3; cases h3
        by_cases h4 : 200 < (t.size : Int)
        · obtain ⟨rfl, rfl⟩ := bad (by rw [targ_big _ (by omega), Bool.and_false])
          clear h1 h bad hml htl hmm hne
          go_enter Tryz.func22, Tryz.ntmps22
          go_wp2_with fail
          refine (rtoken_any _ _ HS.out).mono ?_
          rintro e w' ⟨rfl, rfl⟩
          rw [H1.out]
          go_wp2_with fail
          go_ret2
          exact ⟨rfl, Below.refl _ _⟩
        · have hd4 : decide (200 < (t.size : Int)) = false := decide_eq_false h4
          have hte := targ_eq _ hne (by omega)
          cases h5 : allPlain t.data.toList
          · obtain ⟨rfl, rfl⟩ := bad (by rw [hte, h5]; simp)
            have H5 : Hid (allPlain t.data.toList = false) := h5
            clear h1 h bad hml htl hmm hne hte h5
            go_enter Tryz.func22, Tryz.ntmps22
            go_wp2_with fail
            refine (rtoken_any _ _ HS.out).mono ?_
            rintro e w' ⟨rfl, rfl⟩
            rw [H1.out]
            go_wp2_with fail
            refine (rplain_any _ _ HT.out).mono ?_
            rintro e w' ⟨rfl, rfl⟩
            rw [H5.out]
            go_wp2_with fail
            go_ret2
            exact ⟨rfl, Below.refl _ _⟩
          · have H5 : Hid (allPlain t.data.toList = true) := h5
            have HLO : Hid (∀ (j : Nat) b, t.data.toList[j]? = some b → b.toNat < 128) := plain_low _ h5
            cases h6 : Lib.containsAny t.data.toList [32, 9]
            · have htt : targ t.data.toList = true := by rw [hte, h5, h6]; rfl
              rw [prR_ok _ _ hmm htt] at h
              simp only [Prod.mk.injEq] at h
              obtain ⟨h7, rfl⟩ := h
              have HX : Hid (reqB m.data.toList t.data.toList ++ [13, 10] = x.data.toList) := h7
              have H6 : Hid (Lib.containsAny t.data.toList (⟨#[32, 9]⟩ : ByteArray).data.toList = false) := h6
              have hmi : (m.size : Int) ≤ 30 := by omega
              have hti : (t.size : Int) ≤ 200 := by omega
              clear h1 bad hml htl hmm hne hte h5 h6 h7 htt
              go_enter Tryz.func22, Tryz.ntmps22
              go_wp2_with fail
              refine (rtoken_any _ _ HS.out).mono ?_
              rintro e w' ⟨rfl, rfl⟩
              rw [H1.out]
              go_wp2_with fail
              refine (rplain_any _ _ HT.out).mono ?_
              rintro e w' ⟨rfl, rfl⟩
              rw [H5.out]
              go_wp2_with fail
              refine (Tryz.strings_ContainsAny_laid t ⟨#[32, 9]⟩ _ (by omega) (by decide) HLO.out (low_of _ (by decide))).mono ?_
              rintro e w1 ⟨rfl, hb⟩
              rw [H6.out]
              go_wp2_with fail
              go_ret2
              refine ⟨ret_sv ?_, hb⟩
              apply ByteArray.ext; apply Array.ext'
              rw [← HX.out]
              simp [reqB, verB]
            · obtain ⟨rfl, rfl⟩ := bad (by rw [hte, h6]; simp)
              have H6 : Hid (Lib.containsAny t.data.toList (⟨#[32, 9]⟩ : ByteArray).data.toList = true) := h6
              clear h1 h bad hml htl hmm hne hte h5 h6
              go_enter Tryz.func22, Tryz.ntmps22
              go_wp2_with fail
              refine (rtoken_any _ _ HS.out).mono ?_
              rintro e w' ⟨rfl, rfl⟩
              rw [H1.out]
              go_wp2_with fail
              refine (rplain_any _ _ HT.out).mono ?_
              rintro e w' ⟨rfl, rfl⟩
              rw [H5.out]
              go_wp2_with fail
              refine (Tryz.strings_ContainsAny_laid t ⟨#[32, 9]⟩ _ (by omega) (by decide) HLO.out (low_of _ (by decide))).mono ?_
              rintro e w1 ⟨rfl, hb⟩
              rw [H6.out]
              go_wp2_with fail
              go_ret2
              exact ⟨rfl, hb⟩
      · have he : t.data.toList.isEmpty = true := by rw [ByteArray.toList_eq] at h3; exact h3
        obtain ⟨rfl, rfl⟩ := bad (by unfold targ; rw [he]; simp)
        clear h1 h bad hml htl hmm he
        go_enter Tryz.func22, Tryz.ntmps22
        go_wp2_with fail
        refine (rtoken_any _ _ HS.out).mono ?_
        rintro e w' ⟨rfl, rfl⟩
        rw [H1.out]
        go_wp2_with fail
        go_ret2
        exact ⟨rfl, Below.refl _ _⟩
end Go.Proofs.YtipfjpihciiikaaGreatDoor

/-
  What MsgRequest of the document's answers computes.
-/
namespace Go.Proofs.YtipfjpihciiikaaGreatDoor
open Go.RowKit

set_option maxHeartbeats 2000000 in
set_option maxRecDepth 100000 in
theorem rwriteQ_at (m t : ByteArray) (v : Value) (ls : List Fld) (b x : ByteArray) (c : Int) (h : wrQ (kd true m.data.toList 0) m.data.toList t.data.toList ls b.data.toList = (x.data.toList, c)) (w : World) (hf : Fl w v ls) (hm : Most maxLen ls) (z1 : m.size ≤ maxLen) (z2 : t.size ≤ maxLen) :
    Calls Tryz.prog 10 #[.agg #[.string m, .string t, v, .string b]] w fun e w' => e = .returned (.tuple #[.string x, .int .i64 c]) ∧ Below w.heap.size w w' := by
  have HF : Hid (Fl w v ls) := hf
  have HM : Hid (Most maxLen ls) := hm
  have H1 : Hid (m.size ≤ maxLen) := z1
  have H2 : Hid (t.size ≤ maxLen) := z2
  clear hf hm z1 z2
  obtain ⟨p, d, hp⟩ : ∃ (p : ByteArray) (d : Int), prR m.data.toList t.data.toList = (p.data.toList, d) := ⟨⟨(prR m.data.toList t.data.toList).1.toArray⟩, _, rfl⟩
  have HP : Hid (prR m.data.toList t.data.toList = (p.data.toList, d)) := hp
  obtain ⟨u, f, hu⟩ : ∃ (u : ByteArray) (f : Int), wrB (kd true m.data.toList 0) ls b.data.toList = (u.data.toList, f) := ⟨⟨(wrB (kd true m.data.toList 0) ls b.data.toList).1.toArray⟩, _, rfl⟩
  have HU : Hid (wrB (kd true m.data.toList 0) ls b.data.toList = (u.data.toList, f)) := hu
  unfold wrQ at h
  rw [hp, hu] at h
  simp only at h
  by_cases hd : d = 0
  · subst hd
    rw [if_neg (by simp)] at h
    have HX : Hid ((if f = 0 then p ++ u else ⟨#[]⟩) = x) := by
      show _ = _
      by_cases hf0 : f = 0
      · rw [if_neg (by simpa using hf0), Prod.mk.injEq] at h
        rw [if_pos hf0]
        exact ba_app _ _ _ h.1.symm
      · rw [if_pos hf0, Prod.mk.injEq] at h
        rw [if_neg hf0]
        exact (ba_nil x h.1.symm).symm
    have hcf : c = f := by
      by_cases hf0 : f = 0
      · rw [if_neg (by simpa using hf0), Prod.mk.injEq] at h
        rw [hf0]; exact h.2.symm
      · rw [if_pos hf0, Prod.mk.injEq] at h
        exact h.2.symm
    subst hcf
    have HPS : Hid (p.size ≤ 300) := by
      show _ ≤ _
      cases hok : meth m.data.toList && targ t.data.toList
      · rw [prR_no _ _ hok] at hp; simp at hp
      · rw [Bool.and_eq_true] at hok
        rw [prR_ok _ _ hok.1 hok.2, Prod.mk.injEq] at hp
        rw [← size_list, ← hp.1, List.length_append]
        have := (reqB_le _ _ hok.1 hok.2).1
        simp; omega
    clear hp hu h
    go_enter Tryz.func10, Tryz.ntmps10
    go_wp2_with fail
    refine (rprintR_at m t p 0 HP.out _ H1.out H2.out).mono ?_
    rintro e w1 ⟨rfl, hb0⟩
    have c0 : w1.cell? ⟨w.heap.size, 0, none⟩ = some (.string m) := new_cell hb0 0
    have c2 : w1.cell? ⟨w.heap.size, 2, none⟩ = some v := new_cell hb0 2
    have c3 : w1.cell? ⟨w.heap.size, 3, none⟩ = some (.string b) := new_cell hb0 3
    have hb1 := below_new hb0
    clear hb0
    go_wp2_with fail
    refine (rmsg_at p true m 0 v ls b u c HU.out x HX.out _ (HF.out.below hb1) HM.out HPS.out).mono ?_
    rintro e w2 ⟨rfl, hb2⟩
    have hw2 := hb1.trans (hb2.mono hb1.size)
    clear hb1 hb2
    go_wp2_with fail
    go_ret2
    exact ⟨rfl, hw2⟩
  · rw [if_pos hd, Prod.mk.injEq] at h
    obtain ⟨h1, rfl⟩ := h
    obtain rfl := ba_nil x h1.symm
    have hdb : (d != 0) = true := by simpa using hd
    clear hp hu HU h1 hd
    go_enter Tryz.func10, Tryz.ntmps10
    go_wp2_with fail
    refine (rprintR_at m t p d HP.out _ H1.out H2.out).mono ?_
    rintro e w1 ⟨rfl, hb0⟩
    have hb1 := below_new hb0
    clear hb0
    go_wp2_with fail
    go_ret2
    exact ⟨rfl, hb1⟩
end Go.Proofs.YtipfjpihciiikaaGreatDoor

/-
  The walk through MsgWritesRequest: it answers true and turns nothing that was there; the listed variables that the library reads hold what their text lays.
-/
namespace Go.Proofs.YtipfjpihciiikaaGreatDoor
open Go.RowKit

set_option maxHeartbeats 2000000 in
set_option maxRecDepth 100000 in
theorem walkMsgWritesRequest (a0m a0t : ByteArray) (a0v : Value) (l0 : List Fld) (a0b : ByteArray) (w : World) (z0 : Fl w a0v l0) (m0 : Most maxLen l0) (x0 : a0m.size ≤ maxLen) (y0 : a0t.size ≤ maxLen) (_u0 : a0b.size ≤ maxLen) (hT : STabs w) (hH : HTab w) :
    Calls Tryz.prog 3 #[.agg #[.string a0m, .string a0t, a0v, .string a0b]] w fun e w' => e = .returned (.bool true) ∧ Below w.heap.size w w' := by
  have HF : Hid (Fl w a0v l0) := z0
  have HM : Hid (Most maxLen l0) := m0
  have HS : Hid (STabs w) := hT
  have HT : Hid (HTab w) := hH
  have H1 : Hid (a0m.size ≤ maxLen) := x0
  have H2 : Hid (a0t.size ≤ maxLen) := y0
  clear z0 m0 x0 y0 _u0 hT hH
  obtain ⟨x, c, hx⟩ : ∃ (x : ByteArray) (c : Int), wrQ (kd true a0m.data.toList 0) a0m.data.toList a0t.data.toList l0 a0b.data.toList = (x.data.toList, c) := ⟨⟨(wrQ (kd true a0m.data.toList 0) a0m.data.toList a0t.data.toList l0 a0b.data.toList).1.toArray⟩, _, rfl⟩
  have HX : Hid (wrQ (kd true a0m.data.toList 0) a0m.data.toList a0t.data.toList l0 a0b.data.toList = (x.data.toList, c)) := hx
  clear hx
  go_enter Tryz.func3, Tryz.ntmps3
  go_wp2_with fail
  refine (writeQ_at a0m a0t a0v l0 a0b x c HX.out _ (HF.out.below (below_alloc _ _)) HM.out (HS.out.below (below_alloc _ _)) (HT.out.below (below_alloc _ _)) H1.out H2.out).mono ?_
  rintro e w1 ⟨rfl, hb0⟩
  have c0 : w1.cell? ⟨w.heap.size, 0, none⟩ = some (.string a0m) := new_cell hb0 0
  have c1 : w1.cell? ⟨w.heap.size, 1, none⟩ = some (.string a0t) := new_cell hb0 1
  have c2 : w1.cell? ⟨w.heap.size, 2, none⟩ = some a0v := new_cell hb0 2
  have c3 : w1.cell? ⟨w.heap.size, 3, none⟩ = some (.string a0b) := new_cell hb0 3
  have hb1 := below_new hb0
  clear hb0
  go_wp2_with fail
  refine (rwriteQ_at a0m a0t a0v l0 a0b x c HX.out _ (HF.out.below hb1) HM.out H1.out H2.out).mono ?_
  rintro e w2 ⟨rfl, hb2⟩
  have hw2 := hb1.trans (hb2.mono hb1.size)
  clear hb1 hb2
  go_wp2_with fail
  go_ret
  exact ⟨ret_bool (by simp), hw2⟩
end Go.Proofs.YtipfjpihciiikaaGreatDoor

/-
  A list of fields that came in, opened as a plain list of names and values; no program is named here.
-/
namespace Go.Proofs.YtipfjpihciiikaaGreatDoor
open Go.RowKit Go.ChangeShapes Go.WideShapes Go.Deep

def bytesOfV : Value → List UInt8
  | .string s => s.data.toList
  | _ => []
theorem add_form (b off n : Nat) : (⟨b, off, none⟩ : Addr).add n = ⟨b, off + n, none⟩ := by
  by_cases h0 : n = 0
  · subst h0; simp [Addr.add]
  · simp [Addr.add, h0]
def fl1 {H : Type} (y : Fld) : DataW H := .agg [.lit (.string y.1), .lit (.string y.2)]

theorem open_fl {H : Type} {enc : TypeId × Value → H} {P : Program} {w : World} {base : Nat} {spare : Nat → Bool} {held : Bool} {t e : TypeId} {f0 f1 : Field} {fuel : Nat} {v : Value} {x : DataW H × List MemPlace}
    (ht : P.underlying t = some (.slice e)) (he : P.underlying e = some (.struct #[f0, f1])) (ce : P.cellsOf e = 2) (o0 : f0.offset = 0) (o1 : f1.offset = 1) (c0 : P.cellsOf f0.type = 1) (c1 : P.cellsOf f1.type = 1)
    (s0 : P.underlying f0.type = some .string) (s1 : P.underlying f1.type = some .string) (h : DataW.trod enc P w base spare held fuel t [v] = some x) :
    ∃ (ls : List Fld) (sp : List (DataW H)), Fl w v ls ∧ Most maxLen ls ∧ (x.1 = .nil ∧ ls = [] ∨ x.1 = .slice (ls.map fl1) sp) := by
  rcases open_slice_pairs ht he ce o0 o1 c0 c1 h with ⟨hcs, hx⟩ | ⟨a, len, cap, m, n, V0, V1, D0, D1, P0, P1, hcs, _, hl, hm, hmm, hx, hi⟩
  · simp only [List.cons.injEq, and_true] at hcs
    subst hcs
    have hM : Most maxLen [] := fun y hy => by cases hy
    exact ⟨[], [], Fl.nil w, hM, Or.inl ⟨by rw [hx], rfl⟩⟩
  · simp only [List.cons.injEq, and_true] at hcs
    subst hcs
    have hlm : len ≤ m := by rw [hmm]; split <;> omega
    have each : ∀ i, i < len → V0 i = .string ⟨(bytesOfV (V0 i)).toArray⟩ ∧ V1 i = .string ⟨(bytesOfV (V1 i)).toArray⟩ ∧ D0 i = .lit (.string (bytesOfV (V0 i))) ∧ D1 i = .lit (.string (bytesOfV (V1 i))) ∧ (bytesOfV (V0 i)).length ≤ maxLen ∧ (bytesOfV (V1 i)).length ≤ maxLen := by
      intro i hil
      obtain ⟨_, _, t0, t1⟩ := hi i (by omega)
      obtain ⟨a0, ha0, hd0, hz0⟩ := DataW.trod_string s0 t0
      obtain ⟨a1, ha1, hd1, hz1⟩ := DataW.trod_string s1 t1
      simp only [List.cons.injEq, and_true] at ha0 ha1
      simp only [Prod.mk.injEq] at hd0 hd1
      rw [ha0, ha1, hd0.1, hd1.1]
      refine ⟨rfl, rfl, rfl, rfl, ?_, ?_⟩
      · show a0.data.toList.length ≤ maxLen; rw [size_list]; exact hz0
      · show a1.data.toList.length ≤ maxLen; rw [size_list]; exact hz1
    refine ⟨(List.range len).map fun i => (bytesOfV (V0 i), bytesOfV (V1 i)), (List.range (m - len)).map fun j => .agg [D0 (len + j), D1 (len + j)], ⟨some a, cap, by simp, by simpa using hl, hm, fun h0 => ?_⟩, ?_, .inr ?_⟩
    rotate_left
    · intro y hy
      obtain ⟨i, hir, rfl⟩ := List.mem_map.1 hy
      obtain ⟨_, _, _, _, h5, h6⟩ := each i (List.mem_range.1 hir)
      exact ⟨h5, h6⟩
    · rw [hx]
      show DataW.slice _ _ = DataW.slice _ _
      congr 1
      rw [List.map_map]
      refine List.map_congr_left fun i hir => ?_
      obtain ⟨_, _, h3, h4, _⟩ := each i (List.mem_range.1 hir)
      show DataW.agg [D0 i, D1 i] = DataW.agg _
      rw [h3, h4]
    · simp only [List.length_map, List.length_range] at h0 ⊢
      obtain ⟨b, off, spot⟩ := a
      have hc0 := (hi 0 (by omega)).1
      have hspot : spot = none := by simpa [Addr.add] using World.cell?_spot hc0
      subst hspot
      refine ⟨b, off, rfl, ?_, fun k hk => ?_⟩
      · rw [add_form] at hc0
        exact cell_in hc0
      · obtain ⟨q0, q1, _⟩ := hi k (by omega)
        obtain ⟨h1, h2, _⟩ := each k hk
        rw [add_form] at q0 q1
        rw [List.getElem_map, List.getElem_range]
        refine ⟨?_, ?_⟩
        · rw [q0, h1]; rfl
        · rw [Nat.add_assoc, q1, h2]; rfl
end Go.Proofs.YtipfjpihciiikaaGreatDoor

/-
  What isCode, isReason, PrintStatus and readCode of package line compute; a string is no longer than Go allows, and the listed variables of package strconv hold what their text lays.
-/
namespace Go.Proofs.YtipfjpihciiikaaGreatDoor
open Go.RowKit

set_option maxRecDepth 100000 in
theorem isCode_any (n : Int) (w : World) :
    Calls Tryz.prog 57 #[.int .i64 n] w fun e w' => e = .returned (.bool (codeB n)) ∧ w' = w := by
  unfold codeB
  rcases (show n < 100 ∨ (100 ≤ n ∧ n ≤ 599) ∨ (100 ≤ n ∧ 599 < n) by omega) with h | ⟨h, h'⟩ | ⟨h, h'⟩
  · rw [decide_eq_false (by omega)]
    have hd : decide (100 ≤ n) = false := decide_eq_false (by omega)
    go_enter Tryz.func57, Tryz.ntmps57
    go_wp2
    go_ret
    exact ⟨ret_bool (by simp), rfl⟩
  · rw [decide_eq_true (by omega)]
    go_enter Tryz.func57, Tryz.ntmps57
    go_wp2
    go_ret
    exact ⟨ret_bool (by first | (simp; done) | (simp; omega)), rfl⟩
  · rw [decide_eq_false (by omega)]
    go_enter Tryz.func57, Tryz.ntmps57
    go_wp2
    go_ret
    exact ⟨ret_bool (by first | (simp; done) | (simp; omega)), rfl⟩

set_option maxRecDepth 100000 in
theorem isReason_any (s : ByteArray) (w : World) (hs : s.size ≤ maxLen) :
    Calls Tryz.prog 58 #[.string s] w fun e w' => e = .returned (.bool (reas s.data.toList)) ∧ w' = w := by
  have HS : Hid (s.size ≤ maxLen) := hs
  clear hs
  cases ht : allPlain s.data.toList
  · have HT : Hid (allPlain s.data.toList = false) := ht
    clear ht
    go_enter Tryz.func58, Tryz.ntmps58
    go_wp2_with fail
    refine (isPlainS_any _ _ HS.out).mono ?_
    rintro e w' ⟨rfl, rfl⟩
    rw [HT.out]
    go_wp2_with fail
    go_ret
    refine ⟨ret_bool ?_, rfl⟩
    unfold reas; rw [HT.out, Bool.false_and]
  · have HT : Hid (allPlain s.data.toList = true) := ht
    clear ht
    go_enter Tryz.func58, Tryz.ntmps58
    go_wp2_with fail
    refine (isPlainS_any _ _ HS.out).mono ?_
    rintro e w' ⟨rfl, rfl⟩
    rw [HT.out]
    go_wp2_with fail
    go_ret
    refine ⟨ret_bool ?_, rfl⟩
    unfold reas; rw [HT.out, Bool.true_and, size_list, decide_eq_decide]; omega

theorem grow_belowS (w : World) (k : Nat) (os : Array Obj) : Below w.heap.size w (Sort.grow (w.drewN k) os) := by
  have h1 := drewN_below w.heap.size w k
  refine ⟨h1.os, h1.tape, h1.output, ?_, fun j hj => ?_⟩
  · rw [Sort.size_grow]; have := h1.size; omega
  · rw [Sort.heap_grow_old _ _ (by have := h1.size; omega)]
    exact h1.block j hj
theorem itoa_at (n : Int) (t : ByteArray) (hn : codeB n = true) (ht : t.data.toList = dig3 n.toNat) (w : World) (hT : STabs w) :
    Calls Tryz.prog 59 #[.int .i64 n] w fun e w' => e = .returned (.string t) ∧ Below w.heap.size w w' := by
  obtain ⟨h1, h2⟩ := code_is n hn
  refine (Tryz.strconv_Itoa n (by omega) (by omega) w hT.pow).mono ?_
  rintro e w' ⟨rfl, k, os, rfl⟩
  refine ⟨ret_str ?_, grow_belowS w k os⟩
  rw [itoa_3 n hn]
  exact mk_self t _ ht

theorem ret_sw {a b : ByteArray} {v : Value} (h : a = b) : Ending.returned (.tuple #[.string a, v]) = .returned (.tuple #[.string b, v]) := by rw [h]

set_option maxHeartbeats 1000000 in
set_option maxRecDepth 100000 in
theorem printS_at (n : Int) (r x : ByteArray) (c : Int) (h : prS n r.data.toList = (x.data.toList, c)) (w : World) (hr : r.size ≤ maxLen) (hT : STabs w) :
    Calls Tryz.prog 29 #[.int .i64 n, .string r] w fun e w' => e = .returned (.tuple #[.string x, .int .i64 c]) ∧ Below w.heap.size w w' := by
  have HR : Hid (r.size ≤ maxLen) := hr
  have HT : Hid (STabs w) := hT
  clear hr hT
  cases h1 : codeB n
  · rw [prS_arg _ _ h1] at h
    simp only [Prod.mk.injEq] at h
    obtain ⟨h2, rfl⟩ := h
    obtain rfl : (⟨#[]⟩ : ByteArray) = x := mk_self x [] h2.symm
    have H1 : Hid (codeB n = false) := h1
    clear h1 h2
    go_enter Tryz.func29, Tryz.ntmps29
    go_wp2_with fail
    refine (isCode_any _ _).mono ?_
    rintro e w' ⟨rfl, rfl⟩
    rw [H1.out]
    go_wp2_with fail
    go_ret2
    exact ⟨rfl, Below.refl _ _⟩
  · have H1 : Hid (codeB n = true) := h1
    cases h2 : reas r.data.toList
    · rw [prS_syn _ _ h1 h2] at h
      simp only [Prod.mk.injEq] at h
      obtain ⟨h3, rfl⟩ := h
      obtain rfl : (⟨#[]⟩ : ByteArray) = x := mk_self x [] h3.symm
      have H2 : Hid (reas r.data.toList = false) := h2
      clear h1 h2 h3
      go_enter Tryz.func29, Tryz.ntmps29
      go_wp2_with fail
      refine (isCode_any _ _).mono ?_
      rintro e w' ⟨rfl, rfl⟩
      rw [H1.out]
      go_wp2_with fail
      refine (isReason_any _ _ HR.out).mono ?_
      rintro e w' ⟨rfl, rfl⟩
      rw [H2.out]
      go_wp2_with fail
      go_ret2
      exact ⟨rfl, Below.refl _ _⟩
    · rw [prS_ok _ _ h1 h2] at h
      simp only [Prod.mk.injEq] at h
      obtain ⟨h3, rfl⟩ := h
      have HX : Hid (stB n r.data.toList ++ [13, 10] = x.data.toList) := h3
      have H2 : Hid (reas r.data.toList = true) := h2
      have hrs : r.size ≤ 100 := by rw [← size_list]; exact (reas_is _ h2).2
      obtain ⟨t, ht⟩ : ∃ t : ByteArray, t.data.toList = dig3 n.toNat := ⟨⟨(dig3 n.toNat).toArray⟩, rfl⟩
      have HD : Hid (t.data.toList = dig3 n.toNat) := ht
      have hts : t.size = 3 := by rw [← size_list, ht]; rfl
      clear h1 h2 h3 ht
      go_enter Tryz.func29, Tryz.ntmps29
      go_wp2_with fail
      refine (isCode_any _ _).mono ?_
      rintro e w' ⟨rfl, rfl⟩
      rw [H1.out]
      go_wp2_with fail
      refine (isReason_any _ _ HR.out).mono ?_
      rintro e w' ⟨rfl, rfl⟩
      rw [H2.out]
      go_wp2_with fail
      refine (itoa_at n t H1.out HD.out _ HT.out).mono ?_
      rintro e w' ⟨rfl, hb⟩
      go_wp2_with fail
      go_ret2
      refine ⟨ret_sw ?_, hb⟩
      apply ByteArray.ext; apply Array.ext'
      rw [← HX.out]
      simp [stB, verP, HD.out]

set_option maxHeartbeats 1000000 in
set_option maxRecDepth 100000 in
theorem readCode_at (s : ByteArray) (v : Int) (b : Bool) (h : rdC s.data.toList = (v, b)) (w : World) (hs : s.size ≤ 100000) (hT : STabs w) :
    Calls Tryz.prog 97 #[.string s] w fun e w' => e = .returned (.tuple #[.int .i64 v, .bool b]) ∧ Below w.heap.size w w' := by
  have HT : Hid (STabs w) := hT
  clear hT
  unfold rdC at h
  split at h
  · rename_i u hu
    simp only [Prod.mk.injEq] at h
    obtain ⟨rfl, hb⟩ := h
    have HU : Hid (Lib.atoiAll s.data.toList = .ok u) := hu
    cases hc : codeB u
    · rw [hc, Bool.false_and] at hb
      subst hb
      have HC : Hid (codeB u = false) := hc
      clear hu hc
      go_enter Tryz.func97, Tryz.ntmps97
      go_wp2_with fail
      refine (Tryz.strconv_Atoi_ok s (by omega) u HU.out _).mono ?_
      rintro e w1 ⟨rfl, hw1⟩
      have hb1 : Below w.heap.size w w1 := by
        rcases hw1 with rfl | ⟨t, rfl⟩
        · exact Below.refl _ _
        · exact Lib.bytesWorld_below _ _ _
      clear hw1
      go_wp2_with fail
      refine (isCode_any _ _).mono ?_
      rintro e w' ⟨rfl, rfl⟩
      rw [HC.out]
      go_wp2_with fail
      go_ret2
      exact ⟨rfl, hb1⟩
    · rw [hc, Bool.true_and] at hb
      have HC : Hid (codeB u = true) := hc
      obtain ⟨t, ht⟩ : ∃ t : ByteArray, t.data.toList = dig3 u.toNat := ⟨⟨(dig3 u.toNat).toArray⟩, rfl⟩
      have HD : Hid (t.data.toList = dig3 u.toNat) := ht
      have heq : (t.toList == s.toList) = b := by
        rw [← hb, itoa_3 u hc, ← ht, ByteArray.toList_eq, ByteArray.toList_eq, Bool.eq_iff_iff]; simp
      clear hu hc hb ht
      go_enter Tryz.func97, Tryz.ntmps97
      go_wp2_with fail
      refine (Tryz.strconv_Atoi_ok s (by omega) u HU.out _).mono ?_
      rintro e w1 ⟨rfl, hw1⟩
      have hb1 : Below w.heap.size w w1 := by
        rcases hw1 with rfl | ⟨t, rfl⟩
        · exact Below.refl _ _
        · exact Lib.bytesWorld_below _ _ _
      clear hw1
      go_wp2_with fail
      refine (isCode_any _ _).mono ?_
      rintro e w' ⟨rfl, rfl⟩
      rw [HC.out]
      go_wp2_with fail
      refine (itoa_at u t HC.out HD.out _ (HT.out.below hb1)).mono ?_
      rintro e w2 ⟨rfl, hb2⟩
      have hb3 := hb1.trans (hb2.mono hb1.size)
      clear hb1 hb2
      go_wp2_with fail
      go_ret2
      exact ⟨rfl, hb3⟩
  · rename_i hu
    simp only [Prod.mk.injEq] at h
    obtain ⟨rfl, rfl⟩ := h
    have HU : Hid (Lib.atoiAll s.data.toList = .«syntax») := hu
    obtain ⟨te, pe, hev⟩ := HT.out.syn
    have HV : Hid (w.cell? ⟨2, 0, none⟩ = some (.iface te pe)) := hev
    clear hu hev
    go_enter Tryz.func97, Tryz.ntmps97
    go_wp2_with fail
    refine (Tryz.strconv_Atoi_syntax s (by omega) HU.out _ _ HV.out (.inr ⟨_, _, rfl⟩)).mono ?_
    rintro e w1 ⟨N, rfl, _, _, hb⟩
    go_wp2_with fail
    go_ret2
    exact ⟨rfl, hb⟩
  · rename_i hu
    simp only [Prod.mk.injEq] at h
    obtain ⟨rfl, rfl⟩ := h
    have HU : Hid (Lib.atoiAll s.data.toList = .range) := hu
    obtain ⟨te, pe, hev⟩ := HT.out.rng
    have HV : Hid (w.cell? ⟨3, 0, none⟩ = some (.iface te pe)) := hev
    clear hu hev
    go_enter Tryz.func97, Tryz.ntmps97
    go_wp2_with fail
    refine (Tryz.strconv_Atoi_range s (by omega) HU.out _ _ HV.out (.inr ⟨_, _, rfl⟩)).mono ?_
    rintro e w1 ⟨N, rfl, _, _, hb⟩
    go_wp2_with fail
    go_ret2
    exact ⟨rfl, hb⟩
end Go.Proofs.YtipfjpihciiikaaGreatDoor

/-
  What WriteResponse of package msg computes; the listed variables that the library reads hold what their text lays.
-/
namespace Go.Proofs.YtipfjpihciiikaaGreatDoor
open Go.RowKit

abbrev KP (m : List UInt8) (c : Int) : Kd := kd false m c
set_option maxHeartbeats 2000000 in
set_option maxRecDepth 100000 in
theorem writeP_at (m : ByteArray) (code : Int) (t : ByteArray) (v : Value) (ls : List Fld) (b x : ByteArray) (c : Int) (h : wrP (KP m.data.toList code) code t.data.toList ls b.data.toList = (x.data.toList, c)) (w : World) (hf : Fl w v ls) (hm : Most maxLen ls) (hS : STabs w) (hT : HTab w) (z2 : t.size ≤ maxLen) :
    Calls Tryz.prog 14 #[.string m, .agg #[.int .i64 code, .string t, v, .string b]] w fun e w' => e = .returned (.tuple #[.string x, .int .i64 c]) ∧ Below w.heap.size w w' := by
  have HF : Hid (Fl w v ls) := hf
  have HM : Hid (Most maxLen ls) := hm
  have HS : Hid (STabs w) := hS
  have HT : Hid (HTab w) := hT
  have H2 : Hid (t.size ≤ maxLen) := z2
  clear hf hm hS hT z2
  obtain ⟨p, d, hp⟩ : ∃ (p : ByteArray) (d : Int), prS code t.data.toList = (p.data.toList, d) := ⟨⟨(prS code t.data.toList).1.toArray⟩, _, rfl⟩
  have HP : Hid (prS code t.data.toList = (p.data.toList, d)) := hp
  obtain ⟨u, f, hu⟩ : ∃ (u : ByteArray) (f : Int), wrB (KP m.data.toList code) ls b.data.toList = (u.data.toList, f) := ⟨⟨(wrB (KP m.data.toList code) ls b.data.toList).1.toArray⟩, _, rfl⟩
  have HU : Hid (wrB (KP m.data.toList code) ls b.data.toList = (u.data.toList, f)) := hu
  have emp : ∀ y : Int, ([], y) = (x.data.toList, c) → x = ⟨#[]⟩ ∧ c = y := by
    intro y hx
    simp only [Prod.mk.injEq] at hx
    exact ⟨by apply ByteArray.ext; apply Array.ext'; exact hx.1.symm, hx.2.symm⟩
  unfold wrP at h
  rw [hp, hu] at h
  simp only at h
  by_cases hd : d = 0
  · subst hd
    rw [if_neg (by simp)] at h
    by_cases hf0 : f = 0
    · subst hf0
      rw [if_neg (by simp), Prod.mk.injEq] at h
      obtain ⟨hx, rfl⟩ := h
      have HX : Hid (p ++ u = x) := by
        show _ = _
        apply ByteArray.ext; apply Array.ext'
        rw [ByteArray.data_append, Array.toList_append]
        exact hx
      have hus : u.size ≤ 76027 := by rw [← size_list]; exact wrB_len (kd_ok false m.data.toList code) hu
      have hps : p.size ≤ 115 := by
        cases h1 : codeB code
        · rw [prS_arg _ _ h1] at hp; simp at hp
        · cases h2 : reas t.data.toList
          · rw [prS_syn _ _ h1 h2] at hp; simp at hp
          · rw [prS_ok _ _ h1 h2, Prod.mk.injEq] at hp
            rw [← size_list, ← hp.1, List.length_append]
            have := (stB_le code _ h2).1
            simp; omega
      clear hp hu emp hx
      go_enter Tryz.func14, Tryz.ntmps14
      go_wp2_with fail
      refine (printS_at code t p 0 HP.out _ H2.out (HS.out.below (below_alloc _ _))).mono ?_
      rintro e w1 ⟨rfl, hb0⟩
      have c0 : w1.cell? ⟨w.heap.size, 0, none⟩ = some (.int .i64 code) := new_cell hb0 0
      have c2 : w1.cell? ⟨w.heap.size, 2, none⟩ = some v := new_cell hb0 2
      have c3 : w1.cell? ⟨w.heap.size, 3, none⟩ = some (.string b) := new_cell hb0 3
      have hb1 := below_new hb0
      clear hb0
      go_wp2_with fail
      refine (wrest_at false m code v ls b u 0 HU.out _ (HF.out.below hb1) HM.out (HS.out.below hb1) (HT.out.below hb1)).mono ?_
      rintro e w2 ⟨rfl, hb2⟩
      have hw2 := hb1.trans (hb2.mono hb1.size)
      clear hb1 hb2
      go_wp2_with fail
      go_ret2
      exact ⟨ret_se HX.out rfl, hw2⟩
    · rw [if_pos hf0] at h
      obtain ⟨rfl, rfl⟩ := emp _ h
      have hfb : (c != 0) = true := by simpa using hf0
      clear hp hu emp h hf0
      go_enter Tryz.func14, Tryz.ntmps14
      go_wp2_with fail
      refine (printS_at code t p 0 HP.out _ H2.out (HS.out.below (below_alloc _ _))).mono ?_
      rintro e w1 ⟨rfl, hb0⟩
      have c0 : w1.cell? ⟨w.heap.size, 0, none⟩ = some (.int .i64 code) := new_cell hb0 0
      have c2 : w1.cell? ⟨w.heap.size, 2, none⟩ = some v := new_cell hb0 2
      have c3 : w1.cell? ⟨w.heap.size, 3, none⟩ = some (.string b) := new_cell hb0 3
      have hb1 := below_new hb0
      clear hb0
      go_wp2_with fail
      refine (wrest_at false m code v ls b u c HU.out _ (HF.out.below hb1) HM.out (HS.out.below hb1) (HT.out.below hb1)).mono ?_
      rintro e w2 ⟨rfl, hb2⟩
      have hw2 := hb1.trans (hb2.mono hb1.size)
      clear hb1 hb2
      go_wp2_with fail
      go_ret2
      exact ⟨rfl, hw2⟩
  · rw [if_pos hd] at h
    obtain ⟨rfl, rfl⟩ := emp _ h
    have hdb : (c != 0) = true := by simpa using hd
    clear hp hu HU emp h hd
    go_enter Tryz.func14, Tryz.ntmps14
    go_wp2_with fail
    refine (printS_at code t p c HP.out _ H2.out (HS.out.below (below_alloc _ _))).mono ?_
    rintro e w1 ⟨rfl, hb0⟩
    have c0 : w1.cell? ⟨w.heap.size, 0, none⟩ = some (.int .i64 code) := new_cell hb0 0
    have c2 : w1.cell? ⟨w.heap.size, 2, none⟩ = some v := new_cell hb0 2
    have c3 : w1.cell? ⟨w.heap.size, 3, none⟩ = some (.string b) := new_cell hb0 3
    have hb1 := below_new hb0
    clear hb0
    go_wp2_with fail
    go_ret2
    exact ⟨rfl, hb1⟩
end Go.Proofs.YtipfjpihciiikaaGreatDoor

/-
  What readRequest and ParseRequest of package line compute; a text that is parsed has less than 2^32 - 15 bytes (or its line ends early), and the package variable that the library reads holds some number.
-/
namespace Go.Proofs.YtipfjpihciiikaaGreatDoor
open Go.RowKit

/-- A text without its end, and whether it ends so. -/
def cutSuf (s p : List UInt8) : List UInt8 × Bool := (Lib.trimSuffix s p, Lib.hasSuffix s p)
theorem scutSuf_at (s p a : ByteArray) (f : Bool) (h : cutSuf s.data.toList p.data.toList = (a.data.toList, f)) (w : World) (hs : s.size ≤ 100000) :
    Calls Tryz.prog 84 #[.string s, .string p] w fun e w' => e = .returned (.tuple #[.string a, .bool f]) ∧ w' = w := by
  refine (Tryz.strings_CutSuffix s p w (by omega)).mono ?_
  rintro e w' ⟨rfl, rfl⟩
  refine ⟨?_, rfl⟩
  unfold cutSuf at h
  simp only [Prod.mk.injEq] at h
  rw [h.1, h.2]

/-- What stands ahead of the version, if it stands there. -/
theorem cutSuf_yes (t : List UInt8) : cutSuf (t ++ verB) verB = (t, true) := by
  have h : Lib.hasSuffix (t ++ verB) verB = true := by
    unfold Lib.hasSuffix; exact List.isSuffixOf_iff_suffix.2 ⟨t, rfl⟩
  unfold cutSuf Lib.trimSuffix
  rw [h, if_pos rfl]
  simp
theorem cutSuf_two (r : List UInt8) : (∃ t, r = t ++ verB) ∨ cutSuf r verB = (r, false) := by
  cases h : Lib.hasSuffix r verB
  · exact .inr (by unfold cutSuf Lib.trimSuffix; rw [h]; rfl)
  · unfold Lib.hasSuffix at h
    obtain ⟨t, ht⟩ := List.isSuffixOf_iff_suffix.1 h
    exact .inl ⟨t, ht.symm⟩
theorem ret_abf {v u : Value} {a b : Bool} (h : a = b) : Ending.returned (.tuple #[v, u, .bool a]) = .returned (.tuple #[v, u, .bool b]) := by rw [h]

set_option maxHeartbeats 1000000 in
set_option maxRecDepth 100000 in
theorem readR_ok (s a b : ByteArray) (h : s.data.toList = reqB a.data.toList b.data.toList) (hm : meth a.data.toList = true) (ht : targ b.data.toList = true) (m : Int) (w : World) (hc : w.cell? ⟨0, 0, none⟩ = some (.int .i64 m)) :
    Calls Tryz.prog 48 #[.string s] w fun e w' => e = .returned (.tuple #[.string a, .string b, .bool true]) ∧ ∃ n, w' = w.drewN n := by
  have HM : Hid (w.cell? ⟨0, 0, none⟩ = some (.int .i64 m)) := hc
  obtain ⟨r, hr⟩ : ∃ r : ByteArray, r.data.toList = b.data.toList ++ verB := ⟨⟨(b.data.toList ++ verB).toArray⟩, rfl⟩
  have hle := (reqB_le _ _ hm ht).1
  rw [← h, size_list] at hle
  have hal := (meth_is _ hm).2
  have hbl := (targ_is _ ht).2.2
  have hrl : r.size ≤ 209 := by rw [← size_list, hr, List.length_append]; simp [verB]; rw [size_list] at hbl; simpa using hbl
  rw [size_list] at hal hbl
  have HA : Hid (a.size ≤ maxLen) := by show _ ≤ _; unfold maxLen; omega
  have HB : Hid (b.size ≤ maxLen) := by show _ ≤ _; unfold maxLen; omega
  have HC : Hid (Lib.cut s.data.toList (⟨#[32]⟩ : ByteArray).data.toList = (a.data.toList, r.data.toList, true)) := by
    have hi := index_byte_at 32 a.data.toList (b.data.toList ++ verB) (meth_no _ 32 (by decide) hm)
    show _ = _
    rw [h, hr]
    unfold reqB
    refine (cut_yes _ _ a.data.toList.length hi).trans ?_
    rw [List.take_left' rfl, List.drop_append]
    simp
  have HS : Hid (cutSuf r.data.toList (⟨#[32, 72, 84, 84, 80, 47, 49, 46, 49]⟩ : ByteArray).data.toList = (b.data.toList, true)) := by
    show _ = _
    rw [hr]; exact cutSuf_yes _
  have HMe : Hid (meth a.data.toList = true) := hm
  have HTa : Hid (targ b.data.toList = true) := ht
  clear hc h hm ht hr
  go_enter Tryz.func48, Tryz.ntmps48
  go_wp2_with fail
  refine (scut_at s _ a r true HC.out m _ HM.out (by omega)).mono ?_
  rintro e w1 ⟨rfl, nd, rfl⟩
  go_wp2_with fail
  refine (scutSuf_at r _ b true HS.out _ (by omega)).mono ?_
  rintro e w2 ⟨rfl, rfl⟩
  go_wp2_with fail
  refine (isMethod_any _ _ HA.out).mono ?_
  rintro e w3 ⟨rfl, rfl⟩
  rw [HMe.out]
  go_wp2_with fail
  refine (isTarget_any _ _ HB.out).mono ?_
  rintro e w4 ⟨rfl, rfl⟩
  rw [HTa.out]
  go_wp2_with fail
  go_ret3
  exact ⟨rfl, nd, rfl⟩

set_option maxHeartbeats 2000000 in
set_option maxRecDepth 100000 in
theorem readR_no (s : ByteArray) (h : rdR s.data.toList = none) (m : Int) (w : World) (hc : w.cell? ⟨0, 0, none⟩ = some (.int .i64 m)) (hs : s.size ≤ 300) :
    Calls Tryz.prog 48 #[.string s] w fun e w' => (∃ x y, e = .returned (.tuple #[.string x, .string y, .bool false])) ∧ ∃ n, w' = w.drewN n := by
  have HM : Hid (w.cell? ⟨0, 0, none⟩ = some (.int .i64 m)) := hc
  clear hc
  have hsl := size_list s
  rcases index_two' s.data.toList [32] with hi | ⟨k, hi, hk⟩
  · have HC : Hid (Lib.cut s.data.toList (⟨#[32]⟩ : ByteArray).data.toList = (s.data.toList, (⟨#[]⟩ : ByteArray).data.toList, false)) := cut_no _ _ hi
    have HS : Hid (cutSuf (⟨#[]⟩ : ByteArray).data.toList (⟨#[32, 72, 84, 84, 80, 47, 49, 46, 49]⟩ : ByteArray).data.toList = ((⟨#[]⟩ : ByteArray).data.toList, false)) := rfl
    clear hi h hsl
    go_enter Tryz.func48, Tryz.ntmps48
    go_wp2_with fail
    refine (scut_at s _ s ⟨#[]⟩ false HC.out m _ HM.out (by omega)).mono ?_
    rintro e w1 ⟨rfl, nd, rfl⟩
    go_wp2_with fail
    refine (scutSuf_at _ _ ⟨#[]⟩ false HS.out _ (by decide)).mono ?_
    rintro e w2 ⟨rfl, rfl⟩
    go_wp2_with fail
    go_ret3
    exact ⟨⟨_, _, rfl⟩, nd, rfl⟩
  · obtain ⟨a, ha⟩ : ∃ a : ByteArray, a.data.toList = s.data.toList.take k := ⟨⟨(s.data.toList.take k).toArray⟩, rfl⟩
    obtain ⟨r, hr⟩ : ∃ r : ByteArray, r.data.toList = s.data.toList.drop (k + 1) := ⟨⟨(s.data.toList.drop (k + 1)).toArray⟩, rfl⟩
    have hsp := cut_split _ _ k hi
    have has : a.size ≤ 300 := by rw [← size_list, ha, List.length_take]; omega
    have hrs : r.size ≤ 300 := by rw [← size_list, hr, List.length_drop]; omega
    have HA : Hid (a.size ≤ maxLen) := by show _ ≤ _; unfold maxLen; omega
    have HC : Hid (Lib.cut s.data.toList (⟨#[32]⟩ : ByteArray).data.toList = (a.data.toList, r.data.toList, true)) := by
      show _ = _
      rw [ha, hr]; exact cut_yes _ _ k hi
    rcases cutSuf_two r.data.toList with ⟨t, ht⟩ | hno
    · obtain ⟨b, hb⟩ : ∃ b : ByteArray, b.data.toList = t := ⟨⟨t.toArray⟩, rfl⟩
      have hbs : b.size ≤ 300 := by
        have e := size_list r
        rw [ht, List.length_append, ← hb, size_list] at e; omega
      have HB : Hid (b.size ≤ maxLen) := by show _ ≤ _; unfold maxLen; omega
      have HS : Hid (cutSuf r.data.toList (⟨#[32, 72, 84, 84, 80, 47, 49, 46, 49]⟩ : ByteArray).data.toList = (b.data.toList, true)) := by
        show _ = _
        rw [ht, hb]; exact cutSuf_yes _
      have hrq : s.data.toList = reqB a.data.toList b.data.toList := by
        rw [hsp, ← ha]
        unfold reqB
        rw [hb, ← ht, hr]; rfl
      cases hm : meth a.data.toList
      · have HMe : Hid (meth a.data.toList = false) := hm
        clear hm hrq hb ht hr ha hsp hi h hk hsl
        go_enter Tryz.func48, Tryz.ntmps48
        go_wp2_with fail
        refine (scut_at s _ a r true HC.out m _ HM.out (by omega)).mono ?_
        rintro e w1 ⟨rfl, nd, rfl⟩
        go_wp2_with fail
        refine (scutSuf_at r _ b true HS.out _ (by omega)).mono ?_
        rintro e w2 ⟨rfl, rfl⟩
        go_wp2_with fail
        refine (isMethod_any _ _ HA.out).mono ?_
        rintro e w3 ⟨rfl, rfl⟩
        rw [HMe.out]
        go_wp2_with fail
        go_ret3
        exact ⟨⟨_, _, rfl⟩, nd, rfl⟩
      · have HMe : Hid (meth a.data.toList = true) := hm
        cases htt : targ b.data.toList
        · have HTa : Hid (targ b.data.toList = false) := htt
          clear hm hrq hb ht hr ha hsp hi h hk hsl htt
          go_enter Tryz.func48, Tryz.ntmps48
          go_wp2_with fail
          refine (scut_at s _ a r true HC.out m _ HM.out (by omega)).mono ?_
          rintro e w1 ⟨rfl, nd, rfl⟩
          go_wp2_with fail
          refine (scutSuf_at r _ b true HS.out _ (by omega)).mono ?_
          rintro e w2 ⟨rfl, rfl⟩
          go_wp2_with fail
          refine (isMethod_any _ _ HA.out).mono ?_
          rintro e w3 ⟨rfl, rfl⟩
          rw [HMe.out]
          go_wp2_with fail
          refine (isTarget_any _ _ HB.out).mono ?_
          rintro e w4 ⟨rfl, rfl⟩
          rw [HTa.out]
          go_wp2_with fail
          go_ret3
          exact ⟨⟨_, _, rfl⟩, nd, rfl⟩
        · exact absurd hrq (rdR_none _ h _ _ hm htt)
    · have HS : Hid (cutSuf r.data.toList (⟨#[32, 72, 84, 84, 80, 47, 49, 46, 49]⟩ : ByteArray).data.toList = (r.data.toList, false)) := hno
      clear hno hr ha hsp hi h hk hsl
      go_enter Tryz.func48, Tryz.ntmps48
      go_wp2_with fail
      refine (scut_at s _ a r true HC.out m _ HM.out (by omega)).mono ?_
      rintro e w1 ⟨rfl, nd, rfl⟩
      go_wp2_with fail
      refine (scutSuf_at r _ r false HS.out _ (by omega)).mono ?_
      rintro e w2 ⟨rfl, rfl⟩
      go_wp2_with fail
      go_ret3
      exact ⟨⟨_, _, rfl⟩, nd, rfl⟩
end Go.Proofs.YtipfjpihciiikaaGreatDoor

/-
  What ParseRequest of package line computes; a text has less than 2^32 - 15 bytes (or its line ends early), and the package variable that the library reads holds some number.
-/
namespace Go.Proofs.YtipfjpihciiikaaGreatDoor
open Go.RowKit

/-- A return of four results. -/
theorem results_four {fn : Func} {t u v z : Tmp} (h : fn.results = #[.tmp t, .tmp u, .tmp v, .tmp z]) (tmps : Array Value) (P : Program) (w : World) :
    (results fn tmps).run P w = .ok (.tuple #[tmps.getD t undef, tmps.getD u undef, tmps.getD v undef, tmps.getD z undef]) w := by
  simp [results, h]
theorem ret_four {v u : Value} {a b : Int} {z : Value} (h : a = b) : Ending.returned (.tuple #[v, u, .int .i64 a, z]) = .returned (.tuple #[v, u, .int .i64 b, z]) := by rw [h]

set_option maxHeartbeats 1000000 in
set_option maxRecDepth 100000 in
/-- Where the line is cut off, and is one. -/
theorem parseR_of (s l b x y : ByteArray) (hl : l.data.toList = reqB x.data.toList y.data.toList) (hx : meth x.data.toList = true) (hy : targ y.data.toList = true) (hs : s.size ≤ 1152921504606846976) (hb : b.size ≤ s.size) (m : Int) (w : World) (hm : w.cell? ⟨0, 0, none⟩ = some (.int .i64 m))
    (hc : ∀ W : World, W = w → Calls Tryz.prog 47 #[.string s, .int .i64 300] W fun e w' => e = .returned (.tuple #[.string l, .string b, .int .i64 0]) ∧ ∃ n, w' = W.drewN n) :
    Calls Tryz.prog 24 #[.string s] w fun e w' => e = .returned (.tuple #[.string x, .string y, .int .i64 ((s.size : Int) - (b.size : Int)), .int .i64 0]) ∧ Below w.heap.size w w' := by
  have HM : Hid (w.cell? ⟨0, 0, none⟩ = some (.int .i64 m)) := hm
  have HL : Hid (l.data.toList = reqB x.data.toList y.data.toList) := hl
  have hxl := (meth_is _ hx).2
  have hyl := (targ_is _ hy).2.2
  rw [size_list] at hxl hyl
  have HX : Hid (meth x.data.toList = true) := hx
  have HY : Hid (targ y.data.toList = true) := hy
  clear hm hl hx hy
  go_enter Tryz.func24, Tryz.ntmps24
  go_wp2_with fail
  refine (hc _ rfl).mono ?_
  rintro e w1 ⟨rfl, nd, rfl⟩
  have HB1 := drewN_below w.heap.size w nd
  go_wp2_with fail
  refine (readR_ok l x y HL.out HX.out HY.out m _ (cell_keep HB1 HM.out)).mono ?_
  rintro e w2 ⟨rfl, nd2, rfl⟩
  have HB2 := HB1.trans (drewN_below w.heap.size (w.drewN nd) nd2)
  clear HB1
  generalize (w.drewN nd).drewN nd2 = w2 at HB2
  go_wp2_with fail
  refine (clone_big x _ (by omega)).mono ?_
  rintro e w3 ⟨rfl, hb3⟩
  have HB3 := HB2.trans (hb3.mono HB2.size)
  clear hb3
  go_wp2_with fail
  refine (clone_big y _ (by omega)).mono ?_
  rintro e w4 ⟨rfl, hb4⟩
  have HB4 := HB3.trans (hb4.mono HB3.size)
  clear hb4
  go_wp2_with fail
  (try simp only [Exit.inBlock, Exit.then])
  refine bodyPost_ret (results_four rfl _ _ _) rfl ?_
  exact ⟨rfl, HB4⟩

set_option maxHeartbeats 2000000 in
set_option maxRecDepth 100000 in
theorem parseR_at (s x y : ByteArray) (n c : Int) (h : paR s.data.toList = ((x.data.toList, y.data.toList), n, c)) (m : Int) (w : World) (hm : w.cell? ⟨0, 0, none⟩ = some (.int .i64 m)) (hs : s.size < 4294967281) :
    Calls Tryz.prog 24 #[.string s] w fun e w' => e = .returned (.tuple #[.string x, .string y, .int .i64 n, .int .i64 c]) ∧ Below w.heap.size w w' := by
  have hsl := size_list s
  rcases index_two' s.data.toList [13, 10] with hix | ⟨k, hix, hk⟩
  · rw [paR_no _ hix] at h
    simp only [Prod.mk.injEq] at h
    obtain ⟨⟨h1, h2⟩, rfl, h4⟩ := h
    obtain rfl : (⟨#[]⟩ : ByteArray) = x := mk_self x [] h1.symm
    obtain rfl : (⟨#[]⟩ : ByteArray) = y := mk_self y [] h2.symm
    have HC : Hid ((if 300 + 1 < s.data.toList.length then 2 else 8 : Int) = c) := h4
    have hc0 : (c != 0) = true := by rw [← h4]; split <;> rfl
    have HM : Hid (w.cell? ⟨0, 0, none⟩ = some (.int .i64 m)) := hm
    have HIX : Hid (Lib.index s.data.toList [13, 10] = -1) := hix
    clear h1 h2 h4 hm hix hsl
    go_enter Tryz.func24, Tryz.ntmps24
    go_wp2_with fail
    refine (cutLine_no s 300 (by omega) HIX.out m _ HM.out hs).mono ?_
    rintro e w1 ⟨rfl, nd, rfl⟩
    rw [HC.out]
    go_wp2_with fail
    (try simp only [Exit.inBlock, Exit.then])
    refine bodyPost_ret (results_four rfl _ _ _) rfl ?_
    exact ⟨rfl, drewN_below _ _ _⟩
  · by_cases hk3 : 300 < k
    · rw [paR_large _ k hix hk3] at h
      simp only [Prod.mk.injEq] at h
      obtain ⟨⟨h1, h2⟩, rfl, rfl⟩ := h
      obtain rfl : (⟨#[]⟩ : ByteArray) = x := mk_self x [] h1.symm
      obtain rfl : (⟨#[]⟩ : ByteArray) = y := mk_self y [] h2.symm
      have HM : Hid (w.cell? ⟨0, 0, none⟩ = some (.int .i64 m)) := hm
      have HIX : Hid (Lib.index s.data.toList [13, 10] = k) := hix
      clear h1 h2 hm hix hsl
      go_enter Tryz.func24, Tryz.ntmps24
      go_wp2_with fail
      refine (cutLine_large s 300 k HIX.out hk3 m _ HM.out hs).mono ?_
      rintro e w1 ⟨rfl, nd, rfl⟩
      go_wp2_with fail
      (try simp only [Exit.inBlock, Exit.then])
      refine bodyPost_ret (results_four rfl _ _ _) rfl ?_
      exact ⟨rfl, drewN_below _ _ _⟩
    · obtain ⟨l, hl⟩ : ∃ l : ByteArray, l.data.toList = s.data.toList.take k := ⟨⟨(s.data.toList.take k).toArray⟩, rfl⟩
      obtain ⟨b, hb⟩ : ∃ b : ByteArray, b.data.toList = s.data.toList.drop (k + 2) := ⟨⟨(s.data.toList.drop (k + 2)).toArray⟩, rfl⟩
      replace hk : k + 2 ≤ s.size := by simpa using hk
      have hbs : b.size = s.size - (k + 2) := by rw [← size_list, hb, List.length_drop, hsl]
      have hls : l.size ≤ 300 := by rw [← size_list, hl, List.length_take]; omega
      cases hr : rdR (s.data.toList.take k) with
      | none =>
        rw [paR_bad _ k hix (by omega) hr] at h
        simp only [Prod.mk.injEq] at h
        obtain ⟨⟨h1, h2⟩, rfl, rfl⟩ := h
        obtain rfl : (⟨#[]⟩ : ByteArray) = x := mk_self x [] h1.symm
        obtain rfl : (⟨#[]⟩ : ByteArray) = y := mk_self y [] h2.symm
        have HM : Hid (w.cell? ⟨0, 0, none⟩ = some (.int .i64 m)) := hm
        have HIX : Hid (Lib.index s.data.toList [13, 10] = k) := hix
        have HL : Hid (l.data.toList = s.data.toList.take k) := hl
        have HB : Hid (b.data.toList = s.data.toList.drop (k + 2)) := hb
        have HR : Hid (rdR l.data.toList = none) := by show _ = _; rw [hl]; exact hr
        clear h1 h2 hm hix hsl hr hl hb hbs
        go_enter Tryz.func24, Tryz.ntmps24
        go_wp2_with fail
        refine (cutLine_yes s l b 300 k HIX.out (by omega) HL.out HB.out m _ HM.out hs).mono ?_
        rintro e w1 ⟨rfl, nd, rfl⟩
        have HB1 := drewN_below w.heap.size w nd
        go_wp2_with fail
        refine (readR_no l HR.out m _ (cell_keep HB1 HM.out) hls).mono ?_
        rintro e w2 ⟨⟨u, v, rfl⟩, nd2, rfl⟩
        go_wp2_with fail
        (try simp only [Exit.inBlock, Exit.then])
        refine bodyPost_ret (results_four rfl _ _ _) rfl ?_
        exact ⟨rfl, drewN_below _ _ _⟩
      | some z =>
        rw [paR_ok _ k hix (by omega) z hr] at h
        simp only [Prod.mk.injEq] at h
        obtain ⟨h1, h3, rfl⟩ := h
        subst h1
        obtain ⟨h4, h5, h6⟩ := rdR_some _ _ _ hr
        rw [← h3]
        have e : (k : Int) + 2 = (s.size : Int) - (b.size : Int) := by omega
        rw [e]
        refine parseR_of s l b x y (by rw [hl]; exact h4) h5 h6 (by omega) (by omega) m w hm fun W hW => ?_
        subst hW
        exact cutLine_yes s l b 300 k hix (by omega) hl hb m _ hm hs
end Go.Proofs.YtipfjpihciiikaaGreatDoor

/-
  What readStatus and ParseStatus of package line compute; a text that is parsed has less than 2^32 - 15 bytes (or its line ends early), the package variable that the library's search reads holds some number, and the listed variables of package strconv hold what their text lays.
-/
namespace Go.Proofs.YtipfjpihciiikaaGreatDoor
open Go.RowKit

def cutPre (s p : List UInt8) : List UInt8 × Bool := (Lib.trimPrefix s p, Lib.hasPrefix s p)
theorem scutPre_at (s p a : ByteArray) (f : Bool) (h : cutPre s.data.toList p.data.toList = (a.data.toList, f)) (w : World) :
    Calls Tryz.prog 96 #[.string s, .string p] w fun e w' => e = .returned (.tuple #[.string a, .bool f]) ∧ w' = w := by
  refine (Tryz.strings_CutPrefix s p w).mono ?_
  rintro e w' ⟨rfl, rfl⟩
  refine ⟨?_, rfl⟩
  unfold cutPre at h
  simp only [Prod.mk.injEq] at h
  rw [h.1, h.2]
theorem cutPre_yes (t : List UInt8) : cutPre (verP ++ t) verP = (t, true) := by
  have h : Lib.hasPrefix (verP ++ t) verP = true := by
    unfold Lib.hasPrefix; exact List.isPrefixOf_iff_prefix.2 ⟨t, rfl⟩
  unfold cutPre Lib.trimPrefix
  rw [h, if_pos rfl]
  rfl
theorem cutPre_two (r : List UInt8) : (∃ t, r = verP ++ t) ∨ cutPre r verP = (r, false) := by
  cases h : Lib.hasPrefix r verP
  · exact .inr (by unfold cutPre Lib.trimPrefix; rw [h]; rfl)
  · unfold Lib.hasPrefix at h
    obtain ⟨t, ht⟩ := List.isPrefixOf_iff_prefix.1 h
    exact .inl ⟨t, ht.symm⟩
theorem cut_three (l sub : List UInt8) : ∃ a b f, Lib.cut l sub = (a, b, f) ∧ a.length ≤ l.length ∧ b.length ≤ l.length ∧ (f = true → l = a ++ (sub ++ b)) := by
  rcases index_two' l sub with h | ⟨k, h, hk⟩
  · exact ⟨l, [], false, cut_no l sub h, Nat.le_refl _, Nat.zero_le _, fun e => by cases e⟩
  · refine ⟨_, _, true, cut_yes l sub k h, ?_, ?_, fun _ => cut_split l sub k h⟩
    · rw [List.length_take]; omega
    · rw [List.length_drop]; omega

set_option maxHeartbeats 2000000 in
set_option maxRecDepth 100000 in
/-- What is read of a line: each step. -/
theorem readS_steps (s r t x : ByteArray) (f1 f2 f3 : Bool) (v : Int) (h1 : cutPre s.data.toList verP = (r.data.toList, f1)) (h2 : Lib.cut r.data.toList [32] = (t.data.toList, x.data.toList, f2)) (h3 : rdC t.data.toList = (v, f3))
    (hr : r.size ≤ 300) (ht : t.size ≤ 300) (hx : x.size ≤ 300) (m : Int) (w : World) (hm : w.cell? ⟨0, 0, none⟩ = some (.int .i64 m)) (hT : STabs w) :
    Calls Tryz.prog 62 #[.string s] w fun e w' => e = .returned (.tuple #[.int .i64 v, .string x, .bool (f1 && f2 && f3 && reas x.data.toList)]) ∧ Below w.heap.size w w' := by
  have H1 : Hid (cutPre s.data.toList (⟨#[72, 84, 84, 80, 47, 49, 46, 49, 32]⟩ : ByteArray).data.toList = (r.data.toList, f1)) := h1
  have H2 : Hid (Lib.cut r.data.toList (⟨#[32]⟩ : ByteArray).data.toList = (t.data.toList, x.data.toList, f2)) := h2
  have H3 : Hid (rdC t.data.toList = (v, f3)) := h3
  have HM : Hid (w.cell? ⟨0, 0, none⟩ = some (.int .i64 m)) := hm
  have HT : Hid (STabs w) := hT
  have HX : Hid (x.size ≤ maxLen) := by show _ ≤ _; unfold maxLen; omega
  clear h1 h2 h3 hm hT
  cases f1
  · go_enter Tryz.func62, Tryz.ntmps62
    go_wp2_with fail
    refine (scutPre_at s _ r false H1.out _).mono ?_
    rintro e w1 ⟨rfl, rfl⟩
    go_wp2_with fail
    refine (scut_at r _ t x f2 H2.out m _ HM.out (by omega)).mono ?_
    rintro e w2 ⟨rfl, nd, rfl⟩
    have hb2 := drewN_below w1.heap.size w1 nd
    go_wp2_with fail
    refine (readCode_at t v f3 H3.out _ (by omega) (HT.out.below hb2)).mono ?_
    rintro e w3 ⟨rfl, hb3⟩
    have hb := hb2.trans (hb3.mono hb2.size)
    clear hb2 hb3
    go_wp2_with fail
    go_ret3
    exact ⟨rfl, hb⟩
  · cases f2
    · go_enter Tryz.func62, Tryz.ntmps62
      go_wp2_with fail
      refine (scutPre_at s _ r true H1.out _).mono ?_
      rintro e w1 ⟨rfl, rfl⟩
      go_wp2_with fail
      refine (scut_at r _ t x false H2.out m _ HM.out (by omega)).mono ?_
      rintro e w2 ⟨rfl, nd, rfl⟩
      have hb2 := drewN_below w1.heap.size w1 nd
      go_wp2_with fail
      refine (readCode_at t v f3 H3.out _ (by omega) (HT.out.below hb2)).mono ?_
      rintro e w3 ⟨rfl, hb3⟩
      have hb := hb2.trans (hb3.mono hb2.size)
      clear hb2 hb3
      go_wp2_with fail
      go_ret3
      exact ⟨rfl, hb⟩
    · cases f3
      · go_enter Tryz.func62, Tryz.ntmps62
        go_wp2_with fail
        refine (scutPre_at s _ r true H1.out _).mono ?_
        rintro e w1 ⟨rfl, rfl⟩
        go_wp2_with fail
        refine (scut_at r _ t x true H2.out m _ HM.out (by omega)).mono ?_
        rintro e w2 ⟨rfl, nd, rfl⟩
        have hb2 := drewN_below w1.heap.size w1 nd
        go_wp2_with fail
        refine (readCode_at t v false H3.out _ (by omega) (HT.out.below hb2)).mono ?_
        rintro e w3 ⟨rfl, hb3⟩
        have hb := hb2.trans (hb3.mono hb2.size)
        clear hb2 hb3
        go_wp2_with fail
        go_ret3
        exact ⟨rfl, hb⟩
      · go_enter Tryz.func62, Tryz.ntmps62
        go_wp2_with fail
        refine (scutPre_at s _ r true H1.out _).mono ?_
        rintro e w1 ⟨rfl, rfl⟩
        go_wp2_with fail
        refine (scut_at r _ t x true H2.out m _ HM.out (by omega)).mono ?_
        rintro e w2 ⟨rfl, nd, rfl⟩
        have hb2 := drewN_below w1.heap.size w1 nd
        go_wp2_with fail
        refine (readCode_at t v true H3.out _ (by omega) (HT.out.below hb2)).mono ?_
        rintro e w3 ⟨rfl, hb3⟩
        have hb := hb2.trans (hb3.mono hb2.size)
        clear hb2 hb3
        go_wp2_with fail
        refine (isReason_any _ _ HX.out).mono ?_
        rintro e w4 ⟨rfl, rfl⟩
        go_wp2_with fail
        go_ret3
        exact ⟨ret_abf (by simp), hb⟩

theorem ba (l : List UInt8) : ∃ a : ByteArray, a.data.toList = l := ⟨⟨l.toArray⟩, rfl⟩
theorem readS_ok (s x : ByteArray) (n : Int) (h : s.data.toList = stB n x.data.toList) (hn : codeB n = true) (hx : reas x.data.toList = true) (m : Int) (w : World) (hm : w.cell? ⟨0, 0, none⟩ = some (.int .i64 m)) (hT : STabs w) :
    Calls Tryz.prog 62 #[.string s] w fun e w' => e = .returned (.tuple #[.int .i64 n, .string x, .bool true]) ∧ Below w.heap.size w w' := by
  obtain ⟨c1, c2⟩ := code_is n hn
  obtain ⟨r, hr⟩ := ba (dig3 n.toNat ++ 32 :: x.data.toList)
  obtain ⟨t, ht⟩ := ba (dig3 n.toNat)
  have hxl := (reas_is _ hx).2
  rw [size_list] at hxl
  have hrs : r.size ≤ 300 := by rw [← size_list, hr, List.length_append, List.length_cons, size_list]; simp [dig3]; omega
  have hts : t.size ≤ 300 := by rw [← size_list, ht]; simp [dig3]
  have hi := index_byte_at 32 (dig3 n.toNat) x.data.toList (dig3_no _ (by omega) 32 (by decide))
  refine (readS_steps s r t x true true true n ?_ ?_ ?_ hrs hts (by omega) m w hm hT).mono ?_
  · rw [h, hr]; exact cutPre_yes _
  · rw [hr, ht]
    refine (cut_yes _ _ _ hi).trans ?_
    rw [List.take_left' rfl, List.drop_append]
    simp
  · rw [ht]; exact rdC_ok n hn
  · rintro e w' ⟨rfl, hb⟩
    exact ⟨ret_abf (by rw [hx]; rfl), hb⟩
theorem readS_no (s : ByteArray) (h : rdS s.data.toList = none) (hs : s.size ≤ 300) (m : Int) (w : World) (hm : w.cell? ⟨0, 0, none⟩ = some (.int .i64 m)) (hT : STabs w) :
    Calls Tryz.prog 62 #[.string s] w fun e w' => (∃ v x, e = .returned (.tuple #[.int .i64 v, .string x, .bool false])) ∧ Below w.heap.size w w' := by
  obtain ⟨r, f1, h1, hrs, hf1⟩ : ∃ (r : ByteArray) (f1 : Bool), cutPre s.data.toList verP = (r.data.toList, f1) ∧ r.size ≤ 300 ∧ (f1 = true → s.data.toList = verP ++ r.data.toList) := by
    rcases cutPre_two s.data.toList with ⟨t, ht⟩ | hno
    · obtain ⟨r, hr⟩ := ba t
      refine ⟨r, true, by rw [ht, hr]; exact cutPre_yes _, ?_, fun _ => by rw [ht, hr]⟩
      have e := size_list s
      rw [ht, List.length_append, ← hr, size_list] at e; omega
    · exact ⟨s, false, hno, hs, fun e => by cases e⟩
  obtain ⟨t', x', f2, h2, hl1, hl2, hf2⟩ := cut_three r.data.toList [32]
  obtain ⟨t, ht⟩ := ba t'
  obtain ⟨x, hx⟩ := ba x'
  subst ht hx
  rw [size_list, size_list] at hl1 hl2
  obtain ⟨v, f3, h3⟩ : ∃ v f3, rdC t.data.toList = (v, f3) := ⟨_, _, rfl⟩
  refine (readS_steps s r t x f1 f2 f3 v h1 h2 h3 hrs (by omega) (by omega) m w hm hT).mono ?_
  rintro e w' ⟨rfl, hb⟩
  refine ⟨⟨v, x, ret_abf ?_⟩, hb⟩
  rw [Bool.eq_false_iff]
  intro hall
  simp only [Bool.and_eq_true] at hall
  obtain ⟨⟨⟨g1, g2⟩, g3⟩, g4⟩ := hall
  have hc := rdC_is t.data.toList (by rw [h3]; exact g3)
  rw [h3] at hc
  refine rdS_none _ h v x.data.toList hc.1 g4 ?_
  rw [hf1 g1, hf2 g2]
  unfold stB
  rw [← hc.2]
  rfl
end Go.Proofs.YtipfjpihciiikaaGreatDoor

/-
  What ParseStatus of package line computes; a text has less than 2^32 - 15 bytes (or its line ends early), the package variable that the library's search reads holds some number, and the listed variables of package strconv hold what their text lays.
-/
namespace Go.Proofs.YtipfjpihciiikaaGreatDoor
open Go.RowKit

set_option maxHeartbeats 1000000 in
set_option maxRecDepth 100000 in
/-- Where the line is cut off, and is one. -/
theorem parseS_of (s l b x : ByteArray) (v : Int) (hl : l.data.toList = stB v x.data.toList) (hv : codeB v = true) (hx : reas x.data.toList = true) (hs : s.size ≤ 1152921504606846976) (hb : b.size ≤ s.size) (m : Int) (w : World) (hm : w.cell? ⟨0, 0, none⟩ = some (.int .i64 m)) (hT : STabs w)
    (hc : ∀ W : World, W = w → Calls Tryz.prog 47 #[.string s, .int .i64 300] W fun e w' => e = .returned (.tuple #[.string l, .string b, .int .i64 0]) ∧ ∃ n, w' = W.drewN n) :
    Calls Tryz.prog 31 #[.string s] w fun e w' => e = .returned (.tuple #[.int .i64 v, .string x, .int .i64 ((s.size : Int) - (b.size : Int)), .int .i64 0]) ∧ Below w.heap.size w w' := by
  have HM : Hid (w.cell? ⟨0, 0, none⟩ = some (.int .i64 m)) := hm
  have HT : Hid (STabs w) := hT
  have HL : Hid (l.data.toList = stB v x.data.toList) := hl
  have hxl := (reas_is _ hx).2
  rw [size_list] at hxl
  have HV : Hid (codeB v = true) := hv
  have HX : Hid (reas x.data.toList = true) := hx
  clear hm hl hv hx hT
  go_enter Tryz.func31, Tryz.ntmps31
  go_wp2_with fail
  refine (hc _ rfl).mono ?_
  rintro e w1 ⟨rfl, nd, rfl⟩
  have HB1 := drewN_below w.heap.size w nd
  go_wp2_with fail
  refine (readS_ok l x v HL.out HV.out HX.out m _ (cell_keep HB1 HM.out) (HT.out.below HB1)).mono ?_
  rintro e w2 ⟨rfl, hb2⟩
  have HB2 := HB1.trans (hb2.mono HB1.size)
  clear HB1 hb2
  go_wp2_with fail
  refine (clone_big x _ (by omega)).mono ?_
  rintro e w3 ⟨rfl, hb3⟩
  have HB3 := HB2.trans (hb3.mono HB2.size)
  clear hb3
  go_wp2_with fail
  (try simp only [Exit.inBlock, Exit.then])
  refine bodyPost_ret (results_four rfl _ _ _) rfl ?_
  exact ⟨rfl, HB3⟩

set_option maxHeartbeats 2000000 in
set_option maxRecDepth 100000 in
theorem parseS_at (s x : ByteArray) (v n c : Int) (h : paS s.data.toList = ((v, x.data.toList), n, c)) (m : Int) (w : World) (hm : w.cell? ⟨0, 0, none⟩ = some (.int .i64 m)) (hT : STabs w) (hs : s.size < 4294967281) :
    Calls Tryz.prog 31 #[.string s] w fun e w' => e = .returned (.tuple #[.int .i64 v, .string x, .int .i64 n, .int .i64 c]) ∧ Below w.heap.size w w' := by
  have hsl := size_list s
  rcases index_two' s.data.toList [13, 10] with hix | ⟨k, hix, hk⟩
  · rw [paS_no _ hix] at h
    simp only [Prod.mk.injEq] at h
    obtain ⟨⟨rfl, h2⟩, rfl, h4⟩ := h
    obtain rfl : (⟨#[]⟩ : ByteArray) = x := mk_self x [] h2.symm
    have HC : Hid ((if 300 + 1 < s.data.toList.length then 2 else 8 : Int) = c) := h4
    have hc0 : (c != 0) = true := by rw [← h4]; split <;> rfl
    have HM : Hid (w.cell? ⟨0, 0, none⟩ = some (.int .i64 m)) := hm
    have HIX : Hid (Lib.index s.data.toList [13, 10] = -1) := hix
    clear h2 h4 hm hix hsl hT
    go_enter Tryz.func31, Tryz.ntmps31
    go_wp2_with fail
    refine (cutLine_no s 300 (by omega) HIX.out m _ HM.out hs).mono ?_
    rintro e w1 ⟨rfl, nd, rfl⟩
    rw [HC.out]
    go_wp2_with fail
    (try simp only [Exit.inBlock, Exit.then])
    refine bodyPost_ret (results_four rfl _ _ _) rfl ?_
    exact ⟨rfl, drewN_below _ _ _⟩
  · by_cases hk3 : 300 < k
    · rw [paS_large _ k hix hk3] at h
      simp only [Prod.mk.injEq] at h
      obtain ⟨⟨rfl, h2⟩, rfl, rfl⟩ := h
      obtain rfl : (⟨#[]⟩ : ByteArray) = x := mk_self x [] h2.symm
      have HM : Hid (w.cell? ⟨0, 0, none⟩ = some (.int .i64 m)) := hm
      have HIX : Hid (Lib.index s.data.toList [13, 10] = k) := hix
      clear h2 hm hix hsl hT
      go_enter Tryz.func31, Tryz.ntmps31
      go_wp2_with fail
      refine (cutLine_large s 300 k HIX.out hk3 m _ HM.out hs).mono ?_
      rintro e w1 ⟨rfl, nd, rfl⟩
      go_wp2_with fail
      (try simp only [Exit.inBlock, Exit.then])
      refine bodyPost_ret (results_four rfl _ _ _) rfl ?_
      exact ⟨rfl, drewN_below _ _ _⟩
    · obtain ⟨l, hl⟩ := ba (s.data.toList.take k)
      obtain ⟨b, hb⟩ := ba (s.data.toList.drop (k + 2))
      replace hk : k + 2 ≤ s.size := by simpa using hk
      have hbs : b.size = s.size - (k + 2) := by rw [← size_list, hb, List.length_drop, hsl]
      have hls : l.size ≤ 300 := by rw [← size_list, hl, List.length_take]; omega
      cases hr : rdS (s.data.toList.take k) with
      | none =>
        rw [paS_bad _ k hix (by omega) hr] at h
        simp only [Prod.mk.injEq] at h
        obtain ⟨⟨rfl, h2⟩, rfl, rfl⟩ := h
        obtain rfl : (⟨#[]⟩ : ByteArray) = x := mk_self x [] h2.symm
        have HM : Hid (w.cell? ⟨0, 0, none⟩ = some (.int .i64 m)) := hm
        have HT : Hid (STabs w) := hT
        have HIX : Hid (Lib.index s.data.toList [13, 10] = k) := hix
        have HL : Hid (l.data.toList = s.data.toList.take k) := hl
        have HB : Hid (b.data.toList = s.data.toList.drop (k + 2)) := hb
        have HR : Hid (rdS l.data.toList = none) := by show _ = _; rw [hl]; exact hr
        clear h2 hm hix hsl hr hl hb hbs hT
        go_enter Tryz.func31, Tryz.ntmps31
        go_wp2_with fail
        refine (cutLine_yes s l b 300 k HIX.out (by omega) HL.out HB.out m _ HM.out hs).mono ?_
        rintro e w1 ⟨rfl, nd, rfl⟩
        have HB1 := drewN_below w.heap.size w nd
        go_wp2_with fail
        refine (readS_no l HR.out hls m _ (cell_keep HB1 HM.out) (HT.out.below HB1)).mono ?_
        rintro e w2 ⟨⟨u, z, rfl⟩, hb2⟩
        have HB2 := HB1.trans (hb2.mono HB1.size)
        clear HB1 hb2
        go_wp2_with fail
        (try simp only [Exit.inBlock, Exit.then])
        refine bodyPost_ret (results_four rfl _ _ _) rfl ?_
        exact ⟨rfl, HB2⟩
      | some z =>
        rw [paS_ok _ k hix (by omega) z hr] at h
        simp only [Prod.mk.injEq] at h
        obtain ⟨h1, h3, rfl⟩ := h
        subst h1
        obtain ⟨h4, h5, h6⟩ := rdS_some _ _ _ hr
        rw [← h3]
        have e : (k : Int) + 2 = (s.size : Int) - (b.size : Int) := by omega
        rw [e]
        refine parseS_of s l b x v (by rw [hl]; exact h4) h5 h6 (by omega) (by omega) m w hm hT fun W hW => ?_
        subst hW
        exact cutLine_yes s l b 300 k hix (by omega) hl hb m _ hm hs
end Go.Proofs.YtipfjpihciiikaaGreatDoor

/-
  What chr and Digits of the document's answers compute, each a contract over the program's text.
-/
namespace Go.Proofs.YtipfjpihciiikaaGreatDoor
open Go.RowKit

theorem mk_data (s : ByteArray) (l : List UInt8) (h : s.data.toList = l) : s = ⟨l.toArray⟩ := by
  apply ByteArray.ext
  rw [← h, Array.toArray_toList]
theorem app_list (a b : ByteArray) : (a ++ b).data.toList = a.data.toList ++ b.data.toList := by
  rw [ByteArray.data_append, Array.toList_append]

set_option maxHeartbeats 1000000 in
set_option maxRecDepth 100000 in
theorem rchr_any (u : Nat) (h : u < 256) (w : World) :
    Calls Tryz.prog 95 #[.int .i64 (u : Int)] w fun e w' => e = .returned (.string ⟨#[UInt8.ofNat u]⟩) ∧ Below w.heap.size w w' := by
  have h1 : (u : Int) < 256 := by omega
  have h0 : (0 : Int) ≤ (u : Int) := by omega
  have hcv := run_convert_bytes_back (P := Tryz.prog) (w.alloc (.cells #[.int .u8 (u : Int)] 5)) 94 9 5 ⟨w.heap.size, 0, none⟩ 1 [UInt8.ofNat u] Tryz.underlying94 Tryz.underlying5 Tryz.underlying9 (fun j hj => by
    have hj' : j < 1 := hj
    obtain rfl : j = 0 := by omega
    rw [show (⟨w.heap.size, 0, none⟩ : Addr).add 0 = ⟨w.heap.size, 0, none⟩ from rfl, World.cell?_alloc_at _ _ _ _ (by simp)]
    simp [Nat.mod_eq_of_lt h])
  rw [show ([UInt8.ofNat u] : List UInt8).length = 1 from rfl] at hcv
  go_enter Tryz.func95, Tryz.ntmps95
  go_wp2_with fail
  go_ret
  exact ⟨rfl, (Below.refl _ w).alloc (Nat.le_refl _) _⟩

theorem dec_len (u : Nat) (h : u ≤ 9223372036854775807) : (Lib.decDigits u).length ≤ 21 := by
  have := Lib.itoa_length_le (u : Int) (by omega) (by omega)
  rw [Lib.itoa, if_neg (by omega)] at this
  simpa using this

set_option maxHeartbeats 1000000 in
set_option maxRecDepth 100000 in
theorem rdigits_any (N : Nat) : ∀ (u : Nat) (_ : u ≤ N) (_ : u ≤ 9223372036854775807) (w : World),
    Calls Tryz.prog 61 #[.int .i64 (u : Int)] w fun e w' => e = .returned (.string ⟨(Lib.decDigits u).toArray⟩) ∧ Below w.heap.size w w' := by
  induction N with
  | zero =>
    intro u h1 h2 w
    obtain rfl : u = 0 := by omega
    have c := rchr_any 48 (by omega) w
    go_enter Tryz.func61, Tryz.ntmps61
    go_wp2_with fail
    refine c.mono ?_
    rintro e w1 ⟨rfl, hb⟩
    go_wp2_with fail
    go_ret
    exact ⟨ret_str (by rw [Lib.decDigits_one (by omega)]; rfl), hb⟩
  | succ N ih =>
    intro u h1 h2 w
    by_cases h10 : u < 10
    · have c := rchr_any (48 + u) (by omega) w
      have hi : (u : Int) < 10 := by omega
      have HL : Hid (Lib.decDigits u = [UInt8.ofNat (48 + u)]) := Lib.decDigits_one h10
      rw [Int.natCast_add] at c
      clear ih
      go_enter Tryz.func61, Tryz.ntmps61
      go_wp2_with fail
      refine c.mono ?_
      rintro e w1 ⟨rfl, hb⟩
      go_wp2_with fail
      go_ret
      exact ⟨ret_str (by rw [HL.out, UInt8.ofNat_add]; rfl), hb⟩
    · have c1 := ih (u / 10) (by omega) (by omega) w
      have c2 := rchr_any (48 + u % 10) (by omega)
      have hlen := dec_len (u / 10) (by omega)
      obtain ⟨t, ht⟩ : ∃ t : ByteArray, t = ⟨(Lib.decDigits (u / 10)).toArray⟩ := ⟨_, rfl⟩
      rw [← ht] at c1
      have hts : t.size ≤ 21 := by rw [← size_list, ht]; exact hlen
      have HL : Hid (Lib.decDigits u = t.data.toList ++ [UInt8.ofNat (48 + u % 10)]) := by
        show Lib.decDigits u = _
        rw [Lib.decDigits, dif_neg h10, ht]
      have hi : ¬ (u : Int) < 10 := by omega
      have hmx : (u : Int) ≤ 9223372036854775807 := by omega
      rw [Int.natCast_ediv] at c1
      clear ih ht hlen
      go_enter Tryz.func61, Tryz.ntmps61
      go_wp2_with fail
      refine c1.mono ?_
      rintro e w1 ⟨rfl, hb1⟩
      have c3 := c2 w1
      rw [Int.natCast_add, Int.natCast_emod] at c3
      clear c2
      go_wp2_with fail
      refine c3.mono ?_
      rintro e w2 ⟨rfl, hb2⟩
      have HB : Hid (Below w.heap.size w w2) := hb1.trans (hb2.mono hb1.size)
      clear hb1 hb2 c3
      go_wp2_with fail
      go_ret
      exact ⟨ret_str (mk_data _ _ (by rw [app_list, HL.out, UInt8.ofNat_add]; rfl)), HB.out⟩
end Go.Proofs.YtipfjpihciiikaaGreatDoor

/-
  What lineOf of the document's answers computes; the text has less than 2^32 - 15 bytes, and the package variable that the library reads holds some number.
-/
namespace Go.Proofs.YtipfjpihciiikaaGreatDoor
open Go.RowKit

theorem index_at (s p : ByteArray) (k : Int) (h : Lib.index s.data.toList p.data.toList = k) (m : Int) (w : World) (hm : w.cell? ⟨0, 0, none⟩ = some (.int .i64 m)) (hs : s.size < 4294967281) :
    Calls Tryz.prog 88 #[.string s, .string p] w fun e w' => e = .returned (.int .i64 k) ∧ w' = w := by
  rw [← h]
  exact Tryz.strings_Index s p m w hs hm

set_option maxHeartbeats 1000000 in
set_option maxRecDepth 100000 in
theorem lineOf_no (s : ByteArray) (most : Nat) (hmo : most ≤ 100000) (h : Lib.index s.data.toList [13, 10] = -1) (m : Int) (w : World) (hm : w.cell? ⟨0, 0, none⟩ = some (.int .i64 m)) (hs : s.size < 4294967281) :
    Calls Tryz.prog 52 #[.string s, .int .i64 most] w fun e w' => e = .returned (.tuple #[.string ⟨#[]⟩, .int .i64 0, .int .i64 (if most + 1 < s.data.toList.length then 2 else 8)]) ∧ w' = w := by
  have HC : Hid (Lib.index s.data.toList (⟨#[13, 10]⟩ : ByteArray).data.toList = -1) := h
  have HM : Hid (w.cell? ⟨0, 0, none⟩ = some (.int .i64 m)) := hm
  clear hm h
  rw [size_list]
  by_cases hl : (most : Int) + 1 < (s.size : Int)
  · rw [if_pos (by omega)]
    have hd : decide ((most : Int) + 1 < (s.size : Int)) = true := decide_eq_true hl
    go_enter Tryz.func52, Tryz.ntmps52
    go_wp2_with fail
    refine (index_at s _ (-1) HC.out m _ HM.out hs).mono ?_
    rintro e w1 ⟨rfl, rfl⟩
    go_wp2_with fail
    go_ret3
    exact ⟨rfl, rfl⟩
  · rw [if_neg (by omega)]
    have hd : decide ((most : Int) + 1 < (s.size : Int)) = false := decide_eq_false hl
    go_enter Tryz.func52, Tryz.ntmps52
    go_wp2_with fail
    refine (index_at s _ (-1) HC.out m _ HM.out hs).mono ?_
    rintro e w1 ⟨rfl, rfl⟩
    go_wp2_with fail
    go_ret3
    exact ⟨rfl, rfl⟩

set_option maxHeartbeats 1000000 in
set_option maxRecDepth 100000 in
theorem lineOf_large (s : ByteArray) (most k : Nat) (h : Lib.index s.data.toList [13, 10] = k) (hk : most < k) (m : Int) (w : World) (hm : w.cell? ⟨0, 0, none⟩ = some (.int .i64 m)) (hs : s.size < 4294967281) :
    Calls Tryz.prog 52 #[.string s, .int .i64 most] w fun e w' => e = .returned (.tuple #[.string ⟨#[]⟩, .int .i64 0, .int .i64 2]) ∧ w' = w := by
  have HC : Hid (Lib.index s.data.toList (⟨#[13, 10]⟩ : ByteArray).data.toList = k) := h
  have HM : Hid (w.cell? ⟨0, 0, none⟩ = some (.int .i64 m)) := hm
  have h0 : decide ((k : Int) < 0) = false := decide_eq_false (by omega)
  clear hm h
  go_enter Tryz.func52, Tryz.ntmps52
  go_wp2_with fail
  refine (index_at s _ k HC.out m _ HM.out hs).mono ?_
  rintro e w1 ⟨rfl, rfl⟩
  go_wp2_with fail
  go_ret3
  exact ⟨rfl, rfl⟩

set_option maxHeartbeats 1000000 in
set_option maxRecDepth 100000 in
theorem lineOf_yes (s a : ByteArray) (most k : Nat) (h : Lib.index s.data.toList [13, 10] = k) (hk : k ≤ most) (hks : k + 2 ≤ s.size) (ha : a.data.toList = s.data.toList.take k) (m : Int) (w : World) (hm : w.cell? ⟨0, 0, none⟩ = some (.int .i64 m)) (hs : s.size < 4294967281) :
    Calls Tryz.prog 52 #[.string s, .int .i64 most] w fun e w' => e = .returned (.tuple #[.string a, .int .i64 ((k : Int) + 2), .int .i64 0]) ∧ w' = w := by
  have HC : Hid (Lib.index s.data.toList (⟨#[13, 10]⟩ : ByteArray).data.toList = k) := h
  have HM : Hid (w.cell? ⟨0, 0, none⟩ = some (.int .i64 m)) := hm
  have HA : Hid (s.extract 0 k = a) := by
    show _ = _
    apply ByteArray.ext; apply Array.ext'
    rw [ha, Lib.extract_data, List.drop_zero]; rfl
  have h0 : decide ((k : Int) < 0) = false := decide_eq_false (by omega)
  have h1 : ¬ most < k := by omega
  clear hm h ha
  go_enter Tryz.func52, Tryz.ntmps52
  go_wp2_with fail
  refine (index_at s _ k HC.out m _ HM.out hs).mono ?_
  rintro e w1 ⟨rfl, rfl⟩
  go_wp2_with fail
  go_ret3
  refine ⟨?_, rfl⟩
  rw [HA.out]
  rfl
end Go.Proofs.YtipfjpihciiikaaGreatDoor
