/-
  What LineRequestOf of the document's answers computes, whole; the text has less than 2^32 - 15 bytes, and the package variable that the library reads holds some number.
-/
import Derived.Test.YtlfdbaggiimnjaaDoorWRLn2
namespace Go.Proofs.YtlfdbaggiimnjaaDoor
open Go.RowKit

set_option maxHeartbeats 2000000 in
set_option maxRecDepth 100000 in
theorem rparseR_at (s x y : ByteArray) (n c : Int) (h : paR s.data.toList = ((x.data.toList, y.data.toList), n, c)) (m : Int) (w : World) (hm : w.cell? ⟨0, 0, none⟩ = some (.int .i64 m)) (hs : s.size < 4294967281) :
    Calls Tryd.prog 9 #[.string s] w fun e w' => e = .returned (.tuple #[.string x, .string y, .int .i64 n, .int .i64 c]) ∧ Below w.heap.size w w' := by
  have hsl := size_list s
  rcases index_two' s.data.toList [13, 10] with hix | ⟨k, hix, hk⟩
  · rw [paR_no _ hix] at h
    simp only [Prod.mk.injEq] at h
    obtain ⟨⟨h1, h2⟩, rfl, h4⟩ := h
    obtain rfl : (⟨#[]⟩ : ByteArray) = x := mk_self x [] h1.symm
    obtain rfl : (⟨#[]⟩ : ByteArray) = y := mk_self y [] h2.symm
    have HC : Hid ((if 300 + 1 < s.data.toList.length then 2 else 8 : Int) = c) := h4
    have hc0 : (c != 0) = true := by rw [← h4]; split <;> rfl
    have HM : Hid (w.cell? ⟨0, 0, none⟩ = some (.int .i64 m)) := hm
    have HIX : Hid (Lib.index s.data.toList [13, 10] = -1) := hix
    clear h1 h2 h4 hm hix hsl
    go_enter Tryd.func9, Tryd.ntmps9
    go_wp2_with fail
    refine (lineOf_no s 300 (by omega) HIX.out m _ HM.out hs).mono ?_
    rintro e w1 ⟨rfl, rfl⟩
    rw [HC.out]
    go_wp2_with fail
    (try simp only [Exit.inBlock, Exit.then])
    refine bodyPost_ret (results_four rfl _ _ _) rfl ?_
    exact ⟨rfl, Below.refl _ _⟩
  · by_cases hk3 : 300 < k
    · rw [paR_large _ k hix hk3] at h
      simp only [Prod.mk.injEq] at h
      obtain ⟨⟨h1, h2⟩, rfl, rfl⟩ := h
      obtain rfl : (⟨#[]⟩ : ByteArray) = x := mk_self x [] h1.symm
      obtain rfl : (⟨#[]⟩ : ByteArray) = y := mk_self y [] h2.symm
      have HM : Hid (w.cell? ⟨0, 0, none⟩ = some (.int .i64 m)) := hm
      have HIX : Hid (Lib.index s.data.toList [13, 10] = k) := hix
      clear h1 h2 hm hix hsl
      go_enter Tryd.func9, Tryd.ntmps9
      go_wp2_with fail
      refine (lineOf_large s 300 k HIX.out hk3 m _ HM.out hs).mono ?_
      rintro e w1 ⟨rfl, rfl⟩
      go_wp2_with fail
      (try simp only [Exit.inBlock, Exit.then])
      refine bodyPost_ret (results_four rfl _ _ _) rfl ?_
      exact ⟨rfl, Below.refl _ _⟩
    · obtain ⟨l, hl⟩ : ∃ l : ByteArray, l.data.toList = s.data.toList.take k := ⟨⟨(s.data.toList.take k).toArray⟩, rfl⟩
      replace hk : k + 2 ≤ s.size := by simpa using hk
      refine rparseR_line s l k hix (by omega) hk hl x y n c ?_ m w hm hs
      intro a b ha hb z d hz
      cases hr : rdR (s.data.toList.take k) with
      | none =>
        rw [paR_bad _ k hix (by omega) hr] at h
        simp only [Prod.mk.injEq] at h
        obtain ⟨⟨h1, h2⟩, rfl, rfl⟩ := h
        refine .inr ⟨?_, (mk_self x [] h1.symm).symm, (mk_self y [] h2.symm).symm, rfl, rfl⟩
        cases hok : meth a.data.toList && targ b.data.toList
        · rw [prR_no _ _ hok, Prod.mk.injEq] at hz
          exact .inl (by rw [← hz.2]; decide)
        · rw [Bool.and_eq_true] at hok
          rw [prR_ok _ _ hok.1 hok.2, Prod.mk.injEq] at hz
          refine .inr fun e => ?_
          rw [← hz.1] at e
          have e' : reqB a.data.toList b.data.toList = l.data.toList := List.append_cancel_right e
          rw [hl] at e'
          exact rdR_none _ hr _ _ hok.1 hok.2 e'.symm
      | some v =>
        rw [paR_ok _ k hix (by omega) v hr] at h
        simp only [Prod.mk.injEq] at h
        obtain ⟨h1, h3, rfl⟩ := h
        subst h1
        obtain ⟨h4, h5, h6⟩ := rdR_some _ _ _ hr
        obtain ⟨e1, e2⟩ := words_of l x.data.toList y.data.toList (by rw [hl]; exact h4) (meth_no _ 32 (by decide) h5) (targ_no _ 32 (by decide) h6) a b ha hb
        rw [e1, e2, prR_ok _ _ h5 h6, Prod.mk.injEq] at hz
        refine .inl ⟨hz.2.symm, ?_, ?_, ?_, h3.symm, rfl⟩
        · rw [← hz.1, hl, h4]
        · apply ByteArray.ext; apply Array.ext'; exact e1.symm
        · apply ByteArray.ext; apply Array.ext'; exact e2.symm
end Go.Proofs.YtlfdbaggiimnjaaDoor
