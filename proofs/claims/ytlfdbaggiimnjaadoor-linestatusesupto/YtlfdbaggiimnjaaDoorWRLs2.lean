/-
  What LineStatusOf of the document's answers computes, whole; the text has less than 2^32 - 15 bytes, and the package variable that the library's search reads holds some number.
-/
import Derived.Test.YtlfdbaggiimnjaaDoorWRLs
namespace Go.Proofs.YtlfdbaggiimnjaaDoor
open Go.RowKit

set_option maxHeartbeats 2000000 in
set_option maxRecDepth 100000 in
theorem rparseS_at (s x : ByteArray) (v n c : Int) (h : paS s.data.toList = ((v, x.data.toList), n, c)) (m : Int) (w : World) (hm : w.cell? ⟨0, 0, none⟩ = some (.int .i64 m)) (hs : s.size < 4294967281) :
    Calls Tryd.prog 13 #[.string s] w fun e w' => e = .returned (.tuple #[.int .i64 v, .string x, .int .i64 n, .int .i64 c]) ∧ Below w.heap.size w w' := by
  have hsl := size_list s
  rcases index_two' s.data.toList [13, 10] with hix | ⟨k, hix, hk⟩
  · rw [paS_no _ hix] at h
    simp only [Prod.mk.injEq] at h
    obtain ⟨⟨rfl, h2⟩, rfl, h4⟩ := h
    obtain rfl : (⟨#[]⟩ : ByteArray) = x := mk_self x [] h2.symm
    have HC : Hid ((if 300 + 1 < s.data.toList.length then 2 else 8 : Int) = c) := h4
    have hc0 : (c != 0) = true := by rw [← h4]; split <;> rfl
    have HM : Hid (w.cell? ⟨0, 0, none⟩ = some (.int .i64 m)) := hm
    have HIX : Hid (Lib.index s.data.toList [13, 10] = -1) := hix
    clear h2 h4 hm hix hsl
    go_enter Tryd.func13, Tryd.ntmps13
    go_wp2_with fail
    refine (lineOf_no s 300 (by omega) HIX.out m _ HM.out hs).mono ?_
    rintro e w1 ⟨rfl, rfl⟩
    rw [HC.out]
    go_wp2_with fail
    (try simp only [Exit.inBlock, Exit.then])
    refine bodyPost_ret (results_four rfl _ _ _) rfl ?_
    exact ⟨rfl, Below.refl _ _⟩
  · by_cases hk3 : 300 < k
    · rw [paS_large _ k hix hk3] at h
      simp only [Prod.mk.injEq] at h
      obtain ⟨⟨rfl, h2⟩, rfl, rfl⟩ := h
      obtain rfl : (⟨#[]⟩ : ByteArray) = x := mk_self x [] h2.symm
      have HM : Hid (w.cell? ⟨0, 0, none⟩ = some (.int .i64 m)) := hm
      have HIX : Hid (Lib.index s.data.toList [13, 10] = k) := hix
      clear h2 hm hix hsl
      go_enter Tryd.func13, Tryd.ntmps13
      go_wp2_with fail
      refine (lineOf_large s 300 k HIX.out hk3 m _ HM.out hs).mono ?_
      rintro e w1 ⟨rfl, rfl⟩
      go_wp2_with fail
      (try simp only [Exit.inBlock, Exit.then])
      refine bodyPost_ret (results_four rfl _ _ _) rfl ?_
      exact ⟨rfl, Below.refl _ _⟩
    · obtain ⟨l, hl⟩ := ba (s.data.toList.take k)
      replace hk : k + 2 ≤ s.size := by simpa using hk
      have hlk : l.size = k := by rw [← size_list, hl, List.length_take, hsl]; omega
      by_cases h13 : (l.size : Int) < 13
      · have hr : rdS (s.data.toList.take k) = none := by
          cases hr : rdS (s.data.toList.take k) with
          | none => rfl
          | some z =>
            obtain ⟨a, b⟩ := z
            have e := congrArg List.length (rdS_some _ _ _ hr).1
            rw [stB_len, ← hl, size_list] at e; omega
        rw [paS_bad _ k hix (by omega) hr] at h
        simp only [Prod.mk.injEq] at h
        obtain ⟨⟨rfl, h2⟩, rfl, rfl⟩ := h
        obtain rfl : (⟨#[]⟩ : ByteArray) = x := mk_self x [] h2.symm
        have HM : Hid (w.cell? ⟨0, 0, none⟩ = some (.int .i64 m)) := hm
        have HIX : Hid (Lib.index s.data.toList [13, 10] = k) := hix
        have HL : Hid (l.data.toList = s.data.toList.take k) := hl
        clear h2 hm hix hsl hr hl hlk
        go_enter Tryd.func13, Tryd.ntmps13
        go_wp2_with fail
        refine (lineOf_yes s l 300 k HIX.out (by omega) hk HL.out m _ HM.out hs).mono ?_
        rintro e w1 ⟨rfl, rfl⟩
        go_wp2_with fail
        (try simp only [Exit.inBlock, Exit.then])
        refine bodyPost_ret (results_four rfl _ _ _) rfl ?_
        exact ⟨rfl, Below.refl _ _⟩
      · obtain ⟨q, hq⟩ := ba ((l.data.toList.drop 9).take 3)
        obtain ⟨r, hr⟩ := ba (l.data.toList.drop 13)
        obtain ⟨z, d, hz⟩ : ∃ (z : ByteArray) (d : Int), prS (cnt q.data.toList 999) r.data.toList = (z.data.toList, d) := ⟨⟨(prS (cnt q.data.toList 999) r.data.toList).1.toArray⟩, (prS (cnt q.data.toList 999) r.data.toList).2, rfl⟩
        refine rparseS_line s l q r z k _ d hix (by omega) hk hl (by omega) hq hr rfl hz x v n c ?_ m w hm hs
        cases hrd : rdS (s.data.toList.take k) with
        | none =>
          rw [paS_bad _ k hix (by omega) hrd] at h
          simp only [Prod.mk.injEq] at h
          obtain ⟨⟨rfl, h2⟩, rfl, rfl⟩ := h
          refine .inr ⟨?_, (mk_self x [] h2.symm).symm, rfl, rfl, rfl⟩
          cases hc : codeB (cnt q.data.toList 999)
          · rw [prS_arg _ _ hc, Prod.mk.injEq] at hz
            exact .inl (by rw [← hz.2]; decide)
          · cases he : reas r.data.toList
            · rw [prS_syn _ _ hc he, Prod.mk.injEq] at hz
              exact .inl (by rw [← hz.2]; decide)
            · rw [prS_ok _ _ hc he, Prod.mk.injEq] at hz
              refine .inr fun e => ?_
              rw [← hz.1] at e
              have e' := List.append_cancel_right e
              rw [hl] at e'
              exact rdS_none _ hrd _ _ hc he e'.symm
        | some y =>
          rw [paS_ok _ k hix (by omega) y hrd] at h
          simp only [Prod.mk.injEq] at h
          obtain ⟨h1, h3, rfl⟩ := h
          subst h1
          obtain ⟨h4, h5, h6⟩ := rdS_some _ _ _ hrd
          have hls : l.data.toList = stB v x.data.toList := by rw [hl]; exact h4
          obtain ⟨_, p2, p3⟩ := stB_parts v x.data.toList
          rw [hls, p2] at hq
          rw [hls, p3] at hr
          rw [hq, cnt_3 v h5, hr, prS_ok _ _ h5 h6, Prod.mk.injEq] at hz
          refine .inl ⟨hz.2.symm, ?_, ?_, ?_, h3.symm, rfl⟩
          · rw [← hz.1, hls]
          · apply ByteArray.ext; apply Array.ext'; exact hr.symm
          · rw [hq, cnt_3 v h5]
end Go.Proofs.YtlfdbaggiimnjaaDoor
