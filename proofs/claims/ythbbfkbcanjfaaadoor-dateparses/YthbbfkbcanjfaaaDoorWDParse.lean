/-
  What Parse of package date computes, a contract over the program's text; the tables that it reads hold what the program's text lays there.
-/
import Derived.Test.YthbbfkbcanjfaaaDoorWGuess
namespace Go.Proofs.YthbbfkbcanjfaaaDoor
open Go.RowKit

theorem ret_ie2 {a b c d : Int} (h : a = b) (h' : c = d) : Ending.returned (.tuple #[.int .i64 a, .int .i64 c]) = .returned (.tuple #[.int .i64 b, .int .i64 d]) := by rw [h, h']

theorem list_ne {a b : ByteArray} (h : (a.toList == b.toList) = false) : a.data.toList ≠ b.data.toList := by
  rw [ByteArray.toList_eq, ByteArray.toList_eq, beq_eq_false_iff_ne] at h; exact h

theorem dt_same {a b : List UInt8} {n : Int} (h : IsDT a n) (h' : IsDT b n) : a = b := by
  obtain ⟨_, _, y, m, d, hv, hn, rfl⟩ := h
  obtain ⟨_, _, z, k, c, hv', hn', rfl⟩ := h'
  exact dt_text hv hn hv' hn'

set_option maxHeartbeats 1000000 in
set_option maxRecDepth 100000 in
theorem dparse_any (s : ByteArray) (w : World) (ht : DTabs w) :
    Calls Tryd.prog 8 #[.string s] w fun e w' => ∃ n c : Int, e = .returned (.tuple #[.int .i64 n, .int .i64 c]) ∧ PR s.data.toList n c ∧ Below w.heap.size w w' := by
  by_cases hs : s.size = 29
  · cases hv : vldB (gY s.data.toList) (gM s.data.toList) (gD s.data.toList)
    · have HP : Hid (PR s.data.toList 0 3) := .inr ⟨rfl, rfl, fun k h => by have := (dt_gss h).1; rw [hv] at this; cases this⟩
      have c := guess_no s w hs ht hv
      clear hv ht
      go_enter Tryd.func8, Tryd.ntmps8
      go_wp2_with fail
      refine c.mono ?_
      rintro e w1 ⟨rfl, k, rfl⟩
      go_wp2_with fail
      go_ret2
      exact ⟨0, 3, rfl, HP.out, drewN_belowD _ _ _⟩
    · have c := guess_yes s w hs ht hv
      have HT : Hid (DTabs w) := ht
      have HG : Hid (∀ k, IsDT s.data.toList k → gss s.data.toList = k) := fun k h => (dt_gss h).2
      obtain ⟨n, hn⟩ : ∃ n, n = gss s.data.toList := ⟨_, rfl⟩
      rw [← hn] at c
      have HN : Hid (n = gss s.data.toList) := hn
      clear hv ht hn
      by_cases h : n < 0 ∨ 253402300799 < n
      · have H : Hid (n < 0 ∨ 253402300799 < n) := h
        have HP : Hid (PR s.data.toList 0 3) := .inr ⟨rfl, rfl, fun k hk => by have := HG.out k hk; rw [← HN.out] at this; obtain ⟨a, b, _⟩ := hk; omega⟩
        clear h
        go_enter Tryd.func8, Tryd.ntmps8
        go_wp2_with fail
        refine c.mono ?_
        rintro e w1 ⟨rfl, k, rfl⟩
        go_wp2_with fail
        refine (dprint_no _ _ H.out).mono ?_
        rintro e w1 ⟨rfl, rfl⟩
        go_wp2_with fail
        go_ret2
        exact ⟨0, 3, rfl, HP.out, drewN_belowD _ _ _⟩
      · have h1 : 0 ≤ n := by omega
        have h2 : n ≤ 253402300799 := by omega
        clear h
        go_enter Tryd.func8, Tryd.ntmps8
        go_wp2_with fail
        refine c.mono ?_
        rintro e w1 ⟨rfl, k, rfl⟩
        have HB : Hid (Below w.heap.size w (w.drewN k)) := drewN_belowD _ _ _
        go_wp2_with fail
        refine (dprint_yes _ _ h1 h2 (HT.out.below HB.out)).mono ?_
        rintro e w2 ⟨y, m, d, rfl, hv, hn, hb⟩
        have HB2 : Hid (Below w.heap.size w w2) := HB.out.trans (hb.mono HB.out.size)
        obtain ⟨a, ha⟩ : ∃ a : ByteArray, a = ⟨(dtext n y m d).toArray⟩ := ⟨_, rfl⟩
        rw [← ha]
        have HD : Hid (IsDT a.data.toList n) := ⟨h1, h2, y, m, d, hv, hn, by rw [ha]⟩
        clear hv hn hb ha HB c
        cases hq : (a.toList == s.toList)
        · have HP : Hid (PR s.data.toList 0 3) := .inr ⟨rfl, rfl, fun k hk => by
            have e := HG.out k hk
            rw [← HN.out] at e
            subst e
            exact list_ne hq (dt_same HD.out hk)⟩
          go_wp2_with fail
          go_ret2
          exact ⟨0, 3, rfl, HP.out, HB2.out⟩
        · have HP : Hid (PR s.data.toList n 0) := .inl ⟨rfl, by
            have h := HD.out
            rw [ByteArray.toList_eq, ByteArray.toList_eq, beq_iff_eq] at hq
            rw [hq] at h; exact h⟩
          go_wp2_with fail
          go_ret2
          exact ⟨n, 0, rfl, HP.out, HB2.out⟩
  · have HP : Hid (PR s.data.toList 0 3) := .inr ⟨rfl, rfl, fun k h => by have := dt_len h; rw [size_list] at this; exact hs this⟩
    have c := guess_short s w hs
    clear hs ht
    go_enter Tryd.func8, Tryd.ntmps8
    go_wp2_with fail
    refine c.mono ?_
    rintro e w1 ⟨rfl, rfl⟩
    go_wp2_with fail
    go_ret2
    exact ⟨0, 3, rfl, HP.out, Below.refl _ _⟩
end Go.Proofs.YthbbfkbcanjfaaaDoor
