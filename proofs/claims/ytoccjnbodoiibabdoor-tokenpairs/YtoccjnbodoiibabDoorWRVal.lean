/-
  What ReadValue of package token answers; a text has at most 1000 bytes.
-/
import Derived.Test.YtoccjnbodoiibabDoorSpecP
import Derived.Test.YtoccjnbodoiibabDoorWTok
import Derived.Test.YtoccjnbodoiibabDoorWLow
import Derived.Test.YtoccjnbodoiibabDoorWTrim
namespace Go.Proofs.YtoccjnbodoiibabDoor
open Go.RowKit

theorem ret_pair' {a b : ByteArray} {c d : Bool} (h : a = b) (h' : c = d) : Ending.returned (.tuple #[.string a, .bool c]) = .returned (.tuple #[.string b, .bool d]) := by rw [h, h']

set_option maxHeartbeats 1000000 in
set_option maxRecDepth 100000 in
theorem readValue_at (s t : ByteArray) (ok : Bool) (h : (ok = true ∧ rv s.data.toList = some t.data.toList) ∨ (ok = false ∧ rv s.data.toList = none ∧ t = ⟨#[]⟩)) (w : World) (hs : s.size ≤ 1000) :
    Calls Tryd.prog 44 #[.string s] w fun e w' => e = .returned (.tuple #[.string t, .bool ok]) ∧ Below w.heap.size w w' := by
  have HZ : Hid (s.size ≤ maxLen) := by show s.size ≤ maxLen; unfold maxLen; omega
  cases htk : token s.data.toList
  · obtain ⟨t', n, hu⟩ : ∃ (t' : ByteArray) (n : Int), unq s.data.toList = (t'.data.toList, n) := ⟨⟨(unq s.data.toList).1.toArray⟩, (unq s.data.toList).2, rfl⟩
    have HU : Hid (unq s.data.toList = (t'.data.toList, n)) := hu
    have HT : Hid (token s.data.toList = false) := htk
    have hfin : t' = t ∧ (n == 0) = ok := by
      rcases h with ⟨rfl, hr⟩ | ⟨rfl, hr, rfl⟩
      · by_cases hn : (unq s.data.toList).2 = 0
        · rw [rv_ok _ htk hn, hu] at hr
          rw [hu] at hn
          simp only at hn
          subst hn
          refine ⟨?_, rfl⟩
          apply ByteArray.ext; apply Array.ext'
          exact Option.some.inj hr
        · rw [rv_bad _ htk hn] at hr; cases hr
      · by_cases hn : (unq s.data.toList).2 = 0
        · rw [rv_ok _ htk hn] at hr; cases hr
        · rw [hu] at hn
          simp only at hn
          refine ⟨?_, by simpa using hn⟩
          have := unq_empty _ _ _ hu hn
          apply ByteArray.ext; apply Array.ext'
          exact this
    obtain ⟨rfl, hok⟩ := hfin
    have HOK : Hid ((n == 0) = ok) := hok
    clear h hu htk hok
    go_enter Tryd.func44, Tryd.ntmps44
    go_wp2_with fail
    refine (isToken_any _ _ HZ.out).mono ?_
    rintro e w1 ⟨rfl, rfl⟩
    rw [HT.out]
    go_wp2_with fail
    refine (unquote_at _ t' n HU.out _ (by omega)).mono ?_
    rintro e w2 ⟨rfl, hb⟩
    go_wp2_with fail
    go_ret2
    exact ⟨ret_pair' rfl HOK.out, hb⟩
  · have HT : Hid (token s.data.toList = true) := htk
    have hfin : t = s ∧ ok = true := by
      rcases h with ⟨rfl, hr⟩ | ⟨rfl, hr, rfl⟩
      · rw [rv_token _ htk] at hr
        refine ⟨?_, rfl⟩
        apply ByteArray.ext; apply Array.ext'
        exact (Option.some.inj hr).symm
      · rw [rv_token _ htk] at hr; cases hr
    obtain ⟨rfl, rfl⟩ := hfin
    clear h htk
    go_enter Tryd.func44, Tryd.ntmps44
    go_wp2_with fail
    refine (isToken_any _ _ HZ.out).mono ?_
    rintro e w1 ⟨rfl, rfl⟩
    rw [HT.out]
    go_wp2_with fail
    refine (clone_at _ _ (by omega)).mono ?_
    rintro e w2 ⟨rfl, hb⟩
    go_wp2_with fail
    go_ret2
    exact ⟨rfl, hb⟩
end Go.Proofs.YtoccjnbodoiibabDoor
