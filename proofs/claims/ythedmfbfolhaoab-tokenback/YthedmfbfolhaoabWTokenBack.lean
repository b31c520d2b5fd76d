/-
  The walks through TokenBack and TokenOnce: each answers true and turns nothing that was there; the string fits in Go's limits.
-/
import Derived.Test.YthedmfbfolhaoabSpecW
namespace Go.Proofs.Ythedmfbfolhaoab
open Go.RowKit

set_option maxHeartbeats 1000000 in
set_option maxRecDepth 100000 in
theorem walkTokenBack (a0 : ByteArray) (z0 : a0.size ≤ 140737488351232) (w : World) :
    Calls Try.prog 3 #[.string a0] w fun e w' => e = .returned (.bool true) ∧ Below w.heap.size w w' := by
  by_cases h1 : 1000 < a0.data.toList.length
  · have HQ : Hid (qt a0.data.toList = ((⟨#[]⟩ : ByteArray).data.toList, 2)) := qt_long _ h1
    clear h1
    go_enter Try.func3, Try.ntmps3
    go_wp2_with fail
    refine (quote_at _ ⟨#[]⟩ 2 HQ.out _).mono ?_
    rintro e w1 ⟨rfl, hb⟩
    go_wp2_with fail
    refine (unquote_at _ ⟨#[]⟩ 3 rfl _ (by decide)).mono ?_
    rintro e w2 ⟨rfl, hb2⟩
    go_wp2_with fail
    go_ret
    exact ⟨rfl, hb.trans (hb2.mono hb.size)⟩
  · cases hp : allPlain a0.data.toList
    · have HQ : Hid (qt a0.data.toList = ((⟨#[]⟩ : ByteArray).data.toList, 3)) := qt_bad _ h1 hp
      clear h1 hp
      go_enter Try.func3, Try.ntmps3
      go_wp2_with fail
      refine (quote_at _ ⟨#[]⟩ 3 HQ.out _).mono ?_
      rintro e w1 ⟨rfl, hb⟩
      go_wp2_with fail
      refine (unquote_at _ ⟨#[]⟩ 3 rfl _ (by decide)).mono ?_
      rintro e w2 ⟨rfl, hb2⟩
      go_wp2_with fail
      go_ret
      exact ⟨rfl, hb.trans (hb2.mono hb.size)⟩
    · obtain ⟨t, ht⟩ : ∃ t : ByteArray, t.data.toList = 34 :: (esc a0.data.toList ++ [34]) := ⟨⟨(34 :: (esc a0.data.toList ++ [34])).toArray⟩, rfl⟩
      have HQ : Hid (qt a0.data.toList = (t.data.toList, 0)) := by show _ = _; rw [ht]; exact qt_ok _ h1 hp
      have HU : Hid (unq t.data.toList = (a0.data.toList, 0)) := by show _ = _; rw [ht]; exact unq_wrap _ hp h1
      have hel := esc_len a0.data.toList
      have hts : t.size = (esc a0.data.toList).length + 2 := by rw [← size_list, ht]; simp
      rw [size_list] at hel h1
      have hg1 : (a0.size : Int) + 2 ≤ (t.size : Int) := by omega
      have hg2 : t.size ≤ 140737488351232 := by omega
      clear h1 hp ht hts hel
      go_enter Try.func3, Try.ntmps3
      go_wp2_with fail
      refine (quote_at _ _ _ HQ.out _).mono ?_
      rintro e w1 ⟨rfl, hb⟩
      go_wp2_with fail
      refine (unquote_at _ ⟨#[]⟩ 3 rfl _ (by decide)).mono ?_
      rintro e w2 ⟨rfl, hb2⟩
      have hb3 := hb.trans (hb2.mono hb.size)
      clear hb hb2
      go_wp2_with fail
      refine (unquote_at _ _ _ HU.out _ hg2).mono ?_
      rintro e w3 ⟨rfl, hb4⟩
      go_wp2_with fail
      go_ret
      exact ⟨ret_bool (by simp), hb3.trans (hb4.mono hb3.size)⟩

set_option maxHeartbeats 1000000 in
set_option maxRecDepth 100000 in
theorem walkTokenOnce (a0 : ByteArray) (z0 : a0.size ≤ 140737488351232) (w : World) :
    Calls Try.prog 4 #[.string a0] w fun e w' => e = .returned (.bool true) ∧ Below w.heap.size w w' := by
  obtain ⟨t, n, hu⟩ : ∃ (t : ByteArray) (n : Int), unq a0.data.toList = (t.data.toList, n) := ⟨⟨(unq a0.data.toList).1.toArray⟩, (unq a0.data.toList).2, rfl⟩
  have HU : Hid (unq a0.data.toList = (t.data.toList, n)) := hu
  clear hu
  by_cases hn : n = 0
  · subst hn
    obtain ⟨hp, hl, hsh⟩ := unq_zero _ _ HU.out
    obtain ⟨q, hq⟩ : ∃ q : ByteArray, q.data.toList = 34 :: (esc t.data.toList ++ [34]) := ⟨⟨(34 :: (esc t.data.toList ++ [34])).toArray⟩, rfl⟩
    have HQ : Hid (qt t.data.toList = (q.data.toList, 0)) := by show _ = _; rw [hq]; exact qt_ok _ hl hp
    have HV : Hid (unq q.data.toList = (t.data.toList, 0)) := by show _ = _; rw [hq]; exact unq_wrap _ hp hl
    have hqs : q.size = (esc t.data.toList).length + 2 := by rw [← size_list, hq]; simp
    rw [size_list] at hsh
    have hg1 : (q.size : Int) ≤ (a0.size : Int) := by omega
    have hg2 : q.size ≤ 140737488351232 := by omega
    clear hp hl hsh hq hqs
    go_enter Try.func4, Try.ntmps4
    go_wp2_with fail
    refine (unquote_at _ _ _ HU.out _ z0).mono ?_
    rintro e w1 ⟨rfl, hb⟩
    go_wp2_with fail
    refine (unquote_at _ ⟨#[]⟩ 3 rfl _ (by decide)).mono ?_
    rintro e w2 ⟨rfl, hb2⟩
    have hb3 := hb.trans (hb2.mono hb.size)
    clear hb hb2
    go_wp2_with fail
    refine (quote_at _ _ _ HQ.out _).mono ?_
    rintro e w3 ⟨rfl, hb4⟩
    have hb5 := hb3.trans (hb4.mono hb3.size)
    clear hb3 hb4
    go_wp2_with fail
    refine (unquote_at _ _ _ HV.out _ hg2).mono ?_
    rintro e w4 ⟨rfl, hb6⟩
    go_wp2_with fail
    go_ret
    exact ⟨ret_bool (by simp), hb5.trans (hb6.mono hb5.size)⟩
  · obtain ⟨h1, h2⟩ := unq_other _ _ _ HU.out hn
    have h3 := eq_empty t h1
    subst h3
    have hne : (n != 0) = true := by simp [hn]
    clear h1 hn
    rcases h2 with rfl | rfl
    all_goals
      go_enter Try.func4, Try.ntmps4
      go_wp2_with fail
      refine (unquote_at _ ⟨#[]⟩ _ HU.out _ z0).mono ?_
      rintro e w1 ⟨rfl, hb⟩
      go_wp2_with fail
      refine (unquote_at _ ⟨#[]⟩ 3 rfl _ (by decide)).mono ?_
      rintro e w2 ⟨rfl, hb2⟩
      go_wp2_with fail
      go_ret
      exact ⟨rfl, hb.trans (hb2.mono hb.size)⟩
end Go.Proofs.Ythedmfbfolhaoab
