/-
  What readRequest and ParseRequest of package line compute; a text that is parsed has less than 2^32 - 15 bytes (or its line ends early), and the package variable that the library reads holds some number.
-/
import Derived.Test.YtlfdbaggiimnjaaDoorWLn
namespace Go.Proofs.YtlfdbaggiimnjaaDoor
open Go.RowKit

/-- A text without its end, and whether it ends so. -/
def cutSuf (s p : List UInt8) : List UInt8 × Bool := (Lib.trimSuffix s p, Lib.hasSuffix s p)
theorem scutSuf_at (s p a : ByteArray) (f : Bool) (h : cutSuf s.data.toList p.data.toList = (a.data.toList, f)) (w : World) (hs : s.size ≤ 100000) :
    Calls Tryd.prog 35 #[.string s, .string p] w fun e w' => e = .returned (.tuple #[.string a, .bool f]) ∧ w' = w := by
  refine (Tryd.strings_CutSuffix s p w (by omega)).mono ?_
  rintro e w' ⟨rfl, rfl⟩
  refine ⟨?_, rfl⟩
  unfold cutSuf at h
  simp only [Prod.mk.injEq] at h
  rw [h.1, h.2]

/-- What stands ahead of the version, if it stands there. -/
theorem cutSuf_yes (t : List UInt8) : cutSuf (t ++ verB) verB = (t, true) := by
  have h : Lib.hasSuffix (t ++ verB) verB = true := by
    unfold Lib.hasSuffix; exact List.isSuffixOf_iff_suffix.2 ⟨t, rfl⟩
  unfold cutSuf Lib.trimSuffix
  rw [h, if_pos rfl]
  simp
theorem cutSuf_two (r : List UInt8) : (∃ t, r = t ++ verB) ∨ cutSuf r verB = (r, false) := by
  cases h : Lib.hasSuffix r verB
  · exact .inr (by unfold cutSuf Lib.trimSuffix; rw [h]; rfl)
  · unfold Lib.hasSuffix at h
    obtain ⟨t, ht⟩ := List.isSuffixOf_iff_suffix.1 h
    exact .inl ⟨t, ht.symm⟩
theorem ret_abf {v u : Value} {a b : Bool} (h : a = b) : Ending.returned (.tuple #[v, u, .bool a]) = .returned (.tuple #[v, u, .bool b]) := by rw [h]

set_option maxHeartbeats 1000000 in
set_option maxRecDepth 100000 in
theorem readR_ok (s a b : ByteArray) (h : s.data.toList = reqB a.data.toList b.data.toList) (hm : meth a.data.toList = true) (ht : targ b.data.toList = true) (m : Int) (w : World) (hc : w.cell? ⟨0, 0, none⟩ = some (.int .i64 m)) :
    Calls Tryd.prog 20 #[.string s] w fun e w' => e = .returned (.tuple #[.string a, .string b, .bool true]) ∧ ∃ n, w' = w.drewN n := by
  have HM : Hid (w.cell? ⟨0, 0, none⟩ = some (.int .i64 m)) := hc
  obtain ⟨r, hr⟩ : ∃ r : ByteArray, r.data.toList = b.data.toList ++ verB := ⟨⟨(b.data.toList ++ verB).toArray⟩, rfl⟩
  have hle := (reqB_le _ _ hm ht).1
  rw [← h, size_list] at hle
  have hal := (meth_is _ hm).2
  have hbl := (targ_is _ ht).2.2
  have hrl : r.size ≤ 209 := by rw [← size_list, hr, List.length_append]; simp [verB]; rw [size_list] at hbl; simpa using hbl
  rw [size_list] at hal hbl
  have HA : Hid (a.size ≤ maxLen) := by show _ ≤ _; unfold maxLen; omega
  have HB : Hid (b.size ≤ maxLen) := by show _ ≤ _; unfold maxLen; omega
  have HC : Hid (Lib.cut s.data.toList (⟨#[32]⟩ : ByteArray).data.toList = (a.data.toList, r.data.toList, true)) := by
    have hi := index_byte_at 32 a.data.toList (b.data.toList ++ verB) (meth_no _ 32 (by decide) hm)
    show _ = _
    rw [h, hr]
    unfold reqB
    refine (cut_yes _ _ a.data.toList.length hi).trans ?_
    rw [List.take_left' rfl, List.drop_append]
    simp
  have HS : Hid (cutSuf r.data.toList (⟨#[32, 72, 84, 84, 80, 47, 49, 46, 49]⟩ : ByteArray).data.toList = (b.data.toList, true)) := by
    show _ = _
    rw [hr]; exact cutSuf_yes _
  have HMe : Hid (meth a.data.toList = true) := hm
  have HTa : Hid (targ b.data.toList = true) := ht
  clear hc h hm ht hr
  go_enter Tryd.func20, Tryd.ntmps20
  go_wp2_with fail
  refine (scut_at s _ a r true HC.out m _ HM.out (by omega)).mono ?_
  rintro e w1 ⟨rfl, nd, rfl⟩
  go_wp2_with fail
  refine (scutSuf_at r _ b true HS.out _ (by omega)).mono ?_
  rintro e w2 ⟨rfl, rfl⟩
  go_wp2_with fail
  refine (isMethod_any _ _ HA.out).mono ?_
  rintro e w3 ⟨rfl, rfl⟩
  rw [HMe.out]
  go_wp2_with fail
  refine (isTarget_any _ _ HB.out).mono ?_
  rintro e w4 ⟨rfl, rfl⟩
  rw [HTa.out]
  go_wp2_with fail
  go_ret3
  exact ⟨rfl, nd, rfl⟩

set_option maxHeartbeats 2000000 in
set_option maxRecDepth 100000 in
theorem readR_no (s : ByteArray) (h : rdR s.data.toList = none) (m : Int) (w : World) (hc : w.cell? ⟨0, 0, none⟩ = some (.int .i64 m)) (hs : s.size ≤ 300) :
    Calls Tryd.prog 20 #[.string s] w fun e w' => (∃ x y, e = .returned (.tuple #[.string x, .string y, .bool false])) ∧ ∃ n, w' = w.drewN n := by
  have HM : Hid (w.cell? ⟨0, 0, none⟩ = some (.int .i64 m)) := hc
  clear hc
  have hsl := size_list s
  rcases index_two' s.data.toList [32] with hi | ⟨k, hi, hk⟩
  · have HC : Hid (Lib.cut s.data.toList (⟨#[32]⟩ : ByteArray).data.toList = (s.data.toList, (⟨#[]⟩ : ByteArray).data.toList, false)) := cut_no _ _ hi
    have HS : Hid (cutSuf (⟨#[]⟩ : ByteArray).data.toList (⟨#[32, 72, 84, 84, 80, 47, 49, 46, 49]⟩ : ByteArray).data.toList = ((⟨#[]⟩ : ByteArray).data.toList, false)) := rfl
    clear hi h hsl
    go_enter Tryd.func20, Tryd.ntmps20
    go_wp2_with fail
    refine (scut_at s _ s ⟨#[]⟩ false HC.out m _ HM.out (by omega)).mono ?_
    rintro e w1 ⟨rfl, nd, rfl⟩
    go_wp2_with fail
    refine (scutSuf_at _ _ ⟨#[]⟩ false HS.out _ (by decide)).mono ?_
    rintro e w2 ⟨rfl, rfl⟩
    go_wp2_with fail
    go_ret3
    exact ⟨⟨_, _, rfl⟩, nd, rfl⟩
  · obtain ⟨a, ha⟩ : ∃ a : ByteArray, a.data.toList = s.data.toList.take k := ⟨⟨(s.data.toList.take k).toArray⟩, rfl⟩
    obtain ⟨r, hr⟩ : ∃ r : ByteArray, r.data.toList = s.data.toList.drop (k + 1) := ⟨⟨(s.data.toList.drop (k + 1)).toArray⟩, rfl⟩
    have hsp := cut_split _ _ k hi
    have has : a.size ≤ 300 := by rw [← size_list, ha, List.length_take]; omega
    have hrs : r.size ≤ 300 := by rw [← size_list, hr, List.length_drop]; omega
    have HA : Hid (a.size ≤ maxLen) := by show _ ≤ _; unfold maxLen; omega
    have HC : Hid (Lib.cut s.data.toList (⟨#[32]⟩ : ByteArray).data.toList = (a.data.toList, r.data.toList, true)) := by
      show _ = _
      rw [ha, hr]; exact cut_yes _ _ k hi
    rcases cutSuf_two r.data.toList with ⟨t, ht⟩ | hno
    · obtain ⟨b, hb⟩ : ∃ b : ByteArray, b.data.toList = t := ⟨⟨t.toArray⟩, rfl⟩
      have hbs : b.size ≤ 300 := by
        have e := size_list r
        rw [ht, List.length_append, ← hb, size_list] at e; omega
      have HB : Hid (b.size ≤ maxLen) := by show _ ≤ _; unfold maxLen; omega
      have HS : Hid (cutSuf r.data.toList (⟨#[32, 72, 84, 84, 80, 47, 49, 46, 49]⟩ : ByteArray).data.toList = (b.data.toList, true)) := by
        show _ = _
        rw [ht, hb]; exact cutSuf_yes _
      have hrq : s.data.toList = reqB a.data.toList b.data.toList := by
        rw [hsp, ← ha]
        unfold reqB
        rw [hb, ← ht, hr]; rfl
      cases hm : meth a.data.toList
      · have HMe : Hid (meth a.data.toList = false) := hm
        clear hm hrq hb ht hr ha hsp hi h hk hsl
        go_enter Tryd.func20, Tryd.ntmps20
        go_wp2_with fail
        refine (scut_at s _ a r true HC.out m _ HM.out (by omega)).mono ?_
        rintro e w1 ⟨rfl, nd, rfl⟩
        go_wp2_with fail
        refine (scutSuf_at r _ b true HS.out _ (by omega)).mono ?_
        rintro e w2 ⟨rfl, rfl⟩
        go_wp2_with fail
        refine (isMethod_any _ _ HA.out).mono ?_
        rintro e w3 ⟨rfl, rfl⟩
        rw [HMe.out]
        go_wp2_with fail
        go_ret3
        exact ⟨⟨_, _, rfl⟩, nd, rfl⟩
      · have HMe : Hid (meth a.data.toList = true) := hm
        cases htt : targ b.data.toList
        · have HTa : Hid (targ b.data.toList = false) := htt
          clear hm hrq hb ht hr ha hsp hi h hk hsl htt
          go_enter Tryd.func20, Tryd.ntmps20
          go_wp2_with fail
          refine (scut_at s _ a r true HC.out m _ HM.out (by omega)).mono ?_
          rintro e w1 ⟨rfl, nd, rfl⟩
          go_wp2_with fail
          refine (scutSuf_at r _ b true HS.out _ (by omega)).mono ?_
          rintro e w2 ⟨rfl, rfl⟩
          go_wp2_with fail
          refine (isMethod_any _ _ HA.out).mono ?_
          rintro e w3 ⟨rfl, rfl⟩
          rw [HMe.out]
          go_wp2_with fail
          refine (isTarget_any _ _ HB.out).mono ?_
          rintro e w4 ⟨rfl, rfl⟩
          rw [HTa.out]
          go_wp2_with fail
          go_ret3
          exact ⟨⟨_, _, rfl⟩, nd, rfl⟩
        · exact absurd hrq (rdR_none _ h _ _ hm htt)
    · have HS : Hid (cutSuf r.data.toList (⟨#[32, 72, 84, 84, 80, 47, 49, 46, 49]⟩ : ByteArray).data.toList = (r.data.toList, false)) := hno
      clear hno hr ha hsp hi h hk hsl
      go_enter Tryd.func20, Tryd.ntmps20
      go_wp2_with fail
      refine (scut_at s _ a r true HC.out m _ HM.out (by omega)).mono ?_
      rintro e w1 ⟨rfl, nd, rfl⟩
      go_wp2_with fail
      refine (scutSuf_at r _ r false HS.out _ (by omega)).mono ?_
      rintro e w2 ⟨rfl, rfl⟩
      go_wp2_with fail
      go_ret3
      exact ⟨⟨_, _, rfl⟩, nd, rfl⟩
end Go.Proofs.YtlfdbaggiimnjaaDoor
