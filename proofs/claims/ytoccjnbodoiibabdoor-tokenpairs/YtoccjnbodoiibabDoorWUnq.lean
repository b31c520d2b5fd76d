/-
  What Unquote of package token computes; the string fits in Go's limits.
-/
import Derived.Test.YtoccjnbodoiibabDoorWUnesc
namespace Go.Proofs.YtoccjnbodoiibabDoor
open Go.RowKit

def mid (l : List UInt8) : List UInt8 := (l.drop 1).take (l.length - 2)
def quoted (l : List UInt8) : Bool := decide (2 ≤ l.length) && l[0]? == some 34 && l[l.length - 1]? == some 34
def unq (l : List UInt8) : List UInt8 × Int :=
  if quoted l = true then (if unescOk (mid l) = true then (if 1000 < (unescT (mid l)).length then ([], 2) else (unescT (mid l), 0)) else ([], 3)) else ([], 3)

theorem ret_err {a b : ByteArray} {c d : Int} (h : a = b) (h' : c = d) : Ending.returned (.tuple #[.string a, .int .i64 c]) = .returned (.tuple #[.string b, .int .i64 d]) := by rw [h, h']

theorem unescape_at (s t : ByteArray) (l : List UInt8) (ok : Bool) (hl : s.data.toList = l) (ht : t.data.toList = unescT l) (hok : unescOk l = ok) (w : World) (hs : s.size ≤ 140737488351232) :
    Calls Tryd.prog 68 #[.string s] w fun e w' => e = .returned (.tuple #[.string t, .bool ok]) ∧ Below w.heap.size w w' := by
  refine (unescape_any s w hs).mono ?_
  rintro e w' ⟨rfl, hb⟩
  subst hl hok
  refine ⟨ret_pair ?_ rfl, hb⟩
  apply ByteArray.ext
  apply Array.ext'
  rw [ht]

theorem mid_extract (s : ByteArray) : (s.extract 1 (s.size - 1)).data.toList = mid s.data.toList := by
  rw [Lib.extract_data, mid, size_list]; rfl

theorem mk_list (l : List UInt8) : (⟨l.toArray⟩ : ByteArray).data.toList = l := by simp
theorem mk_size (l : List UInt8) : (⟨l.toArray⟩ : ByteArray).size = l.length := by rw [← size_list]
theorem mk_self (s : ByteArray) (l : List UInt8) (h : s.data.toList = l) : (⟨l.toArray⟩ : ByteArray) = s := by
  subst h; rfl

theorem quoted_short (s : ByteArray) (h : s.size < 2) : quoted s.data.toList = false := by
  unfold quoted; rw [size_list, decide_eq_false (by omega)]; rfl
theorem get_at (s : ByteArray) (k : Nat) (h : k < s.size) : s.data.toList[k]? = some s[k] := by
  rw [List.getElem?_eq_getElem (by rw [size_list]; exact h)]; rfl
theorem quoted_first (s : ByteArray) (h0 : 0 < s.size) (h : (s[0].toNat : Int) ≠ 34) : quoted s.data.toList = false := by
  have hne := ne_of_int _ 34 h
  unfold quoted
  rw [get_at s 0 h0]
  have : (some s[0] == some (34 : UInt8)) = false := by simpa using hne
  rw [this, Bool.and_false, Bool.false_and]
theorem quoted_last (s : ByteArray) (h0 : s.size - 1 < s.size) (h : (s[s.size - 1].toNat : Int) ≠ 34) : quoted s.data.toList = false := by
  have hne := ne_of_int _ 34 h
  unfold quoted
  rw [size_list, get_at s (s.size - 1) h0]
  have : (some s[s.size - 1] == some (34 : UInt8)) = false := by simpa using hne
  rw [this, Bool.and_false]
theorem quoted_yes (s : ByteArray) (h2 : 2 ≤ s.size) (h : (s[0].toNat : Int) = 34) (h' : (s[s.size - 1].toNat : Int) = 34) : quoted s.data.toList = true := by
  have e := eq_of_int _ 34 h
  have e' := eq_of_int _ 34 h'
  unfold quoted
  rw [size_list, get_at s (s.size - 1) (by omega), get_at s 0 (by omega), e, e', decide_eq_true h2]; rfl

theorem unq_no (l : List UInt8) (h : quoted l = false) : unq l = ([], 3) := by unfold unq; rw [h]; rfl
theorem unq_bad (l : List UInt8) (h : unescOk (mid l) = false) : unq l = ([], 3) := by unfold unq; rw [h]; cases quoted l <;> rfl
theorem unq_long (l : List UInt8) (hq : quoted l = true) (h : unescOk (mid l) = true) (hl : 1000 < (unescT (mid l)).length) : unq l = ([], 2) := by
  unfold unq; rw [if_pos hq, if_pos h, if_pos hl]
theorem unq_ok (l : List UInt8) (hq : quoted l = true) (h : unescOk (mid l) = true) (hl : ¬ 1000 < (unescT (mid l)).length) : unq l = (unescT (mid l), 0) := by
  unfold unq; rw [if_pos hq, if_pos h, if_neg hl]

set_option maxHeartbeats 2000000 in
set_option maxRecDepth 100000 in
theorem unquote_at (s t : ByteArray) (n : Int) (hu : unq s.data.toList = (t.data.toList, n)) (w : World) (hs : s.size ≤ 140737488351232) :
    Calls Tryd.prog 60 #[.string s] w fun e w' => e = .returned (.tuple #[.string t, .int .i64 n]) ∧ Below w.heap.size w w' := by
  have fin : ∀ t' : ByteArray, ∀ n' : Int, unq s.data.toList = (t'.data.toList, n') → (t' = t ∧ n' = n) := by
    intro t' n' h
    rw [hu, Prod.mk.injEq] at h
    refine ⟨?_, h.2.symm⟩
    apply ByteArray.ext
    apply Array.ext'
    exact h.1.symm
  have HF : Hid (∀ t' : ByteArray, ∀ n' : Int, unq s.data.toList = (t'.data.toList, n') → (t' = t ∧ n' = n)) := fin
  clear fin hu
  by_cases h2 : s.size < 2
  · have HQ : Hid (quoted s.data.toList = false) := quoted_short s h2
    go_enter Tryd.func60, Tryd.ntmps60
    go_wp2_with fail
    go_ret2
    obtain ⟨e1, e2⟩ := HF.out ⟨#[]⟩ 3 (unq_no _ HQ.out)
    exact ⟨ret_err e1 e2, Below.refl _ _⟩
  · have hl : s.size - 1 < s.size := by omega
    have h0 : 0 < s.size := by omega
    by_cases hq : (s[0].toNat : Int) = 34
    · have hd : ((s[0].toNat : Int) != 34) = false := by simp [hq]
      by_cases hq1 : (s[s.size - 1].toNat : Int) = 34
      · have hd1 : ((s[s.size - 1].toNat : Int) != 34) = false := by simp [hq1]
        have HQ : Hid (quoted s.data.toList = true) := quoted_yes s (by omega) hq hq1
        clear hq hq1
        obtain ⟨t1, ht1⟩ : ∃ t1 : ByteArray, t1.data.toList = unescT (mid s.data.toList) := ⟨⟨(unescT (mid s.data.toList)).toArray⟩, mk_list _⟩
        have hsz : (s.extract 1 (s.size - 1)).size ≤ 140737488351232 := by rw [ByteArray.size_extract]; omega
        have HT : Hid (t1.data.toList = unescT (mid s.data.toList)) := ht1
        clear ht1
        cases hok : unescOk (mid s.data.toList)
        · have HO : Hid (unescOk (mid s.data.toList) = false) := hok
          clear hok
          go_enter Tryd.func60, Tryd.ntmps60
          go_wp2_with fail
          refine (unescape_at _ t1 _ false (mid_extract s) HT.out HO.out _ hsz).mono ?_
          rintro e w1 ⟨rfl, hb⟩
          go_wp2_with fail
          go_ret2
          obtain ⟨e1, e2⟩ := HF.out ⟨#[]⟩ 3 (unq_bad _ HO.out)
          exact ⟨ret_err e1 e2, hb⟩
        · have HO : Hid (unescOk (mid s.data.toList) = true) := hok
          clear hok
          by_cases hlen : 1000 < (t1.size : Int)
          · have HL : Hid (1000 < (unescT (mid s.data.toList)).length) := by
              show 1000 < (unescT (mid s.data.toList)).length
              rw [← HT.out, size_list]; omega
            go_enter Tryd.func60, Tryd.ntmps60
            go_wp2_with fail
            refine (unescape_at _ t1 _ true (mid_extract s) HT.out HO.out _ hsz).mono ?_
            rintro e w1 ⟨rfl, hb⟩
            go_wp2_with fail
            go_ret2
            obtain ⟨e1, e2⟩ := HF.out ⟨#[]⟩ 2 (unq_long _ HQ.out HO.out HL.out)
            exact ⟨ret_err e1 e2, hb⟩
          · have HL : Hid (¬ 1000 < (unescT (mid s.data.toList)).length) := by
              show ¬ 1000 < (unescT (mid s.data.toList)).length
              rw [← HT.out, size_list]; omega
            go_enter Tryd.func60, Tryd.ntmps60
            go_wp2_with fail
            refine (unescape_at _ t1 _ true (mid_extract s) HT.out HO.out _ hsz).mono ?_
            rintro e w1 ⟨rfl, hb⟩
            go_wp2_with fail
            go_ret2
            obtain ⟨e1, e2⟩ := HF.out t1 0 (by rw [unq_ok _ HQ.out HO.out HL.out, HT.out])
            exact ⟨ret_err e1 e2, hb⟩
      · have hd1 : ((s[s.size - 1].toNat : Int) != 34) = true := by simp [hq1]
        have HQ : Hid (quoted s.data.toList = false) := quoted_last s hl hq1
        clear hq hq1
        go_enter Tryd.func60, Tryd.ntmps60
        go_wp2_with fail
        go_ret2
        obtain ⟨e1, e2⟩ := HF.out ⟨#[]⟩ 3 (unq_no _ HQ.out)
        exact ⟨ret_err e1 e2, Below.refl _ _⟩
    · have hd : ((s[0].toNat : Int) != 34) = true := by simp [hq]
      have HQ : Hid (quoted s.data.toList = false) := quoted_first s h0 hq
      clear hq
      go_enter Tryd.func60, Tryd.ntmps60
      go_wp2_with fail
      go_ret2
      obtain ⟨e1, e2⟩ := HF.out ⟨#[]⟩ 3 (unq_no _ HQ.out)
      exact ⟨ret_err e1 e2, Below.refl _ _⟩
end Go.Proofs.YtoccjnbodoiibabDoor
