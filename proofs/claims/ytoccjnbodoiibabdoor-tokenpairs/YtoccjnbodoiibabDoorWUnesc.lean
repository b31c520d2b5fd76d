/-
  What unescape of package token computes; the string fits in Go's limits.
-/
import Derived.Test.YtoccjnbodoiibabDoorWPlain
import Derived.Test.YtoccjnbodoiibabDoorShelf
import Derived.Test.YtoccjnbodoiibabDoorRows
namespace Go.Proofs.YtoccjnbodoiibabDoor
open Go.RowKit

theorem ret_pair {a b : ByteArray} {c d : Bool} (h : a = b) (h' : c = d) : Ending.returned (.tuple #[.string a, .bool c]) = .returned (.tuple #[.string b, .bool d]) := by rw [h, h']

set_option maxHeartbeats 2000000 in
set_option maxRecDepth 100000 in
theorem unescape_any (s : ByteArray) (w : World) (hs : s.size ≤ 140737488351232) :
    Calls Tryd.prog 68 #[.string s] w fun e w' => e = .returned (.tuple #[.string ⟨(unescT s.data.toList).toArray⟩, .bool (unescOk s.data.toList)]) ∧ Below w.heap.size w w' := by
  have hfr := Lib.fresh_isBuilder 45 5 w
  go_enter Tryd.func68, Tryd.ntmps68
  go_wp2_with fail
  go_loopw [5, 10] (fun c i wr => ∃ (k : Nat) (acc : List UInt8) (cnt : Bool), k ≤ s.size ∧ i = .int .i64 k ∧ c = .bool cnt ∧ unesc (s.data.toList.take k) = some (acc, cnt) ∧ Lib.IsBuilder 45 5 w.heap.size w.heap.size (Lib.byteCells acc) wr ∧ Below w.heap.size w wr) (fun _ i _ => s.size - (intOf i).toNat)
  case atStart => exact ⟨0, [], false, Nat.zero_le _, rfl, rfl, rfl, hfr, (Below.refl _ w).alloc (Nat.le_refl _) _⟩
  case round =>
    obtain ⟨k, acc, cnt, hk, rfl, rfl, hu, hb, hw⟩ := hrel
    clear hfr
    have hsz := hw.size
    have hal : acc.length ≤ k := by
      have := unesc_len _ _ _ hu
      have h2 := List.length_take_le k s.data.toList
      omega
    have HU : Hid (unesc (s.data.toList.take k) = some (acc, cnt)) := hu
    clear hu
    by_cases hlt : k < s.size
    · have hlen : (Lib.byteCells acc).length + 1 ≤ 140737488355328 := by rw [Lib.byteCells_length]; omega
      have hc1 : (s[k].toNat : Int) < 256 := by have := s[k].toNat_lt; omega
      cases hp : plainB s[k]
      · have HP : Hid (plainB s[k] = false) := hp
        clear hp
        go_wp2_with fail
        refine (isPlain_any _ _).mono ?_
        rintro e w' ⟨rfl, rfl⟩
        rw [HP.out]
        go_wp2_with fail
        go_ret2
        have hn := unesc_dead s k hlt _ HU.out (ustep_bad _ _ HP.out)
        exact ⟨ret_pair (by unfold unescT; rw [hn]) (by unfold unescOk; rw [hn]), hw⟩
      · have HP : Hid (plainB s[k] = true) := hp
        clear hp
        cases cnt
        · by_cases h34 : (s[k].toNat : Int) = 34
          · have hd : ((s[k].toNat : Int) == 34) = true := by simp [h34]
            have H34 : Hid ((s[k].toNat : Int) = 34) := h34
            clear h34
            go_wp2_with fail
            refine (isPlain_any _ _).mono ?_
            rintro e w' ⟨rfl, rfl⟩
            rw [HP.out]
            go_wp2_with fail
            go_ret2
            have hn := unesc_dead s k hlt _ HU.out (ustep_quote _ _ (eq_of_int _ 34 H34.out))
            exact ⟨ret_pair (by unfold unescT; rw [hn]) (by unfold unescOk; rw [hn]), hw⟩
          · have hd : ((s[k].toNat : Int) == 34) = false := by simp [h34]
            have H34 : Hid ((s[k].toNat : Int) ≠ 34) := h34
            clear h34
            by_cases h92 : (s[k].toNat : Int) = 92
            · have hd2 : ((s[k].toNat : Int) == 92) = true := by simp [h92]
              have H92 : Hid ((s[k].toNat : Int) = 92) := h92
              clear h92
              go_wp2_with fail
              refine (isPlain_any _ _).mono ?_
              rintro e w' ⟨rfl, rfl⟩
              rw [HP.out]
              go_wp2_with fail
              go_roundw
              case rel => exact ⟨k + 1, acc, true, by omega, by go_num, rfl, by rw [take_snoc s k hlt, unesc_snoc, HU.out, ustep_back _ _ (eq_of_int _ 92 H92.out)], hb, hw⟩
              case measure => simp [intOf]; omega
            · have hd2 : ((s[k].toNat : Int) == 92) = false := by simp [h92]
              have H92 : Hid ((s[k].toNat : Int) ≠ 92) := h92
              clear h92
              go_wp2_with fail
              refine (isPlain_any _ _).mono ?_
              rintro e w' ⟨rfl, rfl⟩
              rw [HP.out]
              go_wp2_with fail
              refine (Tryd.Builder_WriteByte w.heap.size w.heap.size _ _ _ hb hlen hsz).mono ?_
              rintro e w2 ⟨rfl, hb2, hw2⟩
              go_wp2_with fail
              go_roundw
              case rel => exact ⟨k + 1, acc ++ [s[k]], false, by omega, by go_num, rfl, by rw [take_snoc s k hlt, unesc_snoc, HU.out, ustep_else _ _ HP.out (ne_of_int _ 34 H34.out) (ne_of_int _ 92 H92.out)], .inr (by rw [Lib.byteCells_append]; exact hb2), hw.trans hw2⟩
              case measure => simp [intOf]; omega
        · go_wp2_with fail
          refine (isPlain_any _ _).mono ?_
          rintro e w' ⟨rfl, rfl⟩
          rw [HP.out]
          go_wp2_with fail
          refine (Tryd.Builder_WriteByte w.heap.size w.heap.size _ _ _ hb hlen hsz).mono ?_
          rintro e w2 ⟨rfl, hb2, hw2⟩
          go_wp2_with fail
          go_roundw
          case rel => exact ⟨k + 1, acc ++ [s[k]], false, by omega, by go_num, rfl, by rw [take_snoc s k hlt, unesc_snoc, HU.out, ustep_took _ _ HP.out], .inr (by rw [Lib.byteCells_append]; exact hb2), hw.trans hw2⟩
          case measure => simp [intOf]; omega
    · obtain rfl : k = s.size := by omega
      go_wp2_with fail
      refine (Tryd.Builder_String_any w.heap.size w.heap.size _ _ hb hsz).mono ?_
      rintro e w2 ⟨rfl, hw2⟩
      go_wp2_with fail
      go_ret2
      have hn := HU.out
      rw [take_all] at hn
      exact ⟨ret_pair (by unfold unescT; rw [hn]) (by unfold unescOk; rw [hn]), hw.trans hw2⟩
end Go.Proofs.YtoccjnbodoiibabDoor
