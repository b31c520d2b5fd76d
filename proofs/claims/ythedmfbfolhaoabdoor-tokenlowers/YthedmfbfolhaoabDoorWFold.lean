/-
  strings.EqualFold answers true of a text and the same text with its letters lowered; the tables of package utf8 hold what their text lays.
-/
import Derived.Test.YthedmfbfolhaoabDoorSpecL
import Derived.Test.YthedmfbfolhaoabDoorShelf
import Derived.Test.YthedmfbfolhaoabDoorRows
import Derived.Deep.LoopGhost
import Derived.Lib.OthersKept
import Derived.Laws.Strings3
import Derived.ScopeJumps
import Derived.Lib.RuneCountTail
import Derived.Shelf.Unicode.DecodeLastEight
namespace Go.Proofs.YthedmfbfolhaoabDoor
open Go.RowKit

theorem or_high (c : UInt8) (h : 128 ≤ c.toNat) : (128 : Int) ≤ bits .or .u8 (c.toNat : Int) (c.toNat : Int) := by
  have := byAll (fun c => !(decide (128 ≤ c.toNat)) || decide ((128 : Int) ≤ bits .or .u8 (c.toNat : Int) (c.toNat : Int))) (by decide +kernel) c
  rw [decide_eq_true h] at this
  simpa using this
theorem or_low (c : UInt8) (h : c.toNat < 128) : bits .or .u8 (c.toNat : Int) ((low c).toNat : Int) < (128 : Int) := by
  have := byAll (fun c => !(decide (c.toNat < 128)) || decide (bits .or .u8 (c.toNat : Int) ((low c).toNat : Int) < (128 : Int))) (by decide +kernel) c
  rw [decide_eq_true h] at this
  simpa using this
theorem low_cases (c : UInt8) : (((low c).toNat : Int) = (c.toNat : Int)) ∨ (65 ≤ (c.toNat : Int) ∧ (c.toNat : Int) ≤ 90 ∧ ((low c).toNat : Int) = (c.toNat : Int) + 32) := by
  have := byAll (fun c => decide (((low c).toNat : Int) = (c.toNat : Int)) || decide (65 ≤ (c.toNat : Int) ∧ (c.toNat : Int) ≤ 90 ∧ ((low c).toNat : Int) = (c.toNat : Int) + 32)) (by decide +kernel) c
  simpa using this

theorem Lowered.tail {s t : ByteArray} (h : Lowered s t) (k : Nat) : Lowered (s.extract k s.size) (t.extract k t.size) := by
  have es := Lib.tail_size s k
  have et := Lib.tail_size t k
  have hz := h.size
  refine ⟨by omega, fun j hj hj' => ?_⟩
  rw [← get_in _ j hj, ← get_in _ j hj', Lib.tail_get!, Lib.tail_get!]
  exact UInt8.toNat_inj.1 (h.get (k + j))

theorem Lowered.runes {s t : ByteArray} (h : Lowered s t) (i : Nat) (hi : i < s.size) :
    (Utf8.decode t i).2 = (Utf8.decode s i).2 ∧ ((Utf8.decode t i).1 = (Utf8.decode s i).1 ∨ (65 ≤ (Utf8.decode s i).1 ∧ (Utf8.decode s i).1 ≤ 90 ∧ (Utf8.decode t i).1 = (Utf8.decode s i).1 + 32)) := by
  by_cases hc : s[i].toNat < 128
  · obtain ⟨e1, e2⟩ := h.low i hi hc
    rw [e1, e2]
    have := low_cases s[i]
    exact ⟨rfl, by simp only; omega⟩
  · rw [h.high i hi (by omega)]
    exact ⟨rfl, .inl rfl⟩

/-- At the label: the two texts, and a place within them. -/
def AtLabel (s t : ByteArray) (w : World) (a' : Act) (w' : World) : Prop :=
  w' = w ∧ ∃ (k : Nat) (u : Nat → Value), k < s.size ∧ a' = { tmps := #[.string s, .string t, u 2, u 3, u 4, .int .i64 k, u 6, u 7, u 8, u 9, u 10, u 11, u 12, u 13, u 14, u 15, u 16, u 17, u 18, u 19, u 20, u 21, u 22, u 23, u 24, u 25, u 26, u 27, u 28, u 29, u 30, u 31, u 32, u 33, u 34, u 35, u 36, u 37, u 38, u 39, u 40, u 41, u 42, u 43, u 44, u 45, u 46, u 47, u 48, u 49, u 50, u 51, u 52, u 53, u 54, u 55, u 56, u 57, u 58, u 59, u 60, u 61, u 62, u 63, u 64, u 65, u 66, u 67, u 68, u 69, u 70, u 71, u 72, u 73, u 74, u 75, u 76, u 77, u 78, u 79, u 80, u 81, u 82, u 83, u 84, u 85, u 86, u 87, u 88, u 89, u 90, u 91, u 92, u 93, u 94, u 95, u 96, u 97, u 98, u 99, u 100, u 101, u 102, u 103, u 104, u 105, u 106, u 107, u 108, u 109, u 110, u 111, u 112, u 113, u 114, u 115, u 116, u 117, u 118, u 119, u 120, u 121, u 122], defers := [] }
def nth : List Value → Nat → Value
  | [], _ => undef
  | x :: _, 0 => x
  | _ :: l, n + 1 => nth l n
theorem atLabel_intro (s t : ByteArray) (w : World) (a : Act) (k : Nat) (hk : k < s.size) (h : a = { tmps := #[.string s, .string t, nth a.tmps.toList 2, nth a.tmps.toList 3, nth a.tmps.toList 4, .int .i64 k, nth a.tmps.toList 6, nth a.tmps.toList 7, nth a.tmps.toList 8, nth a.tmps.toList 9, nth a.tmps.toList 10, nth a.tmps.toList 11, nth a.tmps.toList 12, nth a.tmps.toList 13, nth a.tmps.toList 14, nth a.tmps.toList 15, nth a.tmps.toList 16, nth a.tmps.toList 17, nth a.tmps.toList 18, nth a.tmps.toList 19, nth a.tmps.toList 20, nth a.tmps.toList 21, nth a.tmps.toList 22, nth a.tmps.toList 23, nth a.tmps.toList 24, nth a.tmps.toList 25, nth a.tmps.toList 26, nth a.tmps.toList 27, nth a.tmps.toList 28, nth a.tmps.toList 29, nth a.tmps.toList 30, nth a.tmps.toList 31, nth a.tmps.toList 32, nth a.tmps.toList 33, nth a.tmps.toList 34, nth a.tmps.toList 35, nth a.tmps.toList 36, nth a.tmps.toList 37, nth a.tmps.toList 38, nth a.tmps.toList 39, nth a.tmps.toList 40, nth a.tmps.toList 41, nth a.tmps.toList 42, nth a.tmps.toList 43, nth a.tmps.toList 44, nth a.tmps.toList 45, nth a.tmps.toList 46, nth a.tmps.toList 47, nth a.tmps.toList 48, nth a.tmps.toList 49, nth a.tmps.toList 50, nth a.tmps.toList 51, nth a.tmps.toList 52, nth a.tmps.toList 53, nth a.tmps.toList 54, nth a.tmps.toList 55, nth a.tmps.toList 56, nth a.tmps.toList 57, nth a.tmps.toList 58, nth a.tmps.toList 59, nth a.tmps.toList 60, nth a.tmps.toList 61, nth a.tmps.toList 62, nth a.tmps.toList 63, nth a.tmps.toList 64, nth a.tmps.toList 65, nth a.tmps.toList 66, nth a.tmps.toList 67, nth a.tmps.toList 68, nth a.tmps.toList 69, nth a.tmps.toList 70, nth a.tmps.toList 71, nth a.tmps.toList 72, nth a.tmps.toList 73, nth a.tmps.toList 74, nth a.tmps.toList 75, nth a.tmps.toList 76, nth a.tmps.toList 77, nth a.tmps.toList 78, nth a.tmps.toList 79, nth a.tmps.toList 80, nth a.tmps.toList 81, nth a.tmps.toList 82, nth a.tmps.toList 83, nth a.tmps.toList 84, nth a.tmps.toList 85, nth a.tmps.toList 86, nth a.tmps.toList 87, nth a.tmps.toList 88, nth a.tmps.toList 89, nth a.tmps.toList 90, nth a.tmps.toList 91, nth a.tmps.toList 92, nth a.tmps.toList 93, nth a.tmps.toList 94, nth a.tmps.toList 95, nth a.tmps.toList 96, nth a.tmps.toList 97, nth a.tmps.toList 98, nth a.tmps.toList 99, nth a.tmps.toList 100, nth a.tmps.toList 101, nth a.tmps.toList 102, nth a.tmps.toList 103, nth a.tmps.toList 104, nth a.tmps.toList 105, nth a.tmps.toList 106, nth a.tmps.toList 107, nth a.tmps.toList 108, nth a.tmps.toList 109, nth a.tmps.toList 110, nth a.tmps.toList 111, nth a.tmps.toList 112, nth a.tmps.toList 113, nth a.tmps.toList 114, nth a.tmps.toList 115, nth a.tmps.toList 116, nth a.tmps.toList 117, nth a.tmps.toList 118, nth a.tmps.toList 119, nth a.tmps.toList 120, nth a.tmps.toList 121, nth a.tmps.toList 122], defers := [] }) : AtLabel s t w a w := ⟨rfl, k, nth a.tmps.toList, hk, h⟩

theorem extract_tail (s : ByteArray) (pos n : Nat) : (s.extract pos s.size).extract n (s.extract pos s.size).size = s.extract (pos + n) s.size := by
  rw [ByteArray.extract_extract, Lib.tail_size]
  congr 1
  omega
theorem extract_all (s : ByteArray) : s.extract 0 s.size = s := by
  apply ByteArray.ext
  simp
theorem decodeGo_rest (s : ByteArray) (pos : Nat) (h : pos < s.size) : Lib.decodeGo (s.extract pos s.size) = Utf8.decode s pos := by
  unfold Lib.decodeGo
  rw [if_neg (by rw [Lib.tail_size]; omega), Lib.tail_decode, Nat.add_zero]
theorem decode_width (s : ByteArray) (pos : Nat) (h : pos < s.size) : 1 ≤ (Utf8.decode s pos).2 ∧ pos + (Utf8.decode s pos).2 ≤ s.size := by
  have h1 : 1 ≤ (Utf8.decode s pos).2 := by
    by_cases ha : (s[pos]'h).toNat < 128
    · rw [decode_ascii s pos h ha]; exact Nat.le_refl _
    · exact (decode_high s pos h (by omega)).2
  have h2 : (Utf8.decode s pos).2 ≤ s.size - pos := by
    rw [Lib.decode_at]
    exact Lib.decodeN_le_n _ _ _ _ _ (by omega)
  omega

set_option maxHeartbeats 4000000 in
set_option maxRecDepth 1000000 in
theorem fold_any (s t : ByteArray) (hl : Lowered s t) (w : World) (hs : s.size ≤ 140737488351232) (hT : Lib.Utf8Tabs 3 4 w) :
    Calls Tryd.prog 9 #[.string s, .string t] w fun e w' => e = .returned (.bool true) ∧ Below w.heap.size w w' := by
  have HL : Hid (Lowered s t) := hl
  have HT : Hid (Lib.Utf8Tabs 3 4 w) := hT
  have hsz := hl.size
  have hmin : min (s.size : Int) (t.size : Int) = (s.size : Int) := by omega
  have hst1 : s.size ≤ t.size := by omega
  have hst2 : t.size ≤ s.size := by omega
  have hsame : ((s.size : Int) == (t.size : Int)) = true := beq_iff_eq.2 (by omega)
  clear hl hT hsz
  go_enter Tryd.func9, Tryd.ntmps9
  go_wp2_with fail
  refine wp_scope_jumps 0 (AtLabel s t w) (fun _ _ => 0) rfl ?_ ?_
  · go_wp2_with fail
    go_loop [5] (fun i => ∃ k : Nat, k ≤ s.size ∧ i = .int .i64 k) (fun i => s.size - (intOf i).toNat)
    case atStart => exact ⟨0, Nat.zero_le _, rfl⟩
    case round =>
      obtain ⟨k, hk, rfl⟩ := hrel
      clear hmin
      by_cases hlt : k < s.size
      · have hlt' : k < t.size := by omega
        have hlz : (k : Int) < (s.size : Int) := by omega
        have hlz' : (k : Int) < (t.size : Int) := by omega
        by_cases hc : s[k].toNat < 128
        · have e : t[k] = low s[k] := HL.out.at_ k hlt hlt'
          obtain ⟨x, hx⟩ : ∃ x : UInt8, s[k] = x := ⟨_, rfl⟩
          obtain ⟨y, hy⟩ : ∃ y : UInt8, t[k] = y := ⟨_, rfl⟩
          have hyx : y = low x := by rw [← hy, ← hx, e]
          have hor : ¬ ((128 : Int) ≤ bits .or .u8 (x.toNat : Int) (y.toNat : Int)) := by
            have := or_low x (by rw [← hx]; exact hc)
            rw [hyx]; omega
          have hlc := low_cases x
          rw [← hyx] at hlc
          clear e hyx hc
          go_wp2_with fail
          all_goals (try simp only [beq_iff_eq, beq_eq_false_iff_ne, ne_eq] at *)
          all_goals first
            | (go_round
               case measure => simp [intOf]; omega
               case rel => exact ⟨k + 1, by omega, by first | rfl | simp⟩)
            | (exfalso; omega)
        · have e : t[k] = s[k] := by rw [HL.out.at_ k hlt hlt', low_high _ (by omega)]
          have hor := or_high s[k] (by omega)
          go_wp2_with fail
          go_step3
          exact ⟨rfl, atLabel_intro s t w _ k hlt rfl⟩
      · go_wp2_with fail
        simp only [Exit.jump]
        go_ret
        exact ⟨by rw [← hsame]; rfl, Below.refl _ w⟩
  · rintro a' w' ⟨rfl, k, u, hlt, rfl⟩
    have HL2 : Hid (Lowered (s.extract k s.size) (t.extract k t.size)) := HL.out.tail k
    have hks : (k : Int) ≤ (s.size : Int) := by omega
    have hkt : (k : Int) ≤ (t.size : Int) := by omega
    have hSb : (s.extract k s.size).size ≤ 140737488351232 := by rw [Lib.tail_size]; omega
    have HS2 : (t.extract k t.size).size = (s.extract k s.size).size := HL2.out.size
    go_wp2_with fail
    generalize s.extract k s.size = S at *
    generalize t.extract k t.size = T at *
    go_loopw [1] (fun t1 wr => ∃ pos : Nat, pos ≤ S.size ∧ wr.heap[w'.heap.size]? = some (.stringIter S pos) ∧ Below w'.heap.size w' wr ∧ t1 = .string (T.extract pos T.size)) (fun _ wr => S.size - wr.iterPos w'.heap.size)
    case atStart => exact ⟨0, Nat.zero_le _, World.iter_heap w' S 0, (Below.refl _ w').alloc (Nat.le_refl _) _, by rw [extract_all]⟩
    case round =>
      obtain ⟨pos, hpos, hit, hbw, rfl⟩ := hrel
      have hsz : w'.heap.size < wr.heap.size := (Array.getElem?_eq_some_iff.1 hit).1
      by_cases hp : pos < S.size
      · have hnx : ∀ ty, (Instr.next (.pointer (some ⟨w'.heap.size, 0, none⟩)) true ty).run Tryd.prog wr = _ := fun ty => Lib.run_next_any_at wr w'.heap.size S pos ty hit hp
        have hwd := decode_width S pos hp
        have hd1 := decode_le S pos
        have hit2 := Lib.iterAt_heap wr w'.heap.size S pos (pos + (Utf8.decode S pos).2) hit
        have hbw2 := Lib.below_iterAt hbw (k := w'.heap.size) (Nat.le_refl _) S (pos + (Utf8.decode S pos).2)
        have hTs : ((T.extract pos T.size).size : Int) = (T.size : Int) - (pos : Int) := by rw [Lib.tail_size]; omega
        have cD := Tryd.utf8_DecodeRuneInString (T.extract pos T.size) (wr.iterAt w'.heap.size S (pos + (Utf8.decode S pos).2)) (Utf8Tabs_below HT.out hbw2)
        rw [decodeGo_rest T pos (by omega), (HL2.out.runes pos hp).1] at cD
        have hrn := (HL2.out.runes pos hp).2
        have hTz : (T.extract pos T.size).size = S.size - pos := by rw [Lib.tail_size]; omega
        have hxt := extract_tail T pos (Utf8.decode S pos).2
        generalize (Utf8.decode S pos).1 = x at *
        generalize (Utf8.decode S pos).2 = n at *
        generalize (Utf8.decode T pos).1 = y at *
        generalize T.extract pos T.size = Tp at *
        have hne : ((Tp.size : Int) == (0 : Int)) = false := beq_eq_false_iff_ne.2 (by omega)
        have hnT : (n : Int) ≤ (Tp.size : Int) := by omega
        have HX : Hid (Tp.extract n Tp.size = T.extract (pos + n) T.size) := hxt
        clear hxt hTs
        go_wp2_with (go_at_call 21; refine cD.mono ?_)
        rintro e W1 ⟨rfl, b1⟩
        have hit3 : W1.heap[w'.heap.size]? = some (.stringIter S (pos + n)) := by rw [b1.block _ (by rw [Lib.iterAt_size]; exact hsz)]; exact hit2
        have hbw3 : Below w'.heap.size w' W1 := hbw2.trans (b1.mono (by rw [Lib.iterAt_size]; omega))
        rcases hrn with hrn | ⟨hx1, hx2, hrn⟩
        · subst hrn
          go_wp2_with fail
          go_roundw
          case rel => exact ⟨pos + n, by omega, hit3, hbw3, by rw [← HX.out, hTz]⟩
          case measure =>
            simp only [World.iterPos, hit3, hit]
            omega
        · subst hrn
          go_wp2_with fail
          all_goals (try simp only [beq_iff_eq, beq_eq_false_iff_ne, ne_eq] at *)
          all_goals first
            | (go_roundw
               case rel => exact ⟨pos + n, by omega, hit3, hbw3, by rw [← HX.out, hTz]⟩
               case measure => simp only [World.iterPos, hit3, hit]; omega)
            | (exfalso; omega)
      · have hnx : ∀ ty, (Instr.next (.pointer (some ⟨w'.heap.size, 0, none⟩)) true ty).run Tryd.prog wr = _ := fun ty => Lib.run_next_end_at wr w'.heap.size S pos ty hit hp
        have hz : ((T.extract pos T.size).size : Int) = 0 := by rw [Lib.tail_size]; omega
        have hz2 : (((S.size - pos : Nat) : Int) == (0 : Int)) = true := beq_iff_eq.2 (by omega)
        go_wp2_with fail
        simp only [Exit.jump]
        go_ret
        exact ⟨by first | rfl | (rw [← hz2]; rfl), hbw⟩
end Go.Proofs.YthedmfbfolhaoabDoor
