/-
  What Print of package control answers, of directives with no more than some million letters.
-/
import Derived.Test.YtoccjnbodoiibaaDoorMb
import Derived.Test.YtoccjnbodoiibaaDoorShelf
import Derived.Test.YtoccjnbodoiibaaDoorRows
import Derived.Lib.Replace
import Derived.Lib.ReplaceLaws
import Derived.BigQuiet
import Derived.Deep.QuietTactic
import Derived.Deep.SlicePairs
import Derived.Lib.SmallJoins
import Derived.Deep.Strs
import Derived.Lib.IndexMore
import Derived.Lib.IndexBytes
import Derived.Shelf.Strings.Cut
namespace Go.Proofs.YtoccjnbodoiibaaDoor
open Go.RowKit

set_option maxHeartbeats 4000000 in
set_option maxRecDepth 100000 in
theorem kprint_at (v : Value) (ls : List Dv) (t : ByteArray) (c : Int) (h : ctP ls = (t.data.toList, c)) (w : World) (hf : Dl w v ls) (hk : bulkD ls ≤ 1048576) :
    Calls Tryd.prog 7 #[v] w fun e w' => e = .returned (.tuple #[.string t, .int .i64 c]) ∧ Below w.heap.size w w' := by
  obtain ⟨ad, cap, hv, hcap, hcm, hc⟩ := hf
  subst hv
  have HC : Hid (0 < ls.length → ∃ g off, ad = some ⟨g, off, none⟩ ∧ g < w.heap.size ∧
    ∀ (k : Nat) (h : k < ls.length), w.cell? ⟨g, off + k * 3, none⟩ = some (.string ⟨(ls[k]).1.toArray⟩) ∧ w.cell? ⟨g, off + k * 3 + 1, none⟩ = some (.bool (ls[k]).2.1) ∧ w.cell? ⟨g, off + k * 3 + 2, none⟩ = some (.string ⟨(ls[k]).2.2.toArray⟩)) := hc
  have HP : Hid (ctP ls = (t.data.toList, c)) := h
  have HM : Hid (∀ x ∈ ls, x.1.length + x.2.2.length + 4 ≤ 1048576) := fun x hx => by have := bulkD_mem ls x hx; omega
  have HSL : Hid (∀ k, (sepD (ls.take k)).length ≤ 2097152) := fun k => by
    have h1 := sepD_len (ls.take k)
    have h2 := bulkD_take ls k
    omega
  have hll : ls.length ≤ 1048576 := by have := bulkD_len ls; omega
  unfold maxLen at hcm
  clear h hc hk
  go_enter Tryd.func7, Tryd.ntmps7
  go_wp2_with fail
  go_loopw [12] (fun i wr => ∃ k : Nat, k ≤ ls.length ∧ i = .int .i64 k ∧ Hid (badD (ls.take k) = 0) ∧ Below w.heap.size w wr) (fun i _ => ls.length - (intOf i).toNat)
  case atStart => exact ⟨0, Nat.zero_le _, rfl, rfl, Below.refl _ _⟩
  case round =>
    obtain ⟨k, hkl, rfl, HB0, hw⟩ := hrel
    have hsz := hw.size
    by_cases hlt : k < ls.length
    · obtain ⟨g, off, rfl, hgs, hce⟩ := HC.out (by omega)
      obtain ⟨c1, c2, c3⟩ := hce k hlt
      have hm := HM.out ls[k] (List.getElem_mem hlt)
      obtain ⟨n, hn⟩ : ∃ n : ByteArray, n = ⟨(ls[k]).1.toArray⟩ := ⟨_, rfl⟩
      obtain ⟨f, hf⟩ : ∃ f : Bool, f = (ls[k]).2.1 := ⟨_, rfl⟩
      obtain ⟨a, ha⟩ : ∃ a : ByteArray, a = ⟨(ls[k]).2.2.toArray⟩ := ⟨_, rfl⟩
      have HE : Hid ((n.data.toList, f, a.data.toList) = ls[k]) := by show _ = _; rw [hn, hf, ha]
      have hns : n.size ≤ 1048576 := by rw [← size_list, hn]; show (ls[k]).1.length ≤ _; omega
      have has : a.size ≤ 1048576 := by rw [← size_list, ha]; show (ls[k]).2.2.length ≤ _; omega
      rw [← hn] at c1; rw [← hf] at c2; rw [← ha] at c3
      have d1 : wr.cell? ⟨g, off + k * 3, none⟩ = some (.string n) := (hw.cell (p := ⟨g, off + k * 3, none⟩) hgs).trans c1
      have d2 : wr.cell? ⟨g, off + k * 3 + 1, none⟩ = some (.bool f) := (hw.cell (p := ⟨g, off + k * 3 + 1, none⟩) hgs).trans c2
      have d3 : wr.cell? ⟨g, off + k * 3 + 2, none⟩ = some (.string a) := (hw.cell (p := ⟨g, off + k * 3 + 2, none⟩) hgs).trans c3
      have hgr : g < wr.heap.size := by omega
      have hki : (k : Int) < (ls.length : Int) := by omega
      have hk0 : (0 : Int) ≤ (k : Int) := by omega
      obtain ⟨e, he⟩ : ∃ e, chkD (n.data.toList, f, a.data.toList) = e := ⟨_, rfl⟩
      have HCE : Hid (chkD (n.data.toList, f, a.data.toList) = e) := he
      have HA0 : Hid (Below w.heap.size w (wr.alloc (.cells #[.string n, .bool f, .string a] 31))) := hw.alloc (by omega) _
      clear hce c1 c2 c3 hn hf ha hm he
      by_cases hz : e = 0
      · subst hz
        have HN : Hid (badD (ls.take (k + 1)) = 0) := badD_take ls k hlt HB0.out (by rw [← HE.out]; exact HCE.out)
        go_wp2_with fail
        refine (kcheck_at n a f 0 HCE.out _ (by omega) (by unfold maxLen; omega)).mono ?_
        rintro e w2 ⟨rfl, hb2⟩
        have HW2 := HA0.out.trans (hb2.mono HA0.out.size)
        clear hb2
        go_wp2_with fail
        go_roundw
        case rel => exact ⟨k + 1, by omega, by go_num, HN, HW2⟩
        case measure => simp [intOf]; omega
      · have hzb : (e != 0) = true := by simpa using hz
        have HZ : Hid (t = ⟨#[]⟩ ∧ c = e) := by
          have hd := badD_dead ls k hlt HB0.out (by rw [← HE.out, HCE.out]; exact hz)
          rw [← HE.out, HCE.out] at hd
          have h := HP.out
          unfold ctP at h
          rw [hd, if_neg hz] at h
          simp only [Prod.mk.injEq] at h
          refine ⟨?_, h.2.symm⟩
          apply ByteArray.ext; apply Array.ext'; exact h.1.symm
        clear hz
        go_wp2_with fail
        refine (kcheck_at n a f e HCE.out _ (by omega) (by unfold maxLen; omega)).mono ?_
        rintro e' w2 ⟨rfl, hb2⟩
        have HW2 := HA0.out.trans (hb2.mono HA0.out.size)
        clear hb2
        go_wp2_with fail
        go_ret2
        exact ⟨by rw [HZ.out.1, HZ.out.2]; try rfl, HW2⟩
    · have HALL : Hid (badD ls = 0) := by have := HB0.out; rw [List.take_of_length_le (by omega)] at this; exact this
      by_cases h20 : 20 < ls.length
      · have h20i : (20 : Int) < (ls.length : Int) := by omega
        have HZ : Hid (t = ⟨#[]⟩ ∧ c = 2) := by
          have h := HP.out
          unfold ctP at h
          rw [if_pos HALL.out, if_pos (.inl h20)] at h
          simp only [Prod.mk.injEq] at h
          refine ⟨?_, h.2.symm⟩
          apply ByteArray.ext; apply Array.ext'; exact h.1.symm
        go_wp2_with fail
        go_ret2
        exact ⟨by rw [HZ.out.1, HZ.out.2]; try rfl, hw⟩
      · have h20i : ¬ (20 : Int) < (ls.length : Int) := by omega
        have HB : Hid (Lib.IsBuilderF 37 5 wr.heap.size wr.heap.size [] (wr.alloc (.cells #[.pointer none, .slice none 0 0] 37))) := Lib.IsBuilderF.of (Lib.fresh_isBuilder 37 5 wr)
        have HB1 : Hid (Below wr.heap.size wr (wr.alloc (.cells #[.pointer none, .slice none 0 0] 37))) := (Below.refl _ wr).alloc (Nat.le_refl _) _
        have HW : Hid (Below w.heap.size w wr) := hw
        obtain ⟨w1, hw1⟩ : ∃ w1, w1 = wr := ⟨_, rfl⟩
        subst hw1
        go_wp2_with fail
        clear hlt
        go_loopw [27] (fun i wr => ∃ k : Nat, k ≤ ls.length ∧ i = .int .i64 k ∧ Lib.IsBuilderF 37 5 w1.heap.size w1.heap.size (Lib.byteCells (sepD (ls.take k))) wr ∧ Below w1.heap.size w1 wr) (fun i _ => ls.length - (intOf i).toNat)
        case atStart => exact ⟨0, Nat.zero_le _, rfl, HB.out, HB1.out⟩
        case round =>
          obtain ⟨k, hkl, rfl, hbu, hw1⟩ := hrel
          have hszr := hw1.size
          have hsl := HSL.out k
          have HBU : Hid (Lib.IsBuilderF 37 5 w1.heap.size w1.heap.size (Lib.byteCells (sepD (ls.take k))) wr) := hbu
          clear hbu
          have hwl : w1.heap.size < wr.heap.size := by
            rcases HBU.out with h | h
            · exact h.lt
            · exact h.lt
          by_cases hlt : k < ls.length
          · obtain ⟨g, off, rfl, hgs, hce⟩ := HC.out (by omega)
            obtain ⟨c1, c2, c3⟩ := hce k hlt
            have hm := HM.out ls[k] (List.getElem_mem hlt)
            obtain ⟨n, hn⟩ : ∃ n : ByteArray, n = ⟨(ls[k]).1.toArray⟩ := ⟨_, rfl⟩
            obtain ⟨f, hf⟩ : ∃ f : Bool, f = (ls[k]).2.1 := ⟨_, rfl⟩
            obtain ⟨a, ha⟩ : ∃ a : ByteArray, a = ⟨(ls[k]).2.2.toArray⟩ := ⟨_, rfl⟩
            have HE : Hid (ls[k] = (n.data.toList, f, a.data.toList)) := by show _ = _; rw [hn, hf, ha]
            have hns : n.size ≤ 1048576 := by rw [← size_list, hn]; show (ls[k]).1.length ≤ _; omega
            have has : a.size ≤ 1048576 := by rw [← size_list, ha]; show (ls[k]).2.2.length ≤ _; omega
            rw [← hn] at c1; rw [← hf] at c2; rw [← ha] at c3
            have hwa := HW.out.trans (hw1.mono HW.out.size)
            have d1 : wr.cell? ⟨g, off + k * 3, none⟩ = some (.string n) := (hwa.cell (p := ⟨g, off + k * 3, none⟩) hgs).trans c1
            have d2 : wr.cell? ⟨g, off + k * 3 + 1, none⟩ = some (.bool f) := (hwa.cell (p := ⟨g, off + k * 3 + 1, none⟩) hgs).trans c2
            have d3 : wr.cell? ⟨g, off + k * 3 + 2, none⟩ = some (.string a) := (hwa.cell (p := ⟨g, off + k * 3 + 2, none⟩) hgs).trans c3
            have hgr : g < wr.heap.size := by omega
            have hki : (k : Int) < (ls.length : Int) := by omega
            have hk0 : (0 : Int) ≤ (k : Int) := by omega
            have HN : Hid (sepD (ls.take (k + 1)) = sepD (ls.take k) ++ (if k = 0 then [] else [44, 32]) ++ prD (n.data.toList, f, a.data.toList)) := by show _ = _; rw [sepD_take ls k hlt, HE.out]
            have hp0 : (wr.alloc (.cells #[.string n, .bool f, .string a] 31)).heap[wr.heap.size]? = some (.cells #[.string n, .bool f, .string a] 31 (0, 0)) := heap_alloc_new _ _
            have HP0 : Hid ((wr.alloc (.cells #[.string n, .bool f, .string a] 31)).heap[wr.heap.size]? = some (.cells #[.string n, .bool f, .string a] 31 (0, 0))) := hp0
            have HW0 : Hid (Below w1.heap.size w1 (wr.alloc (.cells #[.string n, .bool f, .string a] 31))) := hw1.alloc (by omega) _
            clear hce c1 c2 c3 hn hf ha hm hwa hp0
            by_cases hkz : k = 0
            · have hkn : ¬ (0 : Int) < (k : Int) := by omega
              have HN0 : Hid (sepD (ls.take (k + 1)) = sepD (ls.take k) ++ prD (n.data.toList, f, a.data.toList)) := by show _ = _; rw [HN.out, if_pos hkz, List.append_nil]
              clear hkz
              go_wp2_with fail
              refine (kwrite_at w1.heap.size w1.heap.size _ n a f _ (HBU.out.alloc _) (by omega) (by omega) (by omega) (by simp; omega)).mono ?_
              rintro e w3 ⟨rfl, hb3, hw3⟩
              have HW3 := HW0.out.trans hw3
              rw [← HN0.out] at hb3
              have HB3 : Hid (Lib.IsBuilderF 37 5 w1.heap.size w1.heap.size (Lib.byteCells (sepD (ls.take (k + 1)))) w3) := hb3
              clear hb3 hw3
              go_wp2_with fail
              go_roundw
              case rel => exact ⟨k + 1, by omega, by go_num, HB3.out, HW3⟩
              case measure => simp [intOf]; omega
            · have hkp : (0 : Int) < (k : Int) := by omega
              have HN0 : Hid (sepD (ls.take (k + 1)) = sepD (ls.take k) ++ [44, 32] ++ prD (n.data.toList, f, a.data.toList)) := by show _ = _; rw [HN.out, if_neg hkz]
              clear hkz
              go_wp2_with fail
              refine (Tryd.Builder_WriteString_k w1.heap.size w1.heap.size _ _ _ (HBU.out.alloc _) (by rw [Lib.byteCells_length]; show _ + 2 ≤ _; omega) (by simp; omega)).mono ?_
              rintro e w2 ⟨rfl, hb2, hw2, hk2⟩
              have HW2 := HW0.out.trans hw2
              have hp2 := kept_cells hk2 HP0.out (by omega) (by decide)
              obtain ⟨c0, c1, c2⟩ := three_cell hp2
              rw [cells_more] at hb2
              have HB2 : Hid (Lib.BuilderAtF 37 5 w1.heap.size w1.heap.size (.pointer (some ⟨w1.heap.size, 0, none⟩)) (Lib.byteCells (sepD (ls.take k) ++ [44, 32])) w2) := hb2
              clear hk2 hp2 hw2 hb2
              go_wp2_with fail
              refine (kwrite_at w1.heap.size w1.heap.size _ n a f _ (.inr HB2.out) (by rw [List.length_append]; show _ + 2 ≤ _; omega) (by omega) (by omega) HW2.size).mono ?_
              rintro e w3 ⟨rfl, hb3, hw3⟩
              have HW3 := HW2.trans hw3
              rw [← HN0.out] at hb3
              have HB3 : Hid (Lib.IsBuilderF 37 5 w1.heap.size w1.heap.size (Lib.byteCells (sepD (ls.take (k + 1)))) w3) := hb3
              clear hb3 hw3 c0 c1 c2
              go_wp2_with fail
              go_roundw
              case rel => exact ⟨k + 1, by omega, by go_num, HB3.out, HW3⟩
              case measure => simp [intOf]; omega
          · have HEnd : Hid (ls.take k = ls) := List.take_of_length_le (by omega)
            rw [HEnd.out] at hsl HBU
            have HWA := HW.out.trans (hw1.mono HW.out.size)
            by_cases hbig : 1000 < (sepD ls).length
            · have hbi : (1000 : Int) < (((sepD ls).length : Nat) : Int) := by omega
              have HZ : Hid (t = ⟨#[]⟩ ∧ c = 2) := by
                have h := HP.out
                unfold ctP at h
                rw [if_pos HALL.out, if_pos (.inr hbig)] at h
                simp only [Prod.mk.injEq] at h
                refine ⟨?_, h.2.symm⟩
                apply ByteArray.ext; apply Array.ext'; exact h.1.symm
              go_wp2_with fail
              refine (Tryd.Builder_Len_f w1.heap.size w1.heap.size _ _ HBU.out).mono ?_
              rintro e w2 ⟨rfl, rfl⟩
              rw [Lib.byteCells_length]
              go_wp2_with fail
              go_ret2
              exact ⟨by rw [HZ.out.1, HZ.out.2]; try rfl, HWA⟩
            · have hbi : ¬ (1000 : Int) < (((sepD ls).length : Nat) : Int) := by omega
              have HZ : Hid (sepD ls = t.data.toList ∧ c = 0) := by
                have h := HP.out
                unfold ctP at h
                rw [if_pos HALL.out, if_neg (by omega)] at h
                simp only [Prod.mk.injEq] at h
                exact ⟨h.1, h.2.symm⟩
              go_wp2_with fail
              refine (Tryd.Builder_Len_f w1.heap.size w1.heap.size _ _ HBU.out).mono ?_
              rintro e w2 ⟨rfl, rfl⟩
              rw [Lib.byteCells_length]
              go_wp2_with fail
              refine (Tryd.Builder_String_any_f w1.heap.size w1.heap.size _ _ HBU.out hszr).mono ?_
              rintro e w3 ⟨rfl, hw3⟩
              have HW3 := HWA.trans (hw3.2.mono HW.out.size)
              go_wp2_with fail
              go_ret2
              refine ⟨?_, HW3⟩
              rw [HZ.out.2, HZ.out.1]
              try rfl
end Go.Proofs.YtoccjnbodoiibaaDoor

/-
  What allOf of the document's answers computes; no condition but that a string is no longer than Go allows.
-/
namespace Go.Proofs.YtoccjnbodoiibaaDoor
open Go.RowKit

set_option maxHeartbeats 400000 in
set_option maxRecDepth 100000 in
theorem allOf_any (s f : ByteArray) (w : World) (hs : s.size ≤ maxLen) :
    Calls Tryd.prog 29 #[.string s, .string f] w fun e w' => e = .returned (.bool (allIn f.data.toList s.data.toList)) ∧ w' = w := by
  unfold maxLen at hs
  go_enter Tryd.func29, Tryd.ntmps29
  go_wp2_with fail
  go_loop [8] (fun i => ∃ k : Nat, k ≤ s.size ∧ i = .int .i64 k ∧ allIn f.data.toList (s.data.toList.take k) = true) (fun i => s.size - (intOf i).toNat)
  case atStart => exact ⟨0, Nat.zero_le _, rfl, rfl⟩
  case round =>
    obtain ⟨k, hk, rfl, hall⟩ := hrel
    have HA : Hid (allIn f.data.toList (s.data.toList.take k) = true) := hall
    clear hall
    by_cases hlt : k < s.size
    · cases ht : f.data.toList.contains s[k]
      · have HT : Hid (f.data.toList.contains s[k] = false) := ht
        clear ht
        go_wp2_with fail
        rw [extract_one s k hlt]
        refine (Tryd.strings_Contains_one _ _ _).mono ?_
        rintro e w' ⟨rfl, rfl⟩
        rw [← Lib.contains_iff_indexByte, HT.out]
        go_wp2_with fail
        go_ret
        refine ⟨ret_bool ?_, rfl⟩
        rw [allIn, all_false s (fun c => f.data.toList.contains c) k hlt HT.out]
      · have HT : Hid (f.data.toList.contains s[k] = true) := ht
        clear ht
        go_wp2_with fail
        rw [extract_one s k hlt]
        refine (Tryd.strings_Contains_one _ _ _).mono ?_
        rintro e w' ⟨rfl, rfl⟩
        rw [← Lib.contains_iff_indexByte, HT.out]
        go_wp2_with fail
        go_round
        case rel => exact ⟨k + 1, by omega, by go_num, by rw [take_snoc s k hlt, allIn, List.all_append, List.all_cons, HT.out, Bool.true_and, List.all_nil, Bool.and_true]; exact HA.out⟩
        case measure => simp [intOf]; omega
    · obtain rfl : k = s.size := by omega
      go_wp2_with fail
      go_ret
      refine ⟨ret_bool ?_, rfl⟩
      have h := HA.out
      rw [take_all] at h
      rw [h]
end Go.Proofs.YtoccjnbodoiibaaDoor

/-
  What Token of the document's answers compute; no condition but that a string is no longer than Go allows.
-/
namespace Go.Proofs.YtoccjnbodoiibaaDoor
open Go.RowKit

theorem isTok_all (c : UInt8) : [97, 98, 99, 100, 101, 102, 103, 104, 105, 106, 107, 108, 109, 110, 111, 112, 113, 114, 115, 116, 117, 118, 119, 120, 121, 122, 65, 66, 67, 68, 69, 70, 71, 72, 73, 74, 75, 76, 77, 78, 79, 80, 81, 82, 83, 84, 85, 86, 87, 88, 89, 90, 48, 49, 50, 51, 52, 53, 54, 55, 56, 57, 33, 35, 36, 37, 38, 39, 42, 43, 45, 46, 94, 95, 96, 124, 126].contains c = isTok c := by
  have := byAll (fun c => [97, 98, 99, 100, 101, 102, 103, 104, 105, 106, 107, 108, 109, 110, 111, 112, 113, 114, 115, 116, 117, 118, 119, 120, 121, 122, 65, 66, 67, 68, 69, 70, 71, 72, 73, 74, 75, 76, 77, 78, 79, 80, 81, 82, 83, 84, 85, 86, 87, 88, 89, 90, 48, 49, 50, 51, 52, 53, 54, 55, 56, 57, 33, 35, 36, 37, 38, 39, 42, 43, 45, 46, 94, 95, 96, 124, 126].contains c == isTok c) (by decide +kernel) c
  simpa using this

theorem allIn_tok (f l : List UInt8) (h : f = [97, 98, 99, 100, 101, 102, 103, 104, 105, 106, 107, 108, 109, 110, 111, 112, 113, 114, 115, 116, 117, 118, 119, 120, 121, 122, 65, 66, 67, 68, 69, 70, 71, 72, 73, 74, 75, 76, 77, 78, 79, 80, 81, 82, 83, 84, 85, 86, 87, 88, 89, 90, 48, 49, 50, 51, 52, 53, 54, 55, 56, 57, 33, 35, 36, 37, 38, 39, 42, 43, 45, 46, 94, 95, 96, 124, 126]) : allIn f l = l.all isTok := by
  subst h
  exact congrArg l.all (funext fun c => isTok_all c)

set_option maxHeartbeats 400000 in
set_option maxRecDepth 100000 in
theorem rtoken_any (s : ByteArray) (w : World) (hs : s.size ≤ maxLen) :
    Calls Tryd.prog 17 #[.string s] w fun e w' => e = .returned (.bool (token s.data.toList)) ∧ w' = w := by
  cases he : s.toList.isEmpty
  · have H : Hid (token s.data.toList = s.data.toList.all isTok) := by
      show token s.data.toList = _
      rw [token, ← ByteArray.toList_eq, he]; rfl
    go_enter Tryd.func17, Tryd.ntmps17
    go_wp2_with fail
    refine (allOf_any _ _ _ hs).mono ?_
    rintro e w' ⟨rfl, rfl⟩
    go_wp2_with fail
    go_ret
    refine ⟨ret_bool ?_, rfl⟩
    rw [H.out]
    exact allIn_tok _ _ rfl
  · have H : Hid (token s.data.toList = false) := by
      show token s.data.toList = _
      rw [token, ← ByteArray.toList_eq, he]; rfl
    go_enter Tryd.func17, Tryd.ntmps17
    go_wp2_with fail
    go_ret
    exact ⟨ret_bool H.out.symm, rfl⟩
end Go.Proofs.YtoccjnbodoiibaaDoor

/-
  What Lower of the document's answers computes: the letters A to Z as a to z; the string fits in the memory that Go's limits allow.
-/
namespace Go.Proofs.YtoccjnbodoiibaaDoor
open Go.RowKit

theorem idx_great (c : UInt8) : (if 65 ≤ c && c ≤ 90 then (c.toNat : Int) - 65 else -1) = Lib.indexByte [65, 66, 67, 68, 69, 70, 71, 72, 73, 74, 75, 76, 77, 78, 79, 80, 81, 82, 83, 84, 85, 86, 87, 88, 89, 90] c := by
  have := byAll (fun c => decide ((if 65 ≤ c && c ≤ 90 then (c.toNat : Int) - 65 else -1) = Lib.indexByte [65, 66, 67, 68, 69, 70, 71, 72, 73, 74, 75, 76, 77, 78, 79, 80, 81, 82, 83, 84, 85, 86, 87, 88, 89, 90] c)) (by decide +kernel) c
  exact of_decide_eq_true this
theorem idx_yes (c : UInt8) (h : 65 ≤ (c.toNat : Int)) (h' : (c.toNat : Int) ≤ 90) : Lib.indexByte [65, 66, 67, 68, 69, 70, 71, 72, 73, 74, 75, 76, 77, 78, 79, 80, 81, 82, 83, 84, 85, 86, 87, 88, 89, 90] c = ((c.toNat - 65 : Nat) : Int) := by
  rw [← idx_great, if_pos (by simp [UInt8.le_iff_toNat_le]; omega)]; omega
theorem idx_no (c : UInt8) (h : (c.toNat : Int) < 65 ∨ 90 < (c.toNat : Int)) : Lib.indexByte [65, 66, 67, 68, 69, 70, 71, 72, 73, 74, 75, 76, 77, 78, 79, 80, 81, 82, 83, 84, 85, 86, 87, 88, 89, 90] c = -1 := by
  rw [← idx_great, if_neg (by simp [UInt8.le_iff_toNat_le]; omega)]

theorem u8_back (c : UInt8) : ((c.toNat : Int)).toNat.toUInt8 = c := by simp

theorem great_yes (c : UInt8) (n : Nat) (hn : (c.toNat : Int) = n + 65) (hn' : n < 26) (w : World) :
    Calls Tryd.prog 30 #[.string ⟨#[65, 66, 67, 68, 69, 70, 71, 72, 73, 74, 75, 76, 77, 78, 79, 80, 81, 82, 83, 84, 85, 86, 87, 88, 89, 90]⟩, .int .u8 (c.toNat : Int)] w fun e w' => e = .returned (.int .i64 (n : Int)) ∧ w' = w := by
  refine (Tryd.strings_IndexByte _ _ _).mono ?_
  rintro e w' ⟨rfl, rfl⟩
  refine ⟨?_, rfl⟩
  rw [u8_back]
  have h := idx_yes c (by omega) (by omega)
  have e : c.toNat - 65 = n := by omega
  rw [e] at h
  exact congrArg (fun x => Ending.returned (.int .i64 x)) h

theorem great_no (c : UInt8) (h : (c.toNat : Int) < 65 ∨ 90 < (c.toNat : Int)) (w : World) :
    Calls Tryd.prog 30 #[.string ⟨#[65, 66, 67, 68, 69, 70, 71, 72, 73, 74, 75, 76, 77, 78, 79, 80, 81, 82, 83, 84, 85, 86, 87, 88, 89, 90]⟩, .int .u8 (c.toNat : Int)] w fun e w' => e = .returned (.int .i64 (-1)) ∧ w' = w := by
  refine (Tryd.strings_IndexByte _ _ _).mono ?_
  rintro e w' ⟨rfl, rfl⟩
  refine ⟨?_, rfl⟩
  rw [u8_back]
  exact congrArg (fun x => Ending.returned (.int .i64 x)) (idx_no c h)

theorem app_list1 (l : List UInt8) (c : UInt8) : (⟨l.toArray⟩ : ByteArray) ++ ⟨#[c]⟩ = ⟨(l ++ [c]).toArray⟩ := by
  rw [ByteArray.mk_append_mk]

theorem small_at (c : UInt8) (n : Nat) (hn : (c.toNat : Int) = n + 65) (hn' : n < 26) : (⟨#[97, 98, 99, 100, 101, 102, 103, 104, 105, 106, 107, 108, 109, 110, 111, 112, 113, 114, 115, 116, 117, 118, 119, 120, 121, 122]⟩ : ByteArray).extract n (n + 1) = ⟨#[low c]⟩ := by
  rw [extract_one _ n (by exact hn')]
  have h : ∀ m : Fin 26, (#[97, 98, 99, 100, 101, 102, 103, 104, 105, 106, 107, 108, 109, 110, 111, 112, 113, 114, 115, 116, 117, 118, 119, 120, 121, 122] : Array UInt8)[m.val]'(by exact m.isLt) = low (UInt8.ofNat (m.val + 65)) := by decide +kernel
  have e : UInt8.ofNat (n + 65) = c := by
    apply UInt8.toNat.inj
    rw [UInt8.toNat_ofNat']
    omega
  have h' := h ⟨n, hn'⟩
  simp only [e] at h'
  exact congrArg (fun x => (⟨#[x]⟩ : ByteArray)) h'

theorem lower_step (s : ByteArray) (k : Nat) (h : k < s.size) : (⟨(lower (s.data.toList.take k)).toArray⟩ : ByteArray) ++ ⟨#[low s[k]]⟩ = ⟨(lower (s.data.toList.take (k + 1))).toArray⟩ := by
  rw [app_list1, take_snoc s k h, lower_snoc]

theorem lower_len (s : ByteArray) (k : Nat) (h : k ≤ s.size) : (⟨(lower (s.data.toList.take k)).toArray⟩ : ByteArray).size = k := by
  rw [← size_list]; simp [lower]
  have := size_list s
  simp at this
  omega

set_option maxHeartbeats 1000000 in
set_option maxRecDepth 100000 in
theorem rlower_any (s : ByteArray) (w : World) (hs : s.size ≤ 140737488351232) :
    Calls Tryd.prog 18 #[.string s] w fun e w' => e = .returned (.string ⟨(lower s.data.toList).toArray⟩) ∧ w' = w := by
  go_enter Tryd.func18, Tryd.ntmps18
  go_wp2_with fail
  go_loop [3, 8] (fun o i => ∃ k : Nat, ∃ t : ByteArray, k ≤ s.size ∧ i = .int .i64 k ∧ o = .string t ∧ t = ⟨(lower (s.data.toList.take k)).toArray⟩) (fun _ i => s.size - (intOf i).toNat)
  case atStart => exact ⟨0, _, Nat.zero_le _, rfl, rfl, rfl⟩
  case round =>
    obtain ⟨k, t, hk, rfl, rfl, ht⟩ := hrel
    have htl : t.size = k := by rw [ht]; exact lower_len s k hk
    have HT : Hid (t = ⟨(lower (s.data.toList.take k)).toArray⟩) := ht
    have hts : t.size ≤ 140737488351232 := by omega
    clear ht htl
    by_cases hlt : k < s.size
    · rcases (show (s[k].toNat : Int) < 65 ∨ (65 ≤ (s[k].toNat : Int) ∧ (s[k].toNat : Int) ≤ 90) ∨ 91 ≤ (s[k].toNat : Int) from by omega) with h | ⟨h, h'⟩ | h
      · go_wp2_with fail
        refine (great_no _ (by omega) _).mono ?_
        rintro e w' ⟨rfl, rfl⟩
        go_wp2_with fail
        go_round
        case rel => exact ⟨k + 1, _, by omega, by go_num, rfl, by rw [HT.out, extract_one s k hlt, ← lower_step s k hlt, low_no s[k] (by omega)]⟩
        case measure => simp [intOf]; omega
      · obtain ⟨n, hn⟩ : ∃ n : Nat, (s[k].toNat : Int) = n + 65 := ⟨s[k].toNat - 65, by omega⟩
        have hn' : n < 26 := by omega
        have HN : Hid ((s[k].toNat : Int) = n + 65) := hn
        clear hn
        go_wp2_with fail
        refine (great_yes _ n HN.out hn' _).mono ?_
        rintro e w' ⟨rfl, rfl⟩
        go_wp2_with fail
        go_round
        case rel => exact ⟨k + 1, _, by omega, by go_num, rfl, by rw [HT.out, small_at s[k] n HN.out hn', ← lower_step s k hlt]⟩
        case measure => simp [intOf]; omega
      · go_wp2_with fail
        refine (great_no _ (by omega) _).mono ?_
        rintro e w' ⟨rfl, rfl⟩
        go_wp2_with fail
        go_round
        case rel => exact ⟨k + 1, _, by omega, by go_num, rfl, by rw [HT.out, extract_one s k hlt, ← lower_step s k hlt, low_no s[k] (by omega)]⟩
        case measure => simp [intOf]; omega
    · obtain rfl : k = s.size := by omega
      go_wp2_with fail
      go_ret
      exact ⟨ret_str (by rw [HT.out, take_all]), rfl⟩
end Go.Proofs.YtoccjnbodoiibaaDoor

/-
  What the function outside of the document's answers computes.
-/
namespace Go.Proofs.YtoccjnbodoiibaaDoor
open Go.RowKit

set_option maxHeartbeats 400000 in
set_option maxRecDepth 100000 in
theorem outside_any (a b c : Int) (w : World) :
    Calls Tryd.prog 47 #[.int .i64 a, .int .i64 b, .int .i64 c] w fun e w' => e = .returned (.bool (decide (a < b ∨ c < a))) ∧ w' = w := by
  by_cases h : a < b
  · rw [decide_eq_true (Or.inl h)]
    go_enter Tryd.func47, Tryd.ntmps47
    go_wp2
    go_ret
    exact ⟨rfl, rfl⟩
  · have hd : decide (a < b) = false := decide_eq_false h
    by_cases h2 : c < a
    · rw [decide_eq_true (Or.inr h2)]
      go_enter Tryd.func47, Tryd.ntmps47
      go_wp2
      go_ret
      exact ⟨ret_bool (by simp), rfl⟩
    · rw [decide_eq_false (by omega)]
      have hd2 : decide (c < a) = false := decide_eq_false h2
      go_enter Tryd.func47, Tryd.ntmps47
      go_wp2
      go_ret
      exact ⟨ret_bool (by simp), rfl⟩
end Go.Proofs.YtoccjnbodoiibaaDoor

/-
  What the functions plain and outside of the document's answers compute; a string is no longer than Go allows.
-/
namespace Go.Proofs.YtoccjnbodoiibaaDoor
open Go.RowKit

set_option maxHeartbeats 400000 in
set_option maxRecDepth 100000 in
theorem rplain_any (s : ByteArray) (w : World) (hs : s.size ≤ maxLen) :
    Calls Tryd.prog 31 #[.string s] w fun e w' => e = .returned (.bool (allPlain s.data.toList)) ∧ w' = w := by
  unfold maxLen at hs
  go_enter Tryd.func31, Tryd.ntmps31
  go_wp2_with fail
  go_loop [6] (fun i => ∃ k : Nat, k ≤ s.size ∧ i = .int .i64 k ∧ allPlain (s.data.toList.take k) = true) (fun i => s.size - (intOf i).toNat)
  case atStart => exact ⟨0, Nat.zero_le _, rfl, rfl⟩
  case round =>
    obtain ⟨k, hk, rfl, hall⟩ := hrel
    have HA : Hid (allPlain (s.data.toList.take k) = true) := hall
    clear hall
    by_cases hlt : k < s.size
    · have hc1 : (s[k].toNat : Int) < 256 := by have := s[k].toNat_lt; omega
      by_cases h9 : (s[k].toNat : Int) = 9
      · have hd : ((s[k].toNat : Int) != 9) = false := by simp [h9]
        have HP : Hid (plainB s[k] = true) := by show plainB s[k] = true; rw [plainB_iff]; simp [h9]
        clear h9
        go_wp2_with fail
        go_round
        case rel => exact ⟨k + 1, by omega, by go_num, by rw [take_snoc s k hlt]; exact allPlain_snoc _ _ HA.out HP.out⟩
        case measure => simp [intOf]; omega
      · have hd : ((s[k].toNat : Int) != 9) = true := by simp [h9]
        by_cases ho : (s[k].toNat : Int) < 32 ∨ 126 < (s[k].toNat : Int)
        · have HP : Hid (plainB s[k] = false) := by show plainB s[k] = false; rw [plainB_iff, decide_eq_false]; omega
          have HO : Hid ((s[k].toNat : Int) < 32 ∨ 126 < (s[k].toNat : Int)) := ho
          clear h9 ho
          go_wp2_with fail
          refine (outside_any _ _ _ _).mono ?_
          rintro e w' ⟨rfl, rfl⟩
          rw [decide_eq_true HO.out]
          go_wp2_with fail
          go_ret
          exact ⟨ret_bool (allPlain_dead s k hlt HP.out).symm, rfl⟩
        · have HP : Hid (plainB s[k] = true) := by show plainB s[k] = true; rw [plainB_iff, decide_eq_true]; omega
          have HO : Hid (¬ ((s[k].toNat : Int) < 32 ∨ 126 < (s[k].toNat : Int))) := ho
          clear h9 ho
          go_wp2_with fail
          refine (outside_any _ _ _ _).mono ?_
          rintro e w' ⟨rfl, rfl⟩
          rw [decide_eq_false HO.out]
          go_wp2_with fail
          go_round
          case rel => exact ⟨k + 1, by omega, by go_num, by rw [take_snoc s k hlt]; exact allPlain_snoc _ _ HA.out HP.out⟩
          case measure => simp [intOf]; omega
    · obtain rfl : k = s.size := by omega
      go_wp2_with fail
      go_ret
      have h := HA.out
      rw [take_all] at h
      exact ⟨ret_bool h.symm, rfl⟩
end Go.Proofs.YtoccjnbodoiibaaDoor

/-
  Plain lemmas: what ReplaceAll makes of one byte, and that two such steps give the text with a stroke ahead of each quote and each stroke; no program is named here.
-/
namespace Go.Proofs.YtoccjnbodoiibaaDoor
open Go.RowKit

def rep1 (c : UInt8) (new : List UInt8) (x : UInt8) : List UInt8 := if x = c then new else [x]

theorem rep_none (c : UInt8) (new l : List UInt8) (h : ∀ k : Nat, l[k]? ≠ some c) : l.flatMap (rep1 c new) = l := by
  induction l with
  | nil => rfl
  | cons a l ih =>
    have ha : a ≠ c := fun e => h 0 (by simp [e])
    have hl := ih (fun k hk => h (k + 1) (by simpa using hk))
    rw [List.flatMap_cons, hl]
    simp [rep1, ha]

theorem rep_split (c : UInt8) (new l : List UInt8) (i : Nat) (h : l[i]? = some c) (hn : ∀ k : Nat, k < i → l[k]? ≠ some c) :
    l.flatMap (rep1 c new) = l.take i ++ new ++ (l.drop (i + 1)).flatMap (rep1 c new) := by
  have hi : i < l.length := by
    rcases Nat.lt_or_ge i l.length with h1 | h1
    · exact h1
    · rw [List.getElem?_eq_none h1] at h; cases h
  have e : l = l.take i ++ c :: l.drop (i + 1) := by
    have hc : l[i] = c := by rw [List.getElem?_eq_getElem hi] at h; exact Option.some.inj h
    rw [← hc, ← List.drop_eq_getElem_cons hi, List.take_append_drop]
  have ht : (l.take i).flatMap (rep1 c new) = l.take i := by
    apply rep_none
    intro k hk
    rw [List.getElem?_take] at hk
    split at hk
    · exact hn k (by assumption) hk
    · cases hk
  have e2 : l.flatMap (rep1 c new) = (l.take i ++ c :: l.drop (i + 1)).flatMap (rep1 c new) := by rw [← e]
  rw [e2, List.flatMap_append, List.flatMap_cons, ht]
  simp [rep1]

theorem replaceK_one (c : UInt8) (new : List UInt8) : ∀ (k : Nat) (l : List UInt8), Lib.count l [c] = k → Lib.replaceK [c] new k l = l.flatMap (rep1 c new)
  | 0, l, h => by
    have hi : Lib.index l [c] = -1 := by
      have hge := Lib.index_ge l [c]
      rcases Lib.index_spec l [c] with ⟨hm, _⟩ | ⟨i, hi, _⟩
      · exact hm
      · rw [Lib.count_hit (by simp) hi] at h; omega
    rw [Lib.index_one] at hi
    rw [rep_none c new l (Lib.indexByte_none hi)]
    rfl
  | k + 1, l, h => by
    obtain ⟨i, hi⟩ := Lib.index_of_count (s := l) (old := [c]) (by omega)
    have hc := Lib.count_hit (sub := [c]) (by simp) hi
    rw [Lib.replaceK_hit [c] new k l i hi, List.length_singleton]
    rw [List.length_singleton] at hc
    rw [replaceK_one c new k _ (by omega)]
    rw [Lib.index_one] at hi
    obtain ⟨h1, h2⟩ := Lib.indexByte_some hi
    rw [← rep_split c new l i h1 h2]

theorem replaceAll_one (c : UInt8) (new l : List UInt8) (hne : [c] ≠ new) : Lib.replaceAll l [c] new = l.flatMap (rep1 c new) := by
  unfold Lib.replaceAll Lib.replace
  have : ([c] == new) = false := beq_eq_false_iff_ne.2 hne
  rw [this]
  simp only [Bool.false_eq_true, if_false]
  unfold Lib.replaceNum
  rw [if_pos (Or.inl (by decide))]
  exact replaceK_one c new _ l rfl

theorem rep_len (c : UInt8) (new l : List UInt8) (h : new.length ≤ 2) : (l.flatMap (rep1 c new)).length ≤ 2 * l.length := by
  induction l with
  | nil => simp
  | cons a l ih =>
    have h1 : (rep1 c new a).length ≤ 2 := by
      unfold rep1; split
      · exact h
      · simp
    rw [List.flatMap_cons, List.length_append, List.length_cons]
    omega

theorem rep_rep (l : List UInt8) : (l.flatMap (rep1 92 [92, 92])).flatMap (rep1 34 [92, 34]) = esc l := by
  induction l with
  | nil => rfl
  | cons a l ih =>
    have e : esc (a :: l) = esc1 a ++ esc l := by simp [esc]
    rw [List.flatMap_cons, List.flatMap_append, ih, e]
    congr 1
    unfold esc1
    by_cases h92 : a = 92
    · subst h92; rfl
    · by_cases h34 : a = 34
      · subst h34; rfl
      · simp [rep1, h92, h34]
end Go.Proofs.YtoccjnbodoiibaaDoor

/-
  What Quote of the document's answers computes; the package variable that the library reads holds some number.
-/
namespace Go.Proofs.YtoccjnbodoiibaaDoor
open Go.RowKit

theorem cell_block {w : World} {a : Addr} {v : Value} (h : w.cell? a = some v) : a.block < w.heap.size := by
  rcases Nat.lt_or_ge a.block w.heap.size with h1 | h1
  · exact h1
  · exfalso
    unfold World.cell? at h
    rw [Array.getElem?_eq_none h1] at h
    simp at h

theorem below_keep {w w' : World} {a : Addr} {v : Value} (h : Below w.heap.size w w') (hc : w.cell? a = some v) : w'.cell? a = some v := (h.cell (cell_block hc)).trans hc

theorem count_mul (s : ByteArray) (c : UInt8) (k : Nat) (h : s.size ≤ k) : s.size + Lib.countB s ⟨#[c]⟩ * 2 ≤ 3 * k := by
  have := Lib.countB_mul_le ⟨#[c]⟩ (Nat.le_refl 1) s.size s (Nat.le_refl _)
  have e : (⟨#[c]⟩ : ByteArray).size = 1 := rfl
  rw [e] at this
  omega

theorem rep_at (s t : ByteArray) (c d : UInt8) (ht : t.data.toList = s.data.toList.flatMap (rep1 c [92, d])) (m : Int) (w : World) (hm : w.cell? ⟨0, 0, none⟩ = some (.int .i64 m)) (hs : s.size ≤ 100000) :
    Calls Tryd.prog 32 #[.string s, .string ⟨#[c]⟩, .string ⟨#[92, d]⟩] w fun e w' => e = .returned (.string t) ∧ Below w.heap.size w w' := by
  have hc := count_mul s c 100000 hs
  refine (Tryd.strings_ReplaceAll s ⟨#[c]⟩ ⟨#[92, d]⟩ m w (by omega) hm (Nat.le_refl 1) ?_).mono ?_
  · show s.size + Lib.countB s ⟨#[c]⟩ * 2 ≤ _
    omega
  · rintro e w' ⟨rfl, hb⟩
    refine ⟨ret_str ?_, hb⟩
    apply ByteArray.ext
    apply Array.ext'
    rw [ht]
    exact replaceAll_one c [92, d] _ (by simp)

set_option maxHeartbeats 1000000 in
set_option maxRecDepth 100000 in
theorem rquote_at (s t : ByteArray) (n : Int) (hu : qt s.data.toList = (t.data.toList, n)) (m : Int) (w : World) (hm : w.cell? ⟨0, 0, none⟩ = some (.int .i64 m)) (hsz : s.size ≤ maxLen) :
    Calls Tryd.prog 19 #[.string s] w fun e w' => e = .returned (.tuple #[.string t, .int .i64 n]) ∧ Below w.heap.size w w' := by
  have fin : ∀ t' : ByteArray, ∀ n' : Int, qt s.data.toList = (t'.data.toList, n') → (t' = t ∧ n' = n) := by
    intro t' n' h
    rw [hu, Prod.mk.injEq] at h
    refine ⟨?_, h.2.symm⟩
    apply ByteArray.ext
    apply Array.ext'
    exact h.1.symm
  have HF : Hid (∀ t' : ByteArray, ∀ n' : Int, qt s.data.toList = (t'.data.toList, n') → (t' = t ∧ n' = n)) := fin
  have HS : Hid (s.size ≤ maxLen) := hsz
  have HM : Hid (w.cell? ⟨0, 0, none⟩ = some (.int .i64 m)) := hm
  clear fin hu hsz hm
  by_cases h1 : 1000 < (s.size : Int)
  · have HL : Hid (1000 < s.data.toList.length) := by show 1000 < s.data.toList.length; rw [size_list]; omega
    go_enter Tryd.func19, Tryd.ntmps19
    go_wp2_with fail
    go_ret2
    obtain ⟨e1, e2⟩ := HF.out ⟨#[]⟩ 2 (qt_long _ HL.out)
    exact ⟨ret_errq e1 e2, Below.refl _ _⟩
  · have HL : Hid (¬ 1000 < s.data.toList.length) := by show ¬ 1000 < s.data.toList.length; rw [size_list]; omega
    have hs : (s.size : Int) ≤ 1000 := by omega
    clear h1
    cases hp : allPlain s.data.toList
    · have HP : Hid (allPlain s.data.toList = false) := hp
      clear hp
      go_enter Tryd.func19, Tryd.ntmps19
      go_wp2_with fail
      refine (rplain_any _ _ HS.out).mono ?_
      rintro e w' ⟨rfl, rfl⟩
      rw [HP.out]
      go_wp2_with fail
      go_ret2
      obtain ⟨e1, e2⟩ := HF.out ⟨#[]⟩ 3 (qt_bad _ HL.out HP.out)
      exact ⟨ret_errq e1 e2, Below.refl _ _⟩
    · have HP : Hid (allPlain s.data.toList = true) := hp
      clear hp
      obtain ⟨t1, ht1⟩ : ∃ t1 : ByteArray, t1.data.toList = s.data.toList.flatMap (rep1 92 [92, 92]) := ⟨⟨(s.data.toList.flatMap (rep1 92 [92, 92])).toArray⟩, rfl⟩
      obtain ⟨t2, ht2⟩ : ∃ t2 : ByteArray, t2.data.toList = t1.data.toList.flatMap (rep1 34 [92, 34]) := ⟨⟨(t1.data.toList.flatMap (rep1 34 [92, 34])).toArray⟩, rfl⟩
      have hl1 : t1.size ≤ 2000 := by
        rw [← size_list, ht1]
        have := rep_len 92 [92, 92] s.data.toList (by simp)
        rw [size_list] at this; omega
      have hl2 : t2.size ≤ 4000 := by
        rw [← size_list, ht2]
        have := rep_len 34 [92, 34] t1.data.toList (by simp)
        rw [size_list] at this; omega
      have HE : Hid (t2.data.toList = esc s.data.toList) := by show _ = _; rw [ht2, ht1, rep_rep]
      have H1 : Hid (t1.data.toList = s.data.toList.flatMap (rep1 92 [92, 92])) := ht1
      have H2 : Hid (t2.data.toList = t1.data.toList.flatMap (rep1 34 [92, 34])) := ht2
      clear ht1 ht2
      go_enter Tryd.func19, Tryd.ntmps19
      go_wp2_with fail
      refine (rplain_any _ _ HS.out).mono ?_
      rintro e w' ⟨rfl, rfl⟩
      rw [HP.out]
      go_wp2_with fail
      refine (rep_at _ t1 92 92 H1.out m _ HM.out (by omega)).mono ?_
      rintro e w1 ⟨rfl, hb1⟩
      have HM1 : Hid (w1.cell? ⟨0, 0, none⟩ = some (.int .i64 m)) := below_keep hb1 HM.out
      go_wp2_with fail
      refine (rep_at _ t2 34 34 H2.out m _ HM1.out (by omega)).mono ?_
      rintro e w2 ⟨rfl, hb2⟩
      go_wp2_with fail
      go_ret2
      obtain ⟨e1, e2⟩ := HF.out (⟨#[34]⟩ ++ t2 ++ ⟨#[34]⟩) 0 (by rw [qt_ok _ HL.out HP.out, ByteArray.data_append, ByteArray.data_append, Array.toList_append, Array.toList_append, HE.out]; simp)
      exact ⟨ret_errq e1 e2, hb1.trans (hb2.mono hb1.size)⟩
end Go.Proofs.YtoccjnbodoiibaaDoor

/-
  What ControlPrint of the document's answers says, of directives with no more than some million letters.
-/
namespace Go.Proofs.YtoccjnbodoiibaaDoor
open Go.RowKit

set_option maxHeartbeats 8000000 in
set_option maxRecDepth 100000 in
theorem rkprint_at (v : Value) (ls : List Dv) (t : ByteArray) (c : Int) (h : ctP ls = (t.data.toList, c)) (m : Int) (w : World) (hm : w.cell? ⟨0, 0, none⟩ = some (.int .i64 m)) (hf : Dl w v ls) (hk : bulkD ls ≤ 1048576) :
    Calls Tryd.prog 8 #[v] w fun e w' => e = .returned (.tuple #[.string t, .int .i64 c]) ∧ Below w.heap.size w w' := by
  obtain ⟨ad, cap, hv, hcap, hcm, hc⟩ := hf
  subst hv
  have HC : Hid (0 < ls.length → ∃ g off, ad = some ⟨g, off, none⟩ ∧ g < w.heap.size ∧
    ∀ (k : Nat) (h : k < ls.length), w.cell? ⟨g, off + k * 3, none⟩ = some (.string ⟨(ls[k]).1.toArray⟩) ∧ w.cell? ⟨g, off + k * 3 + 1, none⟩ = some (.bool (ls[k]).2.1) ∧ w.cell? ⟨g, off + k * 3 + 2, none⟩ = some (.string ⟨(ls[k]).2.2.toArray⟩)) := hc
  have HP : Hid (ctP ls = (t.data.toList, c)) := h
  have HM : Hid (∀ x ∈ ls, x.1.length + x.2.2.length + 4 ≤ 1048576) := fun x hx => by have := bulkD_mem ls x hx; omega
  have HMX : Hid (w.cell? ⟨0, 0, none⟩ = some (.int .i64 m)) := hm
  have HSL : Hid (∀ k, (sepD (ls.take k)).length ≤ 2097152) := fun k => by
    have h1 := sepD_len (ls.take k)
    have h2 := bulkD_take ls k
    omega
  have hll : ls.length ≤ 1048576 := by have := bulkD_len ls; omega
  unfold maxLen at hcm
  clear h hc hk hm
  go_enter Tryd.func8, Tryd.ntmps8
  go_wp2_with fail
  go_loopw [4, 12] (fun ov i wr => ∃ (k : Nat) (o : ByteArray), k ≤ ls.length ∧ i = .int .i64 k ∧ ov = .string o ∧ Hid (o.data.toList = sepD (ls.take k)) ∧ Hid (badD (ls.take k) = 0) ∧ Below w.heap.size w wr) (fun _ i _ => ls.length - (intOf i).toNat)
  case atStart => exact ⟨0, _, Nat.zero_le _, rfl, rfl, rfl, rfl, Below.refl _ _⟩
  case round =>
    obtain ⟨k, o, hkl, rfl, rfl, HO, HB0, hw⟩ := hrel
    have hsz := hw.size
    have hos : o.size ≤ 2097152 := by rw [← size_list, HO.out]; exact HSL.out k
    by_cases hlt : k < ls.length
    · obtain ⟨g, off, rfl, hgs, hce⟩ := HC.out (by omega)
      obtain ⟨c1, c2, c3⟩ := hce k hlt
      have hm := HM.out ls[k] (List.getElem_mem hlt)
      obtain ⟨n, hn⟩ : ∃ n : ByteArray, n = ⟨(ls[k]).1.toArray⟩ := ⟨_, rfl⟩
      obtain ⟨f, hf⟩ : ∃ f : Bool, f = (ls[k]).2.1 := ⟨_, rfl⟩
      obtain ⟨a, ha⟩ : ∃ a : ByteArray, a = ⟨(ls[k]).2.2.toArray⟩ := ⟨_, rfl⟩
      have HE : Hid (ls[k] = (n.data.toList, f, a.data.toList)) := by show _ = _; rw [hn, hf, ha]
      have hns : n.size ≤ 1048576 := by rw [← size_list, hn]; show (ls[k]).1.length ≤ _; omega
      have has : a.size ≤ 1048576 := by rw [← size_list, ha]; show (ls[k]).2.2.length ≤ _; omega
      rw [← hn] at c1; rw [← hf] at c2; rw [← ha] at c3
      have d1 : wr.cell? ⟨g, off + k * 3, none⟩ = some (.string n) := (hw.cell (p := ⟨g, off + k * 3, none⟩) hgs).trans c1
      have d2 : wr.cell? ⟨g, off + k * 3 + 1, none⟩ = some (.bool f) := (hw.cell (p := ⟨g, off + k * 3 + 1, none⟩) hgs).trans c2
      have d3 : wr.cell? ⟨g, off + k * 3 + 2, none⟩ = some (.string a) := (hw.cell (p := ⟨g, off + k * 3 + 2, none⟩) hgs).trans c3
      have hgr : g < wr.heap.size := by omega
      have hki : (k : Int) < (ls.length : Int) := by omega
      have hk0 : (0 : Int) ≤ (k : Int) := by omega
      have HA0 : Hid (Below w.heap.size w (wr.alloc (.cells #[.string n, .bool f, .string a] 31))) := hw.alloc (by omega) _
      have HN : Hid (sepD (ls.take (k + 1)) = sepD (ls.take k) ++ (if k = 0 then [] else [44, 32]) ++ prD (n.data.toList, f, a.data.toList)) := by show _ = _; rw [sepD_take ls k hlt, HE.out]
      have HB1 : Hid (chkD (n.data.toList, f, a.data.toList) = 0 → badD (ls.take (k + 1)) = 0) := fun h => badD_take ls k hlt HB0.out (by rw [HE.out]; exact h)
      have HBD : Hid (chkD (n.data.toList, f, a.data.toList) ≠ 0 → t = ⟨#[]⟩ ∧ c = chkD (n.data.toList, f, a.data.toList)) := by
        intro hz
        have hd := badD_dead ls k hlt HB0.out (by rw [HE.out]; exact hz)
        rw [HE.out] at hd
        have h := HP.out
        unfold ctP at h
        rw [hd, if_neg hz] at h
        simp only [Prod.mk.injEq] at h
        refine ⟨?_, h.2.symm⟩
        apply ByteArray.ext; apply Array.ext'; exact h.1.symm
      clear hce c1 c2 c3 hn hf ha hm
      obtain ⟨L, hL⟩ : ∃ L : ByteArray, L = ⟨(lower n.data.toList).toArray⟩ := ⟨_, rfl⟩
      obtain ⟨tk, htk⟩ : ∃ tk, token n.data.toList = tk := ⟨_, rfl⟩
      obtain ⟨ta, hta⟩ : ∃ ta, token a.data.toList = ta := ⟨_, rfl⟩
      obtain ⟨lw, hlw⟩ : ∃ lw, (L.toList == n.toList) = lw := ⟨_, rfl⟩
      obtain ⟨q, d, hq⟩ : ∃ (q : ByteArray) (d : Int), qt a.data.toList = (q.data.toList, d) := ⟨⟨(qt a.data.toList).1.toArray⟩, (qt a.data.toList).2, rfl⟩
      have hok : okNm n.data.toList = (tk && lw) := by
        unfold okNm
        rw [htk, ← hlw, hL, ByteArray.toList_eq, ByteArray.toList_eq]
      obtain ⟨em, hem⟩ : ∃ em, a.toList.isEmpty = em := ⟨_, rfl⟩
      have HCK : Hid (chkD (n.data.toList, f, a.data.toList) = if (tk && lw) = true then (if f = true then (if ta = true then 0 else d) else if em = true then 0 else 3) else 3) := by
        show _ = _
        unfold chkD prArg
        simp only
        rw [hok, hta, hq, ← hem, ByteArray.toList_eq]
        cases ta <;> rfl
      have HQ : Hid (qt a.data.toList = (q.data.toList, d)) := hq
      have hqs : q.size ≤ 2002 := by
        rw [← size_list]
        rcases qt_cases _ _ _ hq with ⟨_, h⟩ | ⟨_, h, _⟩
        · rw [h]; simp
        · exact h
      have HPR : Hid (prD (n.data.toList, f, a.data.toList) = n.data.toList ++ (if f = true then 61 :: (if ta = true then a.data.toList else q.data.toList) else [])) := by
        show _ = _
        unfold prD prArg
        simp only
        rw [hta, hq]
        cases ta <;> rfl
      have HTK : Hid (∀ W : World, Calls Tryd.prog 17 #[.string n] W fun e w' => e = .returned (.bool tk) ∧ w' = W) := fun W => (rtoken_any n W (by unfold maxLen; omega)).mono fun e w' h => ⟨by rw [h.1, htk], h.2⟩
      have HTA : Hid (∀ W : World, Calls Tryd.prog 17 #[.string a] W fun e w' => e = .returned (.bool ta) ∧ w' = W) := fun W => (rtoken_any a W (by unfold maxLen; omega)).mono fun e w' h => ⟨by rw [h.1, hta], h.2⟩
      have HLW : Hid (∀ W : World, Calls Tryd.prog 18 #[.string n] W fun e w' => e = .returned (.string L) ∧ w' = W) := fun W => by rw [hL]; exact rlower_any n W (by omega)
      clear hok hq hta htk hL
      cases tk
      · have HZ := HBD.out (by rw [HCK.out]; simp)
        rw [HCK.out] at HZ
        have HZZ : Hid (t = ⟨#[]⟩ ∧ c = 3) := HZ
        clear HZ
        go_wp2_with fail
        go_quiet (first | (go_at_call 17; exact Calls.quiet_of_same (HTK.out _)))
        go_wp2_with fail
        go_ret2
        exact ⟨by rw [HZZ.out.1, HZZ.out.2]; try rfl, HA0.out.trans (drewN_below _ _ _)⟩
      · cases lw
        · have HZ := HBD.out (by rw [HCK.out]; simp)
          rw [HCK.out] at HZ
          have HZZ : Hid (t = ⟨#[]⟩ ∧ c = 3) := HZ
          clear HZ
          go_wp2_with fail
          go_quiet (first | (go_at_call 17; exact Calls.quiet_of_same (HTK.out _)) | (go_at_call 18; exact Calls.quiet_of_same (HLW.out _)))
          go_wp2_with fail
          go_ret2
          exact ⟨by rw [HZZ.out.1, HZZ.out.2]; try rfl, HA0.out.trans (drewN_below _ _ _)⟩
        · cases f
          · cases em
            · have HZ := HBD.out (by rw [HCK.out]; simp)
              rw [HCK.out] at HZ
              have HZZ : Hid (t = ⟨#[]⟩ ∧ c = 3) := HZ
              clear HZ
              go_wp2_with fail
              go_quiet (first | (go_at_call 17; exact Calls.quiet_of_same (HTK.out _)) | (go_at_call 18; exact Calls.quiet_of_same (HLW.out _)))
              go_wp2_with fail
              go_ret2
              exact ⟨by rw [HZZ.out.1, HZZ.out.2]; try rfl, HA0.out.trans (drewN_below _ _ _)⟩
            · have HG : Hid (badD (ls.take (k + 1)) = 0) := HB1.out (by rw [HCK.out]; rfl)
              by_cases hkz : k = 0
              · have hkn : ¬ (0 : Int) < (k : Int) := by omega
                have HF : Hid ((o ++ n).data.toList = sepD (ls.take (k + 1))) := by show _ = _; rw [HN.out, if_pos hkz, HPR.out]; simp [ByteArray.data_append, HO.out]
                clear hkz
                go_wp2_with fail
                go_quiet (first | (go_at_call 17; exact Calls.quiet_of_same (HTK.out _)) | (go_at_call 18; exact Calls.quiet_of_same (HLW.out _)))
                go_wp2_with fail
                go_roundw
                case rel => exact ⟨k + 1, _, by omega, by go_num, rfl, HF.out, HG, HA0.out.trans (drewN_below _ _ _)⟩
                case measure => simp [intOf]; omega
              · have hkn : (0 : Int) < (k : Int) := by omega
                have HF : Hid ((o ++ ⟨#[44, 32]⟩ ++ n).data.toList = sepD (ls.take (k + 1))) := by show _ = _; rw [HN.out, if_neg hkz, HPR.out]; simp [ByteArray.data_append, HO.out]
                clear hkz
                go_wp2_with fail
                go_quiet (first | (go_at_call 17; exact Calls.quiet_of_same (HTK.out _)) | (go_at_call 18; exact Calls.quiet_of_same (HLW.out _)))
                go_wp2_with fail
                go_roundw
                case rel => exact ⟨k + 1, _, by omega, by go_num, rfl, HF.out, HG, HA0.out.trans (drewN_below _ _ _)⟩
                case measure => simp [intOf]; omega
          · cases ta
            · by_cases hz : d = 0
              · subst hz
                have HG : Hid (badD (ls.take (k + 1)) = 0) := HB1.out (by rw [HCK.out]; rfl)
                by_cases hkz : k = 0
                · have hkn : ¬ (0 : Int) < (k : Int) := by omega
                  have HF : Hid ((o ++ n ++ (⟨#[61]⟩ ++ q)).data.toList = sepD (ls.take (k + 1))) := by show _ = _; rw [HN.out, if_pos hkz, HPR.out]; simp [ByteArray.data_append, HO.out]
                  clear hkz
                  go_wp2_with fail
                  go_quiet (first | (go_at_call 17; exact Calls.quiet_of_same (HTK.out _)) | (go_at_call 18; exact Calls.quiet_of_same (HLW.out _)))
                  go_wp2_with fail
                  refine (HTA.out _).mono ?_
                  rintro e w2 ⟨rfl, rfl⟩
                  have HWX : ∀ j, Below w.heap.size w ((wr.alloc (.cells #[.string n, .bool true, .string a] 31)).drewN j) := fun j => HA0.out.trans (drewN_below _ _ j)
                  go_wp2_with fail
                  refine (rquote_at a q 0 HQ.out m _ (below_keep (HWX _) HMX.out) (by unfold maxLen; omega)).mono ?_
                  rintro e w3 ⟨rfl, hb3⟩
                  have HW3 := (HWX _).trans (hb3.mono (HWX _).size)
                  clear hb3
                  go_wp2_with fail
                  go_roundw
                  case rel => exact ⟨k + 1, _, by omega, by go_num, rfl, HF.out, HG, HW3⟩
                  case measure => simp [intOf]; omega
                · have hkn : (0 : Int) < (k : Int) := by omega
                  have HF : Hid ((o ++ ⟨#[44, 32]⟩ ++ n ++ (⟨#[61]⟩ ++ q)).data.toList = sepD (ls.take (k + 1))) := by show _ = _; rw [HN.out, if_neg hkz, HPR.out]; simp [ByteArray.data_append, HO.out]
                  clear hkz
                  go_wp2_with fail
                  go_quiet (first | (go_at_call 17; exact Calls.quiet_of_same (HTK.out _)) | (go_at_call 18; exact Calls.quiet_of_same (HLW.out _)))
                  go_wp2_with fail
                  refine (HTA.out _).mono ?_
                  rintro e w2 ⟨rfl, rfl⟩
                  have HWX : ∀ j, Below w.heap.size w ((wr.alloc (.cells #[.string n, .bool true, .string a] 31)).drewN j) := fun j => HA0.out.trans (drewN_below _ _ j)
                  go_wp2_with fail
                  refine (rquote_at a q 0 HQ.out m _ (below_keep (HWX _) HMX.out) (by unfold maxLen; omega)).mono ?_
                  rintro e w3 ⟨rfl, hb3⟩
                  have HW3 := (HWX _).trans (hb3.mono (HWX _).size)
                  clear hb3
                  go_wp2_with fail
                  go_roundw
                  case rel => exact ⟨k + 1, _, by omega, by go_num, rfl, HF.out, HG, HW3⟩
                  case measure => simp [intOf]; omega
              · have hzb : (d != 0) = true := by simpa using hz
                have HZ := HBD.out (by rw [HCK.out]; simpa using hz)
                rw [HCK.out] at HZ
                have HZZ : Hid (t = ⟨#[]⟩ ∧ c = d) := by show _ ∧ _; simpa using HZ
                clear HZ hz
                by_cases hkz : k = 0
                · have hkn : ¬ (0 : Int) < (k : Int) := by omega
                  clear hkz
                  go_wp2_with fail
                  go_quiet (first | (go_at_call 17; exact Calls.quiet_of_same (HTK.out _)) | (go_at_call 18; exact Calls.quiet_of_same (HLW.out _)))
                  go_wp2_with fail
                  refine (HTA.out _).mono ?_
                  rintro e w2 ⟨rfl, rfl⟩
                  have HWX : ∀ j, Below w.heap.size w ((wr.alloc (.cells #[.string n, .bool true, .string a] 31)).drewN j) := fun j => HA0.out.trans (drewN_below _ _ j)
                  go_wp2_with fail
                  refine (rquote_at a q d HQ.out m _ (below_keep (HWX _) HMX.out) (by unfold maxLen; omega)).mono ?_
                  rintro e w3 ⟨rfl, hb3⟩
                  have HW3 := (HWX _).trans (hb3.mono (HWX _).size)
                  clear hb3
                  go_wp2_with fail
                  go_ret2
                  exact ⟨by rw [HZZ.out.1, HZZ.out.2]; try rfl, HW3⟩
                · have hkn : (0 : Int) < (k : Int) := by omega
                  clear hkz
                  go_wp2_with fail
                  go_quiet (first | (go_at_call 17; exact Calls.quiet_of_same (HTK.out _)) | (go_at_call 18; exact Calls.quiet_of_same (HLW.out _)))
                  go_wp2_with fail
                  refine (HTA.out _).mono ?_
                  rintro e w2 ⟨rfl, rfl⟩
                  have HWX : ∀ j, Below w.heap.size w ((wr.alloc (.cells #[.string n, .bool true, .string a] 31)).drewN j) := fun j => HA0.out.trans (drewN_below _ _ j)
                  go_wp2_with fail
                  refine (rquote_at a q d HQ.out m _ (below_keep (HWX _) HMX.out) (by unfold maxLen; omega)).mono ?_
                  rintro e w3 ⟨rfl, hb3⟩
                  have HW3 := (HWX _).trans (hb3.mono (HWX _).size)
                  clear hb3
                  go_wp2_with fail
                  go_ret2
                  exact ⟨by rw [HZZ.out.1, HZZ.out.2]; try rfl, HW3⟩
            · have HG : Hid (badD (ls.take (k + 1)) = 0) := HB1.out (by rw [HCK.out]; rfl)
              by_cases hkz : k = 0
              · have hkn : ¬ (0 : Int) < (k : Int) := by omega
                have HF : Hid ((o ++ n ++ (⟨#[61]⟩ ++ a)).data.toList = sepD (ls.take (k + 1))) := by show _ = _; rw [HN.out, if_pos hkz, HPR.out]; simp [ByteArray.data_append, HO.out]
                clear hkz
                go_wp2_with fail
                go_quiet (first | (go_at_call 17; exact Calls.quiet_of_same (HTK.out _)) | (go_at_call 18; exact Calls.quiet_of_same (HLW.out _)))
                go_wp2_with fail
                refine (HTA.out _).mono ?_
                rintro e w2 ⟨rfl, rfl⟩
                go_wp2_with fail
                go_roundw
                case rel => exact ⟨k + 1, _, by omega, by go_num, rfl, HF.out, HG, HA0.out.trans (drewN_below _ _ _)⟩
                case measure => simp [intOf]; omega
              · have hkn : (0 : Int) < (k : Int) := by omega
                have HF : Hid ((o ++ ⟨#[44, 32]⟩ ++ n ++ (⟨#[61]⟩ ++ a)).data.toList = sepD (ls.take (k + 1))) := by show _ = _; rw [HN.out, if_neg hkz, HPR.out]; simp [ByteArray.data_append, HO.out]
                clear hkz
                go_wp2_with fail
                go_quiet (first | (go_at_call 17; exact Calls.quiet_of_same (HTK.out _)) | (go_at_call 18; exact Calls.quiet_of_same (HLW.out _)))
                go_wp2_with fail
                refine (HTA.out _).mono ?_
                rintro e w2 ⟨rfl, rfl⟩
                go_wp2_with fail
                go_roundw
                case rel => exact ⟨k + 1, _, by omega, by go_num, rfl, HF.out, HG, HA0.out.trans (drewN_below _ _ _)⟩
                case measure => simp [intOf]; omega
    · have HALL : Hid (badD ls = 0) := by have := HB0.out; rw [List.take_of_length_le (by omega)] at this; exact this
      have HOE : Hid (o.data.toList = sepD ls) := by have := HO.out; rw [List.take_of_length_le (by omega)] at this; exact this
      have hol : (sepD ls).length = o.size := by rw [← HOE.out, size_list]
      by_cases h20 : 20 < ls.length
      · have h20i : (20 : Int) < (ls.length : Int) := by omega
        have HZ : Hid (t = ⟨#[]⟩ ∧ c = 2) := by
          have h := HP.out
          unfold ctP at h
          rw [if_pos HALL.out, if_pos (.inl h20)] at h
          simp only [Prod.mk.injEq] at h
          refine ⟨?_, h.2.symm⟩
          apply ByteArray.ext; apply Array.ext'; exact h.1.symm
        go_wp2_with fail
        go_ret2
        exact ⟨by rw [HZ.out.1, HZ.out.2]; try rfl, hw⟩
      · have h20i : ¬ (20 : Int) < (ls.length : Int) := by omega
        by_cases hbig : 1000 < o.size
        · have hbi : (1000 : Int) < (o.size : Int) := by omega
          have HZ : Hid (t = ⟨#[]⟩ ∧ c = 2) := by
            have h := HP.out
            unfold ctP at h
            rw [if_pos HALL.out, if_pos (.inr (by omega))] at h
            simp only [Prod.mk.injEq] at h
            refine ⟨?_, h.2.symm⟩
            apply ByteArray.ext; apply Array.ext'; exact h.1.symm
          go_wp2_with fail
          go_ret2
          exact ⟨by rw [HZ.out.1, HZ.out.2]; try rfl, hw⟩
        · have hbi : ¬ (1000 : Int) < (o.size : Int) := by omega
          have HZ : Hid (o = t ∧ c = 0) := by
            have h := HP.out
            unfold ctP at h
            rw [if_pos HALL.out, if_neg (by omega)] at h
            simp only [Prod.mk.injEq] at h
            refine ⟨?_, h.2.symm⟩
            apply ByteArray.ext; apply Array.ext'; rw [← h.1]; exact HOE.out
          go_wp2_with fail
          go_ret2
          exact ⟨by rw [HZ.out.1, HZ.out.2]; try rfl, hw⟩
end Go.Proofs.YtoccjnbodoiibaaDoor

/-
  The walk through ControlPrints: it answers true and turns nothing that was there; what comes in is of bulk at most 1048576, and the package variable that the library reads holds some number.
-/
namespace Go.Proofs.YtoccjnbodoiibaaDoor
open Go.RowKit

set_option maxHeartbeats 1000000 in
set_option maxRecDepth 100000 in
theorem walkControlPrints (a0 : Value) (l0 : List Dv) (w : World) (z0 : Dl w a0 l0) (b0 : bulkD l0 ≤ 1048576) (hm : ∃ m, w.cell? ⟨0, 0, none⟩ = some (.int .i64 m)) :
    Calls Tryd.prog 3 #[a0] w fun e w' => e = .returned (.bool true) ∧ Below w.heap.size w w' := by
  obtain ⟨m, hm⟩ := hm
  have HM : Hid (w.cell? ⟨0, 0, none⟩ = some (.int .i64 m)) := hm
  have HF : Hid (Dl w a0 l0) := z0
  have HBK : Hid (bulkD l0 ≤ 1048576) := b0
  obtain ⟨t, c, ht⟩ : ∃ (t : ByteArray) (c : Int), ctP l0 = (t.data.toList, c) := ⟨⟨(ctP l0).1.toArray⟩, (ctP l0).2, rfl⟩
  have HC : Hid (ctP l0 = (t.data.toList, c)) := ht
  obtain ⟨ad, cap, hv, hnc, hcm, hcx⟩ := id z0
  subst hv
  unfold maxLen at hcm
  have htt : (t.toList == t.toList) = true := by simp
  clear hcx hm z0 b0 ht
  go_enter Tryd.func3, Tryd.ntmps3
  go_wp2_with fail
  refine (kprint_at _ l0 t c HC.out _ HF.out HBK.out).mono ?_
  rintro e w1 ⟨rfl, hb1⟩
  have HB1 : Hid (Below w.heap.size w w1) := hb1
  clear hb1
  go_wp2_with fail
  refine (rkprint_at _ l0 t c HC.out m _ (below_keep HB1.out HM.out) (HF.out.below HB1.out) HBK.out).mono ?_
  rintro e w2 ⟨rfl, hb2⟩
  have HB2 : Hid (Below w.heap.size w w2) := HB1.out.trans (hb2.mono HB1.out.size)
  clear hb2
  go_wp2_with fail
  go_ret
  exact ⟨by first | rfl | simp, HB2.out⟩
end Go.Proofs.YtoccjnbodoiibaaDoor

/-
  A list of fields that came in, opened as a plain list of names and values; no program is named here.
-/
namespace Go.Proofs.YtoccjnbodoiibaaDoor
open Go.RowKit Go.ChangeShapes Go.WideShapes Go.Deep

def bytesOfV : Value → List UInt8
  | .string s => s.data.toList
  | _ => []
theorem add_form (b off n : Nat) : (⟨b, off, none⟩ : Addr).add n = ⟨b, off + n, none⟩ := by
  by_cases h0 : n = 0
  · subst h0; simp [Addr.add]
  · simp [Addr.add, h0]
def fl1 {H : Type} (y : Fld) : DataW H := .agg [.lit (.string y.1), .lit (.string y.2)]

theorem open_fl {H : Type} {enc : TypeId × Value → H} {P : Program} {w : World} {base : Nat} {spare : Nat → Bool} {held : Bool} {t e : TypeId} {f0 f1 : Field} {fuel : Nat} {v : Value} {x : DataW H × List MemPlace}
    (ht : P.underlying t = some (.slice e)) (he : P.underlying e = some (.struct #[f0, f1])) (ce : P.cellsOf e = 2) (o0 : f0.offset = 0) (o1 : f1.offset = 1) (c0 : P.cellsOf f0.type = 1) (c1 : P.cellsOf f1.type = 1)
    (s0 : P.underlying f0.type = some .string) (s1 : P.underlying f1.type = some .string) (h : DataW.trod enc P w base spare held fuel t [v] = some x) :
    ∃ (ls : List Fld) (sp : List (DataW H)), Fl w v ls ∧ Most maxLen ls ∧ (x.1 = .nil ∧ ls = [] ∨ x.1 = .slice (ls.map fl1) sp) := by
  rcases open_slice_pairs ht he ce o0 o1 c0 c1 h with ⟨hcs, hx⟩ | ⟨a, len, cap, m, n, V0, V1, D0, D1, P0, P1, hcs, _, hl, hm, hmm, hx, hi⟩
  · simp only [List.cons.injEq, and_true] at hcs
    subst hcs
    have hM : Most maxLen [] := fun y hy => by cases hy
    exact ⟨[], [], Fl.nil w, hM, Or.inl ⟨by rw [hx], rfl⟩⟩
  · simp only [List.cons.injEq, and_true] at hcs
    subst hcs
    have hlm : len ≤ m := by rw [hmm]; split <;> omega
    have each : ∀ i, i < len → V0 i = .string ⟨(bytesOfV (V0 i)).toArray⟩ ∧ V1 i = .string ⟨(bytesOfV (V1 i)).toArray⟩ ∧ D0 i = .lit (.string (bytesOfV (V0 i))) ∧ D1 i = .lit (.string (bytesOfV (V1 i))) ∧ (bytesOfV (V0 i)).length ≤ maxLen ∧ (bytesOfV (V1 i)).length ≤ maxLen := by
      intro i hil
      obtain ⟨_, _, t0, t1⟩ := hi i (by omega)
      obtain ⟨a0, ha0, hd0, hz0⟩ := DataW.trod_string s0 t0
      obtain ⟨a1, ha1, hd1, hz1⟩ := DataW.trod_string s1 t1
      simp only [List.cons.injEq, and_true] at ha0 ha1
      simp only [Prod.mk.injEq] at hd0 hd1
      rw [ha0, ha1, hd0.1, hd1.1]
      refine ⟨rfl, rfl, rfl, rfl, ?_, ?_⟩
      · show a0.data.toList.length ≤ maxLen; rw [size_list]; exact hz0
      · show a1.data.toList.length ≤ maxLen; rw [size_list]; exact hz1
    refine ⟨(List.range len).map fun i => (bytesOfV (V0 i), bytesOfV (V1 i)), (List.range (m - len)).map fun j => .agg [D0 (len + j), D1 (len + j)], ⟨some a, cap, by simp, by simpa using hl, hm, fun h0 => ?_⟩, ?_, .inr ?_⟩
    rotate_left
    · intro y hy
      obtain ⟨i, hir, rfl⟩ := List.mem_map.1 hy
      obtain ⟨_, _, _, _, h5, h6⟩ := each i (List.mem_range.1 hir)
      exact ⟨h5, h6⟩
    · rw [hx]
      show DataW.slice _ _ = DataW.slice _ _
      congr 1
      rw [List.map_map]
      refine List.map_congr_left fun i hir => ?_
      obtain ⟨_, _, h3, h4, _⟩ := each i (List.mem_range.1 hir)
      show DataW.agg [D0 i, D1 i] = DataW.agg _
      rw [h3, h4]
    · simp only [List.length_map, List.length_range] at h0 ⊢
      obtain ⟨b, off, spot⟩ := a
      have hc0 := (hi 0 (by omega)).1
      have hspot : spot = none := by simpa [Addr.add] using World.cell?_spot hc0
      subst hspot
      refine ⟨b, off, rfl, ?_, fun k hk => ?_⟩
      · rw [add_form] at hc0
        exact cell_in hc0
      · obtain ⟨q0, q1, _⟩ := hi k (by omega)
        obtain ⟨h1, h2, _⟩ := each k hk
        rw [add_form] at q0 q1
        rw [List.getElem_map, List.getElem_range]
        refine ⟨?_, ?_⟩
        · rw [q0, h1]; rfl
        · rw [Nat.add_assoc, q1, h2]; rfl
end Go.Proofs.YtoccjnbodoiibaaDoor

/-
  A list of directives that came in, opened as a plain list; no program is named here.
-/
namespace Go.Proofs.YtoccjnbodoiibaaDoor
open Go.RowKit Go.ChangeShapes Go.WideShapes Go.Deep

def dr1 {H : Type} (y : List UInt8 × Bool × List UInt8) : DataW H := .agg [.lit (.string y.1), .lit (.bool y.2.1), .lit (.string y.2.2)]
theorem open_dl {H : Type} {enc : TypeId × Value → H} {P : Program} {w : World} {base : Nat} {spare : Nat → Bool} {held : Bool} {t q : TypeId} {g0 g1 g2 : Field} {fuel : Nat} {v : Value} {x : DataW H × List MemPlace}
    (ht : P.underlying t = some (.slice q)) (hq : P.underlying q = some (.struct #[g0, g1, g2])) (hone : oneCellFields P #[g0, g1, g2] = true) (hC : P.cellsOf q = 3)
    (s0 : P.underlying g0.type = some .string) (s1 : P.underlying g1.type = some .bool) (s2 : P.underlying g2.type = some .string) (h : DataW.trod enc P w base spare held fuel t [v] = some x) :
    ∃ (ls : List (List UInt8 × Bool × List UInt8)) (sp : List (DataW H)), Dl w v ls ∧ MostD maxLen ls ∧ (x.1 = .nil ∧ ls = [] ∨ x.1 = .slice (ls.map dr1) sp) := by
  rcases open_slice ht h with ⟨hcs, hx⟩ | ⟨a, len, cap, m, n, D, Pl, hcs, _, hl, hm, hmm, hx, hi⟩
  · simp only [List.cons.injEq, and_true] at hcs
    subst hcs
    have hM : MostD maxLen [] := fun y hy => by cases hy
    exact ⟨[], [], Dl.nil w, hM, Or.inl ⟨by rw [hx], rfl⟩⟩
  · simp only [List.cons.injEq, and_true] at hcs
    subst hcs
    have hlm : len ≤ m := by rw [hmm]; split <;> omega
    obtain ⟨z0, k0⟩ := hone_of hone 0 g0 rfl
    obtain ⟨z1, k1⟩ := hone_of hone 1 g1 rfl
    obtain ⟨z2, k2⟩ := hone_of hone 2 g2 rfl
    have each : ∀ i, i < len → ∃ y : List UInt8 × Bool × List UInt8, (y.1.length ≤ maxLen ∧ y.2.2.length ≤ maxLen) ∧ D i = dr1 y ∧ ∀ j, j < 3 → w.cell? (a.add (i * 3 + j)) = [Value.string ⟨y.1.toArray⟩, Value.bool y.2.1, Value.string ⟨y.2.2.toArray⟩][j]? := by
      intro i hil
      obtain ⟨cs, hcs, htr⟩ := hi i (by omega)
      rw [hC] at hcs
      obtain ⟨_, hlen, hcell⟩ := World.cells?_some hcs
      obtain ⟨y0, y1, y2, n', hy, _, t0, t1, t2⟩ := trod_struct3 hq htr
      match cs, hlen with
      | [v0, v1, v2], _ =>
        simp [z0, z1, z2, k0, k1, k2] at t0 t1 t2
        obtain ⟨a0, ha0, hd0, b0⟩ := DataW.trod_string s0 t0
        obtain ⟨a1, ha1, hd1⟩ := DataW.trod_bool s1 t1
        obtain ⟨a2, ha2, hd2, b2⟩ := DataW.trod_string s2 t2
        simp only [List.cons.injEq, and_true] at ha0 ha1 ha2
        subst ha0; subst ha1; subst ha2
        refine ⟨(a0.data.toList, a1, a2.data.toList), ⟨by rw [size_list]; exact b0, by rw [size_list]; exact b2⟩, ?_, fun j hj => ?_⟩
        · have e := (Prod.mk.inj hy).1
          rw [e, hd0, hd1, hd2]; rfl
        · have e1 := hcell j hj
          rw [add_add] at e1
          rw [e1]
    obtain ⟨f, hf⟩ := choose_lt each
    refine ⟨(List.range len).map f, (List.range (m - len)).map fun j => D (len + j), ⟨some a, cap, by simp, by simpa using hl, hm, fun h0 => ?_⟩, ?_, .inr ?_⟩
    rotate_left
    · intro y hy
      obtain ⟨i, hir, rfl⟩ := List.mem_map.1 hy
      exact (hf i (List.mem_range.1 hir)).1
    · rw [hx]
      show DataW.slice _ _ = DataW.slice _ _
      congr 1
      rw [List.map_map]
      refine List.map_congr_left fun i hir => ?_
      exact (hf i (List.mem_range.1 hir)).2.1
    · simp only [List.length_map, List.length_range] at h0 ⊢
      obtain ⟨b, off, spot⟩ := a
      have hc0 := (hf 0 h0).2.2 0 (by decide)
      have hspot : spot = none := by
        have : [Value.string ⟨(f 0).1.toArray⟩, Value.bool (f 0).2.1, Value.string ⟨(f 0).2.2.toArray⟩][0]? = some (.string ⟨(f 0).1.toArray⟩) := rfl
        rw [this] at hc0
        simpa [Addr.add] using World.cell?_spot hc0
      subst hspot
      refine ⟨b, off, rfl, ?_, fun k hk => ?_⟩
      · have : [Value.string ⟨(f 0).1.toArray⟩, Value.bool (f 0).2.1, Value.string ⟨(f 0).2.2.toArray⟩][0]? = some (.string ⟨(f 0).1.toArray⟩) := rfl
        rw [this, add_form] at hc0
        exact cell_in hc0
      · have q0 := (hf k hk).2.2 0 (by decide)
        have q1 := (hf k hk).2.2 1 (by decide)
        have q2 := (hf k hk).2.2 2 (by decide)
        rw [add_form] at q0 q1 q2
        rw [List.getElem_map, List.getElem_range]
        exact ⟨q0, by rw [Nat.add_assoc]; exact q1, by rw [Nat.add_assoc]; exact q2⟩
end Go.Proofs.YtoccjnbodoiibaaDoor

/-
  What ReadValue of package token answers; a text has at most 1000 bytes.
-/
namespace Go.Proofs.YtoccjnbodoiibaaDoor
open Go.RowKit

theorem ret_pair' {a b : ByteArray} {c d : Bool} (h : a = b) (h' : c = d) : Ending.returned (.tuple #[.string a, .bool c]) = .returned (.tuple #[.string b, .bool d]) := by rw [h, h']

set_option maxHeartbeats 1000000 in
set_option maxRecDepth 100000 in
theorem readValue_at (s t : ByteArray) (ok : Bool) (h : (ok = true ∧ rv s.data.toList = some t.data.toList) ∨ (ok = false ∧ rv s.data.toList = none ∧ t = ⟨#[]⟩)) (w : World) (hs : s.size ≤ 1000) :
    Calls Tryd.prog 37 #[.string s] w fun e w' => e = .returned (.tuple #[.string t, .bool ok]) ∧ Below w.heap.size w w' := by
  have HZ : Hid (s.size ≤ maxLen) := by show s.size ≤ maxLen; unfold maxLen; omega
  cases htk : token s.data.toList
  · obtain ⟨t', n, hu⟩ : ∃ (t' : ByteArray) (n : Int), unq s.data.toList = (t'.data.toList, n) := ⟨⟨(unq s.data.toList).1.toArray⟩, (unq s.data.toList).2, rfl⟩
    have HU : Hid (unq s.data.toList = (t'.data.toList, n)) := hu
    have HT : Hid (token s.data.toList = false) := htk
    have hfin : t' = t ∧ (n == 0) = ok := by
      rcases h with ⟨rfl, hr⟩ | ⟨rfl, hr, rfl⟩
      · by_cases hn : (unq s.data.toList).2 = 0
        · rw [rv_ok _ htk hn, hu] at hr
          rw [hu] at hn
          simp only at hn
          subst hn
          refine ⟨?_, rfl⟩
          apply ByteArray.ext; apply Array.ext'
          exact Option.some.inj hr
        · rw [rv_bad _ htk hn] at hr; cases hr
      · by_cases hn : (unq s.data.toList).2 = 0
        · rw [rv_ok _ htk hn] at hr; cases hr
        · rw [hu] at hn
          simp only at hn
          refine ⟨?_, by simpa using hn⟩
          have := unq_empty _ _ _ hu hn
          apply ByteArray.ext; apply Array.ext'
          exact this
    obtain ⟨rfl, hok⟩ := hfin
    have HOK : Hid ((n == 0) = ok) := hok
    clear h hu htk hok
    go_enter Tryd.func37, Tryd.ntmps37
    go_wp2_with fail
    refine (isToken_any _ _ HZ.out).mono ?_
    rintro e w1 ⟨rfl, rfl⟩
    rw [HT.out]
    go_wp2_with fail
    refine (unquote_at _ t' n HU.out _ (by omega)).mono ?_
    rintro e w2 ⟨rfl, hb⟩
    go_wp2_with fail
    go_ret2
    exact ⟨ret_pair' rfl HOK.out, hb⟩
  · have HT : Hid (token s.data.toList = true) := htk
    have hfin : t = s ∧ ok = true := by
      rcases h with ⟨rfl, hr⟩ | ⟨rfl, hr, rfl⟩
      · rw [rv_token _ htk] at hr
        refine ⟨?_, rfl⟩
        apply ByteArray.ext; apply Array.ext'
        exact (Option.some.inj hr).symm
      · rw [rv_token _ htk] at hr; cases hr
    obtain ⟨rfl, rfl⟩ := hfin
    clear h htk
    go_enter Tryd.func37, Tryd.ntmps37
    go_wp2_with fail
    refine (isToken_any _ _ HZ.out).mono ?_
    rintro e w1 ⟨rfl, rfl⟩
    rw [HT.out]
    go_wp2_with fail
    refine (clone_at _ _ (by omega)).mono ?_
    rintro e w2 ⟨rfl, hb⟩
    go_wp2_with fail
    go_ret2
    exact ⟨rfl, hb⟩
end Go.Proofs.YtoccjnbodoiibaaDoor

/-
  Plain lemmas on where a text lies in another one for the first time; no program is named here.
-/
namespace Go.Proofs.YtoccjnbodoiibaaDoor
open Go.RowKit

theorem index_two' (l sub : List UInt8) : Lib.index l sub = -1 ∨ ∃ k : Nat, Lib.index l sub = k ∧ k + sub.length ≤ l.length := by
  have h := Lib.index_ge l sub
  by_cases h1 : Lib.index l sub = -1
  · exact .inl h1
  · refine .inr ⟨(Lib.index l sub).toNat, by omega, ?_⟩
    have := Lib.index_room l sub (by omega)
    omega
theorem cut_no (l sub : List UInt8) (h : Lib.index l sub = -1) : Lib.cut l sub = (l, [], false) := by
  unfold Lib.cut; rw [h]; rfl
theorem cut_yes (l sub : List UInt8) (k : Nat) (h : Lib.index l sub = k) : Lib.cut l sub = (l.take k, l.drop (k + sub.length), true) := by
  unfold Lib.cut; rw [h, if_pos (by omega)]; simp

theorem cut_split (l sub : List UInt8) (k : Nat) (h : Lib.index l sub = k) : l = l.take k ++ (sub ++ l.drop (k + sub.length)) := by
  rcases Lib.index_spec l sub with ⟨h1, _⟩ | ⟨i, h1, h2, h3, _⟩
  · omega
  · obtain rfl : i = k := by omega
    unfold Lib.occAt at h3
    obtain ⟨t, ht⟩ := List.isPrefixOf_iff_prefix.1 h3
    have e : l.drop (i + sub.length) = t := by rw [← List.drop_drop, ← ht, List.drop_left']; rfl
    rw [e, ht, List.take_append_drop]
theorem index_at_crlf (l t : List UInt8) (h : ∀ b ∈ l, b ≠ 13) : Lib.index (l ++ 13 :: 10 :: t) [13, 10] = (l.length : Int) := by
  induction l with
  | nil => simp [Lib.index]
  | cons b l ih =>
    have ih := ih fun c hc => h c (List.mem_cons_of_mem _ hc)
    have hb : b ≠ 13 := h b (List.mem_cons_self ..)
    have hp : ([13, 10] : List UInt8).isPrefixOf (b :: (l ++ 13 :: 10 :: t)) = false := by
      simp [List.isPrefixOf]
      intro e; exact absurd e.symm hb
    rw [List.cons_append]
    unfold Lib.index
    rw [hp, ih]
    have : ((l.length : Int) == -1) = false := by rw [beq_eq_false_iff_ne]; omega
    rw [this]; simp
theorem index_no_crlf (l : List UInt8) (h : ∀ b ∈ l, b ≠ 13) : Lib.index l [13, 10] = -1 := by
  induction l with
  | nil => rfl
  | cons b l ih =>
    have ih := ih fun c hc => h c (List.mem_cons_of_mem _ hc)
    have hb : b ≠ 13 := h b (List.mem_cons_self ..)
    have hp : ([13, 10] : List UInt8).isPrefixOf (b :: l) = false := by
      cases l <;> simp [List.isPrefixOf]
      intro e; exact absurd e.symm hb
    unfold Lib.index
    rw [hp, ih]; rfl
theorem index_no_crlf1 (l : List UInt8) (h : ∀ b ∈ l, b ≠ 13) : Lib.index (l ++ [13]) [13, 10] = -1 := by
  induction l with
  | nil => rfl
  | cons b l ih =>
    have ih := ih fun c hc => h c (List.mem_cons_of_mem _ hc)
    have hb : b ≠ 13 := h b (List.mem_cons_self ..)
    have hp : ([13, 10] : List UInt8).isPrefixOf (b :: (l ++ [13])) = false := by
      cases l <;> simp [List.isPrefixOf]
      all_goals (intro e; exact absurd e.symm hb)
    rw [List.cons_append]
    unfold Lib.index
    rw [hp, ih]; rfl
theorem index_byte_at (d : UInt8) (l t : List UInt8) (h : ∀ b ∈ l, b ≠ d) : Lib.index (l ++ d :: t) [d] = (l.length : Int) := by
  induction l with
  | nil => simp [Lib.index]
  | cons b l ih =>
    have ih := ih fun c hc => h c (List.mem_cons_of_mem _ hc)
    have hb : b ≠ d := h b (List.mem_cons_self ..)
    have hp : ([d] : List UInt8).isPrefixOf (b :: (l ++ d :: t)) = false := by
      simp [List.isPrefixOf]
      intro e; exact absurd e.symm hb
    rw [List.cons_append]
    unfold Lib.index
    rw [hp, ih]
    have : ((l.length : Int) == -1) = false := by rw [beq_eq_false_iff_ne]; omega
    rw [this]; simp

theorem index_colon (l t : List UInt8) (h : ∀ b ∈ l, b ≠ 58) : Lib.index (l ++ 58 :: t) [58] = (l.length : Int) := index_byte_at 58 l t h
theorem tok_not (c d : UInt8) (hd : isTok d = false) (h : isTok c = true) : c ≠ d := by
  rintro rfl; rw [hd] at h; cases h
theorem plain_not13 (c : UInt8) (h : plainB c = true) : c ≠ 13 := by
  rintro rfl; exact absurd h (by decide)
theorem token_all (l : List UInt8) (h : token l = true) : ∀ c ∈ l, isTok c = true := by
  unfold token at h
  rw [Bool.and_eq_true] at h
  exact List.all_eq_true.1 h.2

end Go.Proofs.YtoccjnbodoiibaaDoor

/-
  What strings.Cut answers where a single byte is looked for, whatever the size of the text.
-/
namespace Go.Proofs.YtoccjnbodoiibaaDoor
open Go.RowKit

set_option maxHeartbeats 2000000 in
set_option maxRecDepth 100000 in
theorem slcut1 (s : ByteArray) (c : UInt8) (w : World) (hs : s.size ≤ maxLen) :
    Calls Tryd.prog 51 #[.string s, .string ⟨#[c]⟩] w fun e w' => e = .returned (.tuple #[.string ⟨(Lib.cut s.data.toList [c]).1.toArray⟩, .string ⟨(Lib.cut s.data.toList [c]).2.1.toArray⟩, .bool (Lib.cut s.data.toList [c]).2.2]) ∧ ∃ n, w' = w.drewN n := by
  have hio := Lib.index_one s.data.toList c
  unfold maxLen at hs
  rcases Lib.indexB_cases s ⟨#[c]⟩ with hix | ⟨i, hix, hroom⟩
  · obtain ⟨e1, e2, e3⟩ := Lib.cutB_miss s ⟨#[c]⟩ hix
    have hI : Lib.indexByte s.data.toList c = -1 := by rw [← hio]; exact hix
    rw [show ([c] : List UInt8) = (⟨#[c]⟩ : ByteArray).data.toList from rfl, e1, e2, e3]
    have HI : Hid (Lib.indexByte s.data.toList c = -1) := hI
    clear hio hix e1 e2 e3 hI
    go_enter Tryd.func51, Tryd.ntmps51
    go_wp2_with fail
    refine (Tryd.stringslite_Index_one s c _).mono ?_
    rintro e w1 ⟨rfl, rfl⟩
    rw [HI.out]
    go_wp2_with fail
    go_ret3
    exact ⟨rfl, 0, rfl⟩
  · obtain ⟨e1, e2, e3⟩ := Lib.cutB_hit s ⟨#[c]⟩ i hix
    have hI : Lib.indexByte s.data.toList c = i := by rw [← hio]; exact hix
    have hone : (⟨#[c]⟩ : ByteArray).size = 1 := rfl
    rw [show ([c] : List UInt8) = (⟨#[c]⟩ : ByteArray).data.toList from rfl, e1, e2, e3]
    rw [hone] at hroom ⊢
    have HI : Hid (Lib.indexByte s.data.toList c = i) := hI
    have c1 : (0 : Int) ≤ (i : Int) := by omega
    have c2 : (i : Int) ≤ (s.size : Int) := by omega
    have c3 : (0 : Int) ≤ (i : Int) + 1 := by omega
    have c4 : (i : Int) + 1 ≤ (s.size : Int) := by omega
    clear hio hix e1 e2 e3 hI hone
    have mixed : Tryd.prog.follows Departure.mixedOrders = true := by kernel_rfl
    go_enter Tryd.func51, Tryd.ntmps51
    go_wp2_with fail
    refine (Tryd.stringslite_Index_one s c _).mono ?_
    rintro e w1 ⟨rfl, rfl⟩
    rw [HI.out]
    go_wp2_with fail
    go_region_o
    go_wp2_with fail
    go_ret3
    exact ⟨rfl, 1, rfl⟩
theorem scut1_at (s a b : ByteArray) (c : UInt8) (f : Bool) (h : Lib.cut s.data.toList [c] = (a.data.toList, b.data.toList, f)) (w : World) (hs : s.size ≤ maxLen) :
    Calls Tryd.prog 36 #[.string s, .string ⟨#[c]⟩] w fun e w' => e = .returned (.tuple #[.string a, .string b, .bool f]) ∧ ∃ n, w' = w.drewN n := by
  have hc := slcut1 s c
  rw [h] at hc
  have HC : Hid (∀ (w : World), s.size ≤ maxLen → Calls Tryd.prog 51 #[.string s, .string ⟨#[c]⟩] w fun e w' => e = .returned (.tuple #[.string a, .string b, .bool f]) ∧ ∃ n, w' = w.drewN n) := hc
  have HS : Hid (s.size ≤ maxLen) := hs
  clear hc hs h
  go_enter Tryd.func36, Tryd.ntmps36
  go_wp2_with fail
  refine (HC.out _ HS.out).mono ?_
  rintro e w1 ⟨rfl, n, rfl⟩
  go_wp2_with fail
  go_ret3
  exact ⟨rfl, n, rfl⟩
end Go.Proofs.YtoccjnbodoiibaaDoor

/-
  What readOne of package control answers; a text has at most 1000 bytes.
-/
namespace Go.Proofs.YtoccjnbodoiibaaDoor
open Go.RowKit

set_option maxHeartbeats 2000000 in
set_option maxRecDepth 100000 in
theorem kread_at (s : ByteArray) (w : World) (hs : s.size ≤ 1000) :
    Calls Tryd.prog 21 #[.string s] w fun e w' => Below w.heap.size w w' ∧ ((paD s.data.toList = none ∧ ∃ (n a : ByteArray) (f : Bool), e = .returned (.tuple #[.agg #[.string n, .bool f, .string a], .bool false])) ∨
      ∃ (n a : ByteArray) (f : Bool), paD s.data.toList = some (n.data.toList, f, a.data.toList) ∧ e = .returned (.tuple #[.agg #[.string n, .bool f, .string a], .bool true])) := by
  obtain ⟨a, b, f, hc⟩ : ∃ (a b : ByteArray) (f : Bool), Lib.cut s.data.toList [61] = (a.data.toList, b.data.toList, f) := ⟨⟨(Lib.cut s.data.toList [61]).1.toArray⟩, ⟨(Lib.cut s.data.toList [61]).2.1.toArray⟩, (Lib.cut s.data.toList [61]).2.2, rfl⟩
  have HC : Hid (Lib.cut s.data.toList [61] = (a.data.toList, b.data.toList, f)) := hc
  obtain ⟨hal, hbl⟩ := cut_len3 _ _ _ _ _ hc
  rw [size_list, size_list] at hal hbl
  have HZ : Hid (a.size ≤ maxLen) := by show _ ≤ _; unfold maxLen; omega
  have HZS : Hid (s.size ≤ maxLen) := by show _ ≤ _; unfold maxLen; omega
  have HNEW : Hid (∀ W : World, Below (w.alloc (.cells #[.string ⟨#[]⟩, .bool false, .string ⟨#[]⟩] 31)).heap.size (w.alloc (.cells #[.string ⟨#[]⟩, .bool false, .string ⟨#[]⟩] 31)) W →
    W.cell? ⟨w.heap.size, 0, none⟩ = some (.string ⟨#[]⟩) ∧ W.cell? ⟨w.heap.size, 1, none⟩ = some (.bool false) ∧ W.cell? ⟨w.heap.size, 2, none⟩ = some (.string ⟨#[]⟩) ∧ (∀ o, W.frozen? ⟨w.heap.size, o, none⟩ = false) ∧ w.heap.size < W.heap.size ∧ Below w.heap.size w W) := fun W h => three_cells h
  obtain ⟨L, hL⟩ : ∃ L : ByteArray, L = ⟨(lower a.data.toList).toArray⟩ := ⟨_, rfl⟩
  have HLW : Hid (∀ W : World, Calls Tryd.prog 26 #[.string a] W fun e w' => e = .returned (.string L) ∧ Below W.heap.size W w') := fun W => by rw [hL]; exact lower_any a W (by omega)
  have HLL : Hid (L.data.toList = lower a.data.toList) := by show _ = _; rw [hL]
  clear hc hL
  cases htk : token a.data.toList
  · have HT : Hid (token a.data.toList = false) := htk
    have HN : Hid (paD s.data.toList = none) := by show _ = _; unfold paD; rw [HC.out, htk]; rfl
    clear htk
    go_enter Tryd.func21, Tryd.ntmps21
    go_wp2_with fail
    refine (scut1_at s a b 61 f HC.out _ HZS.out).mono ?_
    rintro e w1 ⟨rfl, nd, rfl⟩
    go_wp2_with fail
    refine (isToken_any a _ HZ.out).mono ?_
    rintro e w2 ⟨rfl, hw2⟩
    rw [HT.out]
    obtain ⟨hf0, hf1, hf2, hfz, hgs, hbel⟩ := HNEW.out w2 (by rw [hw2]; exact drewN_below _ _ nd)
    have hz0 := hfz 0
    have hz1 := hfz 1
    have hz2 := hfz 2
    clear hw2 hfz
    go_wp2_with fail
    obtain ⟨c0, c1, c2⟩ := three_set (.string ⟨#[]⟩) (.bool false) (.string ⟨#[]⟩) hf0 hf1 hf2
    obtain ⟨w4, hw4⟩ : ∃ w4, w4 = ((w2.setCell ⟨w.heap.size, 0, none⟩ (.string ⟨#[]⟩)).setCell ⟨w.heap.size, 1, none⟩ (.bool false)).setCell ⟨w.heap.size, 2, none⟩ (.string ⟨#[]⟩) := ⟨_, rfl⟩
    have hb4 : Below w.heap.size w w4 := by rw [hw4]; exact ((hbel.setCell (p := ⟨w.heap.size, 0, none⟩) (Nat.le_refl _) _).setCell (p := ⟨w.heap.size, 1, none⟩) (Nat.le_refl _) _).setCell (p := ⟨w.heap.size, 2, none⟩) (Nat.le_refl _) _
    rw [← hw4] at c0 c1 c2 ⊢
    clear hw4
    refine bodyPost_ret (by simp [results, Tryd.results21, go_sem, c0, c1, c2]; try rfl) rfl ?_
    exact ⟨hb4, .inl ⟨HN.out, _, _, _, rfl⟩⟩
  · have HT : Hid (token a.data.toList = true) := htk
    cases f
    · have HN : Hid (paD s.data.toList = some (L.data.toList, false, (⟨#[]⟩ : ByteArray).data.toList)) := by show _ = _; unfold paD; rw [HC.out, HLL.out]; simp [htk]
      clear htk
      go_enter Tryd.func21, Tryd.ntmps21
      go_wp2_with fail
      refine (scut1_at s a b 61 false HC.out _ HZS.out).mono ?_
      rintro e w1 ⟨rfl, nd, rfl⟩
      go_wp2_with fail
      refine (isToken_any a _ HZ.out).mono ?_
      rintro e w2 ⟨rfl, hw2⟩
      rw [HT.out]
      have HB2 := drewN_below (w.alloc (.cells #[.string ⟨#[]⟩, .bool false, .string ⟨#[]⟩] 31)).heap.size (w.alloc (.cells #[.string ⟨#[]⟩, .bool false, .string ⟨#[]⟩] 31)) nd
      rw [← hw2] at HB2
      clear hw2
      go_wp2_with fail
      refine (HLW.out _).mono ?_
      rintro e w3 ⟨rfl, hb3⟩
      have hb3' := HB2.trans (hb3.mono HB2.size)
      obtain ⟨hf0, hf1, hf2, hfz, hgs, hbel⟩ := HNEW.out w3 hb3'
      have hz0 := hfz 0
      have hz1 := hfz 1
      have hz2 := hfz 2
      clear hfz hb3 hb3' HB2
      go_wp2_with fail
      obtain ⟨c0, c1, c2⟩ := three_set (.string L) (.bool false) (.string ⟨#[]⟩) hf0 hf1 hf2
      obtain ⟨w4, hw4⟩ : ∃ w4, w4 = ((w3.setCell ⟨w.heap.size, 0, none⟩ (.string L)).setCell ⟨w.heap.size, 1, none⟩ (.bool false)).setCell ⟨w.heap.size, 2, none⟩ (.string ⟨#[]⟩) := ⟨_, rfl⟩
      have hb4 : Below w.heap.size w w4 := by rw [hw4]; exact ((hbel.setCell (p := ⟨w.heap.size, 0, none⟩) (Nat.le_refl _) _).setCell (p := ⟨w.heap.size, 1, none⟩) (Nat.le_refl _) _).setCell (p := ⟨w.heap.size, 2, none⟩) (Nat.le_refl _) _
      rw [← hw4] at c0 c1 c2 ⊢
      clear hw4
      have e0 := (World.cell?_alloc_lt w4 (.cells #[.string L, .bool false, .string ⟨#[]⟩] 31) _ (cell_in c0)).trans c0
      have e1 := (World.cell?_alloc_lt w4 (.cells #[.string L, .bool false, .string ⟨#[]⟩] 31) _ (cell_in c1)).trans c1
      have e2 := (World.cell?_alloc_lt w4 (.cells #[.string L, .bool false, .string ⟨#[]⟩] 31) _ (cell_in c2)).trans c2
      refine bodyPost_ret (by simp [results, Tryd.results21, go_sem, e0, e1, e2]; try rfl) rfl ?_
      exact ⟨hb4.alloc hb4.size _, .inr ⟨L, ⟨#[]⟩, false, HN.out, rfl⟩⟩
    · obtain ⟨t, ok, hrv⟩ : ∃ (t : ByteArray) (ok : Bool), (ok = true ∧ rv b.data.toList = some t.data.toList) ∨ (ok = false ∧ rv b.data.toList = none ∧ t = ⟨#[]⟩) := by
        cases hr : rv b.data.toList with
        | none => exact ⟨⟨#[]⟩, false, .inr ⟨rfl, rfl, rfl⟩⟩
        | some l => exact ⟨⟨l.toArray⟩, true, .inl ⟨rfl, by simp⟩⟩
      have HRV : Hid ((ok = true ∧ rv b.data.toList = some t.data.toList) ∨ (ok = false ∧ rv b.data.toList = none ∧ t = ⟨#[]⟩)) := hrv
      have HN : Hid ((paD s.data.toList = none ∧ ok = false) ∨ (paD s.data.toList = some (L.data.toList, true, t.data.toList) ∧ ok = true)) := by
        show _ ∨ _
        unfold paD
        rw [HC.out, HLL.out]
        rcases hrv with ⟨h1, h2⟩ | ⟨h1, h2, _⟩
        · right; simp [htk, h2, h1]
        · left; simp [htk, h2, h1]
      clear htk hrv
      go_enter Tryd.func21, Tryd.ntmps21
      go_wp2_with fail
      refine (scut1_at s a b 61 true HC.out _ HZS.out).mono ?_
      rintro e w1 ⟨rfl, nd, rfl⟩
      go_wp2_with fail
      refine (isToken_any a _ HZ.out).mono ?_
      rintro e w2 ⟨rfl, hw2⟩
      rw [HT.out]
      have HB2 := drewN_below (w.alloc (.cells #[.string ⟨#[]⟩, .bool false, .string ⟨#[]⟩] 31)).heap.size (w.alloc (.cells #[.string ⟨#[]⟩, .bool false, .string ⟨#[]⟩] 31)) nd
      rw [← hw2] at HB2
      clear hw2
      go_wp2_with fail
      refine (HLW.out _).mono ?_
      rintro e w3 ⟨rfl, hb3⟩
      have HB3 : Hid (Below (w.alloc (.cells #[.string ⟨#[]⟩, .bool false, .string ⟨#[]⟩] 31)).heap.size (w.alloc (.cells #[.string ⟨#[]⟩, .bool false, .string ⟨#[]⟩] 31)) w3) := HB2.trans (hb3.mono HB2.size)
      clear hb3 HB2
      go_wp2_with fail
      refine (readValue_at b t ok HRV.out _ (by omega)).mono ?_
      rintro e w4 ⟨rfl, hb4⟩
      obtain ⟨g0, g1, g2, hgz, hgl, hbn⟩ := three_cells hb4
      have hb4' := HB3.out.trans (hbn.mono HB3.out.size)
      obtain ⟨hf0, hf1, hf2, hfz, hgs, hbel⟩ := HNEW.out w4 hb4'
      have hz0 := hfz 0
      have hz1 := hfz 1
      have hz2 := hfz 2
      have hy2 := hgz 2
      have hlt3 : w.heap.size < w3.heap.size := by have := HB3.out.size; simp at this; omega
      clear hfz hgz hb4 hb4' hbn
      go_wp2_with fail
      have e0 : (w4.setCell ⟨w3.heap.size, 2, none⟩ (.string t)).cell? ⟨w.heap.size, 0, none⟩ = some (.string ⟨#[]⟩) := (World.cell?_setCell_other _ _ _ _ (by simp)).trans hf0
      have e1 : (w4.setCell ⟨w3.heap.size, 2, none⟩ (.string t)).cell? ⟨w.heap.size, 1, none⟩ = some (.bool false) := (World.cell?_setCell_other _ _ _ _ (by simp)).trans hf1
      have e2 : (w4.setCell ⟨w3.heap.size, 2, none⟩ (.string t)).cell? ⟨w.heap.size, 2, none⟩ = some (.string ⟨#[]⟩) := (World.cell?_setCell_other _ _ _ _ (by simp)).trans hf2
      obtain ⟨c0, c1, c2⟩ := three_set (.string L) (.bool true) (.string t) e0 e1 e2
      obtain ⟨w5, hw5⟩ : ∃ w5, w5 = (((w4.setCell ⟨w3.heap.size, 2, none⟩ (.string t)).setCell ⟨w.heap.size, 0, none⟩ (.string L)).setCell ⟨w.heap.size, 1, none⟩ (.bool true)).setCell ⟨w.heap.size, 2, none⟩ (.string t) := ⟨_, rfl⟩
      have hb5 : Below w.heap.size w w5 := by rw [hw5]; exact (((hbel.setCell (p := ⟨w3.heap.size, 2, none⟩) (Nat.le_of_lt hlt3) _).setCell (p := ⟨w.heap.size, 0, none⟩) (Nat.le_refl _) _).setCell (p := ⟨w.heap.size, 1, none⟩) (Nat.le_refl _) _).setCell (p := ⟨w.heap.size, 2, none⟩) (Nat.le_refl _) _
      rw [← hw5] at c0 c1 c2 ⊢
      clear hw5
      refine bodyPost_ret (by simp [results, Tryd.results21, go_sem, c0, c1, c2]; try rfl) rfl ?_
      rcases HN.out with ⟨h1, rfl⟩ | ⟨h1, rfl⟩
      · exact ⟨hb5, .inl ⟨h1, _, _, _, rfl⟩⟩
      · exact ⟨hb5, .inr ⟨L, t, true, h1, rfl⟩⟩
end Go.Proofs.YtoccjnbodoiibaaDoor

/-
  What the program's table tells of a directive's type.
-/
namespace Go.Proofs.YtoccjnbodoiibaaDoor
open Go.RowKit

theorem infoDr : (Tryd.prog.info? 31).map (fun i => (i.zero, i.size, i.bytes)) = some (some (.agg #[.string ⟨#[]⟩, .bool false, .string ⟨#[]⟩]), 3, 40) := by kernel_rfl
end Go.Proofs.YtoccjnbodoiibaaDoor
