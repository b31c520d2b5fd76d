/-
  What numberLine and Encode of package body compute; the listed table of package math/bits holds what its text lays.
-/
import Derived.Test.YtofafonppajfkaaDoorSpecEn
import Derived.Test.YtofafonppajfkaaDoorWHex
import Derived.Test.YtofafonppajfkaaDoorWPrint
import Derived.Shelf.Strings.MapGrows
namespace Go.Proofs.YtofafonppajfkaaDoor
open Go.RowKit

theorem ret_sv2 {a b : ByteArray} {v : Value} (h : a = b) : Ending.returned (.tuple #[.string a, v]) = .returned (.tuple #[.string b, v]) := by rw [h]

set_option maxHeartbeats 1000000 in
set_option maxRecDepth 100000 in
theorem numLine_at (u : Nat) (hu : u < 65536) (t : ByteArray) (ht : t.data.toList = hexd u ++ [13, 10]) (w : World) (h : HTab w) :
    Calls Tryd.prog 30 #[.int .i64 (u : Int)] w fun e w' => e = .returned (.string t) ∧ Below w.heap.size w w' := by
  have HT : Hid (HTab w) := h
  have HTT : Hid (t.data.toList = hexd u ++ [13, 10]) := ht
  obtain ⟨g, hg⟩ : ∃ g : ByteArray, g = ⟨(hexd u).toArray⟩ := ⟨_, rfl⟩
  have hgl : g.size ≤ 4 := by rw [← size_list, hg]; exact hexd_len _ hu
  have HG : Hid (g = ⟨(hexd u).toArray⟩) := hg
  clear h ht hg
  go_enter Tryd.func30, Tryd.ntmps30
  go_wp2_with fail
  refine (fmtInt_at u hu _ HT.out).mono ?_
  rintro e w1 ⟨rfl, hb⟩
  rw [← HG.out]
  go_wp2_with fail
  go_ret
  refine ⟨ret_str ?_, hb⟩
  apply ByteArray.ext; apply Array.ext'
  rw [HTT.out, HG.out]; simp

set_option maxHeartbeats 4000000 in
set_option maxRecDepth 100000 in
theorem encode_go (s : ByteArray) (size : Int) (n : Nat) (hsn : size = (n : Int) + 1) (h63 : size ≤ 9223372036854775807) (h5 : s.size ≤ 5000) (w : World) (hT : HTab w) :
    Calls Tryd.prog 11 #[.string s, .int .i64 size] w fun e w' => e = .returned (.tuple #[.string ⟨(encS n s.data.toList).toArray⟩, .int .i64 0]) ∧ Below w.heap.size w w' := by
  have HT : Hid (HTab w) := hT
  have HSN : Hid (size = (n : Int) + 1) := hsn
  have hns : ¬ size < 1 := by omega
  have hn5 : ¬ (5000 : Int) < (s.size : Int) := by omega
  have hel : (encS n s.data.toList).length ≤ 45005 := by
    have := encS_len n s.size s.data.toList (by rw [size_list]; exact Nat.le_refl _) (by rw [size_list]; exact h5)
    rw [size_list] at this; omega
  have HEL : Hid ((encS n s.data.toList).length ≤ 45005) := hel
  clear hT hsn hel
  go_enter Tryd.func11, Tryd.ntmps11
  go_wp2_with fail
  refine (print_any _ [] _ (Fl.nil _) (fun x hx => by cases hx)).mono ?_
  rintro e w1 ⟨rfl, hb1⟩
  rw [show (⟨(prtS []).1.toArray⟩ : ByteArray) = ⟨#[13, 10]⟩ from by decide +kernel, show (prtS []).2 = 0 from by decide +kernel]
  have hfr := Lib.fresh_isBuilder 54 5 w1
  have HB : Hid (Lib.IsBuilderF 54 5 w1.heap.size w1.heap.size [] (w1.alloc (.cells #[.pointer none, .slice none 0 0] 54))) := Lib.IsBuilderF.of hfr
  have HB1 : Hid (Below w1.heap.size w1 (w1.alloc (.cells #[.pointer none, .slice none 0 0] 54))) := (Below.refl _ w1).alloc (Nat.le_refl _) _
  have hsz1 := hb1.size
  clear hfr
  go_wp2_with fail
  go_loopw [9] (fun r wr => ∃ (rs : ByteArray) (B : List UInt8), r = .string rs ∧ rs.size ≤ 5000 ∧ B ++ encS n rs.data.toList = encS n s.data.toList ∧ Lib.IsBuilderF 54 5 w1.heap.size w1.heap.size (Lib.byteCells B) wr ∧ Below w1.heap.size w1 wr) (fun r _ => match r with | .string x => x.size | _ => 0)
  case atStart => exact ⟨s, [], rfl, h5, rfl, HB.out, HB1.out⟩
  case round =>
    obtain ⟨rs, B, rfl, hr5, hBe, hbu, hw⟩ := hrel
    rename World => wr
    have hsz := hw.size
    have HBE : Hid (B ++ encS n rs.data.toList = encS n s.data.toList) := hBe
    have HBU : Hid (Lib.IsBuilderF 54 5 w1.heap.size w1.heap.size (Lib.byteCells B) wr) := hbu
    have hBl : B.length + (encS n rs.data.toList).length ≤ 45005 := by rw [← List.length_append, hBe]; exact HEL.out
    clear hbu hBe
    by_cases h0 : rs.size = 0
    · have hse : rs = ⟨#[]⟩ := by apply ByteArray.ext; apply Array.ext'; exact List.eq_nil_of_length_eq_zero (by rw [size_list]; exact h0)
      subst hse
      have HEE : Hid (B ++ endC = encS n s.data.toList) := by show _ = _; rw [← HBE.out, encS_nil _ _ rfl]
      have hBl2 : B.length ≤ 45005 := by omega
      obtain ⟨z, hz⟩ : ∃ z : ByteArray, z = ⟨#[48, 13, 10]⟩ := ⟨_, rfl⟩
      have HZ : Hid (z = ⟨#[48, 13, 10]⟩) := hz
      have HZN := numLine_at 0 (by omega) z (by rw [hz, hexd_one 0 (by omega)]; rfl)
      have hzs : z.size = 3 := by rw [hz]; rfl
      clear hz hBl h0
      go_wp2_with fail
      refine (HZN _ ((HT.out.below hb1).below hw)).mono ?_
      rintro e w2 ⟨rfl, hb2⟩
      have HBU2 := HBU.out.below hb2
      have hw2 := hw.trans (hb2.mono hsz)
      clear hw hb2 HBU
      go_wp2_with fail
      refine (Tryd.Builder_WriteString_k w1.heap.size w1.heap.size _ z _ HBU2 (by rw [Lib.byteCells_length]; omega) hw2.size).mono ?_
      rintro e w3 ⟨rfl, hb3, hw3, _⟩
      rw [cells_app] at hb3
      have HW3 := hw2.trans hw3
      clear hw2 hw3 HBU2
      go_wp2_with fail
      refine (Tryd.Builder_WriteString_k w1.heap.size w1.heap.size _ _ _ (.inr hb3) (by rw [Lib.byteCells_length, List.length_append, size_list]; show _ + 2 ≤ _; omega) HW3.size).mono ?_
      rintro e w4 ⟨rfl, hb4, hw4, _⟩
      rw [cells_app] at hb4
      have HW4 := HW3.trans hw4
      clear HW3 hw4 hb3
      go_wp2_with fail
      refine (Tryd.Builder_String_any_f w1.heap.size w1.heap.size _ _ (.inr hb4) HW4.size).mono ?_
      rintro e w5 ⟨rfl, hw5⟩
      go_wp2_with fail
      go_ret2
      refine ⟨ret_sv2 ?_, hb1.trans ((HW4.trans hw5.2).mono hsz1)⟩
      rw [← HEE.out, HZ.out]
      simp [endC]
    · obtain ⟨m, hm⟩ : ∃ m : Nat, (m : Int) = min size (rs.size : Int) := ⟨(min size (rs.size : Int)).toNat, by omega⟩
      have hsn := HSN.out
      have hm1 : 1 ≤ m := by omega
      have hms : m ≤ rs.size := by omega
      have hmin : min size (rs.size : Int) = (m : Int) := hm.symm
      have hmn : m = min (n + 1) rs.data.toList.length := by rw [size_list]; omega
      obtain ⟨r, hr⟩ : ∃ r : ByteArray, r = rs.extract m rs.size := ⟨_, rfl⟩
      have hrl : r.data.toList = rs.data.toList.drop m := by
        rw [hr, Lib.extract_data, List.take_of_length_le (by rw [List.length_drop, size_list]; omega)]
      have hrs : r.size = rs.size - m := by rw [← size_list, hrl, List.length_drop, size_list]
      obtain ⟨a, ha⟩ : ∃ a : ByteArray, a = rs.extract 0 m := ⟨_, rfl⟩
      have hal : a.data.toList = rs.data.toList.take m := by rw [ha, Lib.extract_data, List.drop_zero]; rfl
      obtain ⟨t, ht⟩ : ∃ t : ByteArray, t.data.toList = hexd m ++ [13, 10] := ⟨⟨(hexd m ++ [13, 10]).toArray⟩, rfl⟩
      have HE : Hid (encS n rs.data.toList = t.data.toList ++ (a.data.toList ++ ([13, 10] ++ encS n r.data.toList))) := by
        show _ = _
        rw [encS_step _ _ (by rw [size_list]; exact h0) m hmn, ht, hal, hrl]; simp
      have hlen : B.length + (t.size + (a.size + (2 + (encS n r.data.toList).length))) ≤ 45005 := by
        have := hBl
        rw [HE.out] at this
        simp only [List.length_append, size_list, List.length_cons, List.length_nil] at this
        omega
      have hsl : ∀ w, (Instr.slice 9 (.string rs) (some (.int .i64 (m : Int))) none none).run Tryd.prog w = .ok (.string r) w := fun w => by
        rw [run_slice_string_l w 9 rs Tryd.underlying9 .i64 (m : Int) (by omega) (by omega), hr]; rfl
      have hsl2 : ∀ w, (Instr.slice 9 (.string rs) none (some (.int .i64 (m : Int))) none).run Tryd.prog w = .ok (.string a) w := fun w => by
        rw [run_slice_string_h w 9 rs Tryd.underlying9 .i64 (m : Int) (by omega) (by omega), ha]; rfl
      have hne : (rs.toList == []) = false := by
        rw [ByteArray.toList_eq, beq_eq_false_iff_ne]
        intro e; have := size_list rs; rw [e] at this; simp at this; omega
      have HNL := numLine_at m (by omega) t ht
      clear hm hmn hr hrl ha hal ht hBl hsn
      go_wp2_with fail
      refine (HNL _ ((HT.out.below hb1).below hw)).mono ?_
      rintro e w2 ⟨rfl, hb2⟩
      have HBU2 := HBU.out.below hb2
      have hw2 := hw.trans (hb2.mono hsz)
      clear hw hb2 HBU
      go_wp2_with fail
      refine (Tryd.Builder_WriteString_k w1.heap.size w1.heap.size _ t _ HBU2 (by rw [Lib.byteCells_length]; omega) hw2.size).mono ?_
      rintro e w3 ⟨rfl, hb3, hw3, _⟩
      rw [cells_app] at hb3
      have HW3 := hw2.trans hw3
      clear hw2 hw3 HBU2
      go_wp2_with fail
      refine (Tryd.Builder_WriteString_k w1.heap.size w1.heap.size _ a _ (.inr hb3) (by rw [Lib.byteCells_length, List.length_append, size_list]; omega) HW3.size).mono ?_
      rintro e w4 ⟨rfl, hb4, hw4, _⟩
      rw [cells_app] at hb4
      have HW4 := HW3.trans hw4
      clear HW3 hw4 hb3
      go_wp2_with fail
      refine (Tryd.Builder_WriteString_k w1.heap.size w1.heap.size _ _ _ (.inr hb4) (by rw [Lib.byteCells_length, List.length_append, List.length_append, size_list, size_list]; show _ + _ + _ + 2 ≤ _; omega) HW4.size).mono ?_
      rintro e w5 ⟨rfl, hb5, hw5, _⟩
      rw [cells_app] at hb5
      have HW5 := HW4.trans hw5
      have HBX : Hid ((B ++ t.data.toList ++ a.data.toList ++ [13, 10]) ++ encS n r.data.toList = encS n s.data.toList) := by
        show _ = _; rw [← HBE.out, HE.out]; simp
      have HB5 : Hid (Lib.IsBuilderF 54 5 w1.heap.size w1.heap.size (Lib.byteCells (B ++ t.data.toList ++ a.data.toList ++ [13, 10])) w5) := .inr hb5
      clear HW4 hw5 hb4 hb5
      go_wp2_with fail
      go_roundw
      case rel => exact ⟨r, _, rfl, by omega, HBX.out, HB5.out, HW5⟩
      case measure => simp; omega

set_option maxHeartbeats 1000000 in
set_option maxRecDepth 100000 in
theorem encode_at (s x : ByteArray) (size c : Int) (h : encE s.data.toList size = (x.data.toList, c)) (hw : size ≤ 9223372036854775807) (w : World) (hT : HTab w) :
    Calls Tryd.prog 11 #[.string s, .int .i64 size] w fun e w' => e = .returned (.tuple #[.string x, .int .i64 c]) ∧ Below w.heap.size w w' := by
  unfold encE at h
  by_cases h1 : size < 1
  · rw [if_pos h1] at h
    simp only [Prod.mk.injEq] at h
    obtain ⟨h2, rfl⟩ := h
    have hx : (⟨#[]⟩ : ByteArray) = x := by apply ByteArray.ext; apply Array.ext'; exact h2
    subst hx
    clear h2 hT
    go_enter Tryd.func11, Tryd.ntmps11
    go_wp2_with fail
    go_ret2
    exact ⟨rfl, Below.refl _ _⟩
  · rw [if_neg h1] at h
    by_cases h5 : 5000 < s.data.toList.length
    · rw [if_pos h5] at h
      simp only [Prod.mk.injEq] at h
      obtain ⟨h2, rfl⟩ := h
      have hx : (⟨#[]⟩ : ByteArray) = x := by apply ByteArray.ext; apply Array.ext'; exact h2
      subst hx
      rw [size_list] at h5
      have hi5 : (5000 : Int) < (s.size : Int) := by omega
      clear h2 h5 hT
      go_enter Tryd.func11, Tryd.ntmps11
      go_wp2_with fail
      go_ret2
      exact ⟨rfl, Below.refl _ _⟩
    · rw [if_neg h5] at h
      simp only [Prod.mk.injEq] at h
      obtain ⟨h2, rfl⟩ := h
      have hx : (⟨(encS (size - 1).toNat s.data.toList).toArray⟩ : ByteArray) = x := by apply ByteArray.ext; apply Array.ext'; exact h2
      rw [← hx]
      exact encode_go s size (size - 1).toNat (by omega) hw (by rw [size_list] at h5; omega) w hT
end Go.Proofs.YtofafonppajfkaaDoor
