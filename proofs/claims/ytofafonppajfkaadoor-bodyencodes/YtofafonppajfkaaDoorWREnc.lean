/-
  What hex and ChunksOf of the document's answers compute.
-/
import Derived.Test.YtofafonppajfkaaDoorSpecEn
import Derived.Test.YtofafonppajfkaaDoorSpecF
import Derived.Test.YtofafonppajfkaaDoorRows
import Derived.Test.YtofafonppajfkaaDoorShelf
import Derived.Deep.QuietTactic
namespace Go.Proofs.YtofafonppajfkaaDoor
open Go.RowKit

def d16 : ByteArray := ⟨#[48, 49, 50, 51, 52, 53, 54, 55, 56, 57, 97, 98, 99, 100, 101, 102]⟩
theorem d16_at (u : Nat) (h : u < 16) : d16.extract u (u + 1) = ⟨(hexd u).toArray⟩ := by
  have key : ∀ n : Fin 16, (d16.extract n.val (n.val + 1)).data.toList = [hx n.val] := by decide +kernel
  rw [hexd_one u h]
  apply ByteArray.ext; apply Array.ext'; exact key ⟨u, h⟩

set_option maxHeartbeats 1000000 in
set_option maxRecDepth 100000 in
theorem rhex_any (N : Nat) : ∀ (u : Nat) (_ : u ≤ N) (_ : u < 65536) (w : World),
    Calls Tryd.prog 32 #[.int .i64 (u : Int)] w fun e w' => e = .returned (.string ⟨(hexd u).toArray⟩) ∧ w' = w := by
  induction N with
  | zero =>
    intro u h1 h2 w
    obtain rfl : u = 0 := by omega
    go_enter Tryd.func32, Tryd.ntmps32
    go_wp2_with fail
    go_ret
    exact ⟨ret_str (by rw [hexd_one 0 (by omega)]; decide +kernel), rfl⟩
  | succ N ih =>
    intro u h1 h2 w
    by_cases h16 : u < 16
    · have hsl : ∀ w, (Instr.slice 9 (.string d16) (some (.int .i64 (u : Int))) (some (.int .i64 ((u : Int) + 1))) none).run Tryd.prog w = .ok (.string (d16.extract u (u + 1))) w := fun w => by
        rw [run_slice_string w 9 d16 .i64 .i64 _ _ Tryd.underlying9 (by omega) (by omega) (by show (u : Int) + 1 ≤ 16; omega), show ((u : Int)).toNat = u by omega, show ((u : Int) + 1).toNat = u + 1 by omega]
      have hi : (u : Int) < 16 := by omega
      clear ih
      go_enter Tryd.func32, Tryd.ntmps32
      go_name_bytes_deep 12 DG hDG
      have eDG : DG = d16 := by rw [← hDG]; rfl
      subst eDG
      clear hDG
      go_wp2_with fail
      go_ret
      exact ⟨ret_str (d16_at u h16), rfl⟩
    · have c1 := ih (u / 16) (by omega) (by omega) w
      have c2 := ih (u % 16) (by omega) (by omega) w
      obtain ⟨t1, ht1⟩ : ∃ t : ByteArray, t = ⟨(hexd (u / 16)).toArray⟩ := ⟨_, rfl⟩
      obtain ⟨t2, ht2⟩ : ∃ t : ByteArray, t = ⟨(hexd (u % 16)).toArray⟩ := ⟨_, rfl⟩
      have hl1 : t1.size ≤ 4 := by rw [← size_list, ht1]; exact hexd_len _ (by omega)
      have hl2 : t2.size ≤ 4 := by rw [← size_list, ht2]; exact hexd_len _ (by omega)
      have HL : Hid (hexd u = t1.data.toList ++ t2.data.toList) := by
        show hexd u = _
        rw [hexd_step u h16, ht1, ht2, hexd_one (u % 16) (by omega)]
      rw [← ht1, Int.natCast_ediv] at c1
      rw [← ht2, Int.natCast_emod] at c2
      have hi : ¬ (u : Int) < 16 := by omega
      clear ih ht1 ht2
      go_enter Tryd.func32, Tryd.ntmps32
      go_wp2_with fail
      refine c1.mono ?_
      rintro e w1 ⟨rfl, rfl⟩
      go_wp2_with fail
      refine c2.mono ?_
      rintro e w2 ⟨rfl, rfl⟩
      go_wp2_with fail
      go_ret
      refine ⟨ret_str ?_, rfl⟩
      apply ByteArray.ext; apply Array.ext'
      rw [HL.out, ByteArray.data_append, Array.toList_append]

theorem ret_sv {a b : ByteArray} {v : Value} (h : a = b) : Ending.returned (.tuple #[.string a, v]) = .returned (.tuple #[.string b, v]) := by rw [h]
set_option maxHeartbeats 2000000 in
set_option maxRecDepth 100000 in
theorem rchunks_any (size : Int) (n : Nat) (hsn : size = (n : Int) + 1) (h63 : size ≤ 9223372036854775807) (N : Nat) : ∀ (s : ByteArray) (_ : s.size ≤ N) (_ : s.size ≤ 5000) (w : World),
    Calls Tryd.prog 12 #[.string s, .int .i64 size] w fun e w' => e = .returned (.tuple #[.string ⟨(encS n s.data.toList).toArray⟩, .int .i64 0]) ∧ Below w.heap.size w w' := by
  have hns : ¬ size < 1 := by omega
  have HSN : Hid (size = (n : Int) + 1) := hsn
  clear hsn
  induction N with
  | zero =>
    intro s hN h5 w
    have h0 : s.size = 0 := by omega
    have hse : s = ⟨#[]⟩ := by apply ByteArray.ext; apply Array.ext'; exact List.eq_nil_of_length_eq_zero (by rw [size_list]; exact h0)
    subst hse
    have HE : Hid (encS n (⟨#[]⟩ : ByteArray).data.toList = endC) := encS_nil _ _ rfl
    go_enter Tryd.func12, Tryd.ntmps12
    go_wp2_with fail
    go_ret2
    exact ⟨ret_sv (by rw [HE.out]; rfl), Below.refl _ _⟩
  | succ N ih =>
    intro s hN h5 w
    by_cases h0 : s.size = 0
    · have hse : s = ⟨#[]⟩ := by apply ByteArray.ext; apply Array.ext'; exact List.eq_nil_of_length_eq_zero (by rw [size_list]; exact h0)
      subst hse
      have HE : Hid (encS n (⟨#[]⟩ : ByteArray).data.toList = endC) := encS_nil _ _ rfl
      clear ih h0
      go_enter Tryd.func12, Tryd.ntmps12
      go_wp2_with fail
      go_ret2
      exact ⟨ret_sv (by rw [HE.out]; rfl), Below.refl _ _⟩
    · have hsn := HSN.out
      obtain ⟨m, hm⟩ : ∃ m : Nat, (m : Int) = min size (s.size : Int) := ⟨(min size (s.size : Int)).toNat, by omega⟩
      have hm1 : 1 ≤ m := by omega
      have hms : m ≤ s.size := by omega
      have hmin : min size (s.size : Int) = (m : Int) := hm.symm
      have hmn : m = min (n + 1) s.data.toList.length := by rw [size_list]; omega
      obtain ⟨r, hr⟩ : ∃ r : ByteArray, r = s.extract m s.size := ⟨_, rfl⟩
      have hrl : r.data.toList = s.data.toList.drop m := by
        rw [hr, Lib.extract_data, List.take_of_length_le (by rw [List.length_drop, size_list]; omega)]
      have hrs : r.size = s.size - m := by rw [← size_list, hrl, List.length_drop, size_list]
      have c := ih r (by omega) (by omega)
      obtain ⟨t, ht⟩ : ∃ t : ByteArray, t = ⟨(encS n r.data.toList).toArray⟩ := ⟨_, rfl⟩
      rw [← ht] at c
      have htl : t.size ≤ 9 * r.size + 5 := by rw [← size_list, ht, ← size_list r]; exact encS_len _ _ _ (Nat.le_refl _) (by rw [size_list]; omega)
      obtain ⟨g, hg⟩ : ∃ g : ByteArray, g = ⟨(hexd m).toArray⟩ := ⟨_, rfl⟩
      have hgl : g.size ≤ 4 := by rw [← size_list, hg]; exact hexd_len _ (by omega)
      obtain ⟨a, ha⟩ : ∃ a : ByteArray, a = s.extract 0 m := ⟨_, rfl⟩
      have hal : a.data.toList = s.data.toList.take m := by rw [ha, Lib.extract_data, List.drop_zero]; rfl
      have has : a.size = m := by rw [← size_list, hal, List.length_take, size_list]; omega
      have HE : Hid (encS n s.data.toList = g.data.toList ++ ([13, 10] ++ (a.data.toList ++ ([13, 10] ++ t.data.toList)))) := by
        show _ = _
        rw [encS_step _ _ (by rw [size_list]; exact h0) m hmn, hg, hal, ht, hrl]
      have hsl : ∀ w, (Instr.slice 9 (.string s) (some (.int .i64 (m : Int))) none none).run Tryd.prog w = .ok (.string r) w := fun w => by
        rw [run_slice_string_l w 9 s Tryd.underlying9 .i64 (m : Int) (by omega) (by omega), hr]; rfl
      have hsl2 : ∀ w, (Instr.slice 9 (.string s) none (some (.int .i64 (m : Int))) none).run Tryd.prog w = .ok (.string a) w := fun w => by
        rw [run_slice_string_h w 9 s Tryd.underlying9 .i64 (m : Int) (by omega) (by omega), ha]; rfl
      have hne : (s.toList == []) = false := by
        rw [ByteArray.toList_eq, beq_eq_false_iff_ne]
        intro e; have := size_list s; rw [e] at this; simp at this; omega
      have hn5 : ¬ (5000 : Int) < (s.size : Int) := by omega
      have HG : Hid (g = ⟨(hexd m).toArray⟩) := hg
      have hA1 : ¬ 9223372036854775807 < g.size + 2 := by omega
      have hA2 : ¬ 9223372036854775807 < g.size + 2 + a.size := by omega
      have hA3 : ¬ 9223372036854775807 < g.size + 2 + a.size + 2 := by omega
      have hA4 : ¬ 9223372036854775807 < g.size + 2 + a.size + 2 + t.size := by omega
      clear ih hm hr ht hg ha hal hrl hmn hsn has hrs
      have mixed : Tryd.prog.follows Departure.mixedOrders = true := by kernel_rfl
      go_enter Tryd.func12, Tryd.ntmps12
      go_wp2_with fail
      refine (c _).mono ?_
      rintro e w1 ⟨rfl, hb1⟩
      have HX : ∀ w, Calls Tryd.prog 32 #[.int .i64 (m : Int)] w fun e w' => e = .returned (.string g) ∧ w' = w := fun w => by
        rw [HG.out]; exact rhex_any m m (Nat.le_refl _) (by omega) w
      have HXX : Hid (∀ w, Calls Tryd.prog 32 #[.int .i64 (m : Int)] w fun e w' => e = .returned (.string g) ∧ w' = w) := HX
      clear HX c
      go_wp2_with fail
      go_quiet (first | (go_at_call 32; exact Calls.quiet_of_same (HXX.out _)))
      go_wp2_with fail
      go_ret2
      refine ⟨ret_sv ?_, hb1.trans (drewN_below _ _ _)⟩
      apply ByteArray.ext; apply Array.ext'
      rw [HE.out]
      simp
theorem rchunksE_at (s x : ByteArray) (size c : Int) (h : encE s.data.toList size = (x.data.toList, c)) (hw : size ≤ 9223372036854775807) (w : World) :
    Calls Tryd.prog 12 #[.string s, .int .i64 size] w fun e w' => e = .returned (.tuple #[.string x, .int .i64 c]) ∧ Below w.heap.size w w' := by
  unfold encE at h
  by_cases h1 : size < 1
  · rw [if_pos h1] at h
    simp only [Prod.mk.injEq] at h
    obtain ⟨h2, rfl⟩ := h
    have hx : (⟨#[]⟩ : ByteArray) = x := by apply ByteArray.ext; apply Array.ext'; exact h2
    subst hx
    clear h2
    go_enter Tryd.func12, Tryd.ntmps12
    go_wp2_with fail
    go_ret2
    exact ⟨rfl, Below.refl _ _⟩
  · rw [if_neg h1] at h
    by_cases h5 : 5000 < s.data.toList.length
    · rw [if_pos h5] at h
      simp only [Prod.mk.injEq] at h
      obtain ⟨h2, rfl⟩ := h
      have hx : (⟨#[]⟩ : ByteArray) = x := by apply ByteArray.ext; apply Array.ext'; exact h2
      subst hx
      rw [size_list] at h5
      have hi5 : (5000 : Int) < (s.size : Int) := by omega
      clear h2 h5
      go_enter Tryd.func12, Tryd.ntmps12
      go_wp2_with fail
      go_ret2
      exact ⟨rfl, Below.refl _ _⟩
    · rw [if_neg h5] at h
      simp only [Prod.mk.injEq] at h
      obtain ⟨h2, rfl⟩ := h
      have hx : (⟨(encS (size - 1).toNat s.data.toList).toArray⟩ : ByteArray) = x := by apply ByteArray.ext; apply Array.ext'; exact h2
      rw [← hx]
      exact rchunks_any size (size - 1).toNat (by omega) hw s.size s (Nat.le_refl _) (by rw [size_list] at h5; omega) w
end Go.Proofs.YtofafonppajfkaaDoor
