/-
  What Print of package field computes, whatever list of fields comes in.
-/
import Derived.Test.YtofafonppajfkaaDoorSpecPr
import Derived.Test.YtofafonppajfkaaDoorWChkL
import Derived.Test.YtofafonppajfkaaDoorShelfW
namespace Go.Proofs.YtofafonppajfkaaDoor
open Go.RowKit

theorem kept_pair {w w' : World} {b g : Nat} {t : TypeId} {n u : Value} (h : Lib.OthersKept 5 (some b) w w') (hg : w.heap[g]? = some (.cells #[n, u] t (0, 0))) (hne : b ≠ g) (ht : t ≠ 5) : w'.heap[g]? = some (.cells #[n, u] t (0, 0)) := by
  refine h g _ hg (fun e => hne (Option.some.inj e).symm) ?_
  intro c f e
  injection e with _ e2 _
  exact ht e2
theorem pair_cell {w : World} {g : Nat} {t : TypeId} {n u : Value} (hg : w.heap[g]? = some (.cells #[n, u] t (0, 0))) : w.cell? ⟨g, 0, none⟩ = some n ∧ w.cell? ⟨g, 1, none⟩ = some u := by
  refine ⟨?_, ?_⟩ <;> rw [Lib.cell_of_heap hg] <;> rfl
theorem cells_app (a : List UInt8) (s : ByteArray) : Lib.byteCells a ++ Lib.strCells s = Lib.byteCells (a ++ s.data.toList) := by rw [Lib.byteCells_append]; rfl

set_option maxHeartbeats 4000000 in
set_option maxRecDepth 100000 in
theorem print_any (v : Value) (ls : List Fld) (w : World) (hf : Fl w v ls) (hm : Most maxLen ls) :
    Calls Tryd.prog 28 #[v] w fun e w' => e = .returned (.tuple #[.string ⟨(prtS ls).1.toArray⟩, .int .i64 (prtS ls).2]) ∧ Below w.heap.size w w' := by
  have HF : Hid (Fl w v ls) := hf
  have HM : Hid (Most maxLen ls) := hm
  clear hf hm
  by_cases hch : chk ls = 0
  · have HCH : Hid (chk ls = 0) := hch
    have HP : Hid (prtS ls = (prt ls ++ [13, 10], 0)) := prtS_ok ls hch
    clear hch
    obtain ⟨ad, cap, hv, hcap, hcm, _⟩ := HF.out
    subst hv
    have hl30 := (chk_zero ls HCH.out).1
    unfold maxLen at hcm
    go_enter Tryd.func28, Tryd.ntmps28
    go_wp2_with fail
    refine (check_any _ ls _ HF.out HM.out).mono ?_
    rintro e w1 ⟨rfl, hb1⟩
    have HF1 : Hid (Fl w1 (.slice ad ls.length cap) ls) := HF.out.below hb1
    have hsz1 := hb1.size
    rw [HCH.out]
    have hfr := Lib.fresh_isBuilder 54 5 w1
    have HB : Hid (Lib.IsBuilderF 54 5 w1.heap.size w1.heap.size [] (w1.alloc (.cells #[.pointer none, .slice none 0 0] 54))) := Lib.IsBuilderF.of hfr
    have HB1 : Hid (Below w1.heap.size w1 (w1.alloc (.cells #[.pointer none, .slice none 0 0] 54))) := (Below.refl _ w1).alloc (Nat.le_refl _) _
    clear hfr
    go_wp2_with fail
    go_loopw [15] (fun i wr => ∃ k : Nat, k ≤ ls.length ∧ i = .int .i64 k ∧ Lib.IsBuilderF 54 5 w1.heap.size w1.heap.size (Lib.byteCells (prt (ls.take k))) wr ∧ Below w1.heap.size w1 wr) (fun i _ => ls.length - (intOf i).toNat)
    case atStart => exact ⟨0, Nat.zero_le _, rfl, HB.out, HB1.out⟩
    case round =>
      obtain ⟨k, hk, rfl, hbu, hw⟩ := hrel
      have hsz := hw.size
      have hpl := prt_take_len ls HCH.out k
      have HBU : Hid (Lib.IsBuilderF 54 5 w1.heap.size w1.heap.size (Lib.byteCells (prt (ls.take k))) wr) := hbu
      clear hbu
      have hwl : w1.heap.size < wr.heap.size := by
        rcases HBU.out with h | h
        · exact h.lt
        · exact h.lt
      by_cases hlt : k < ls.length
      · obtain ⟨ad', cap', hv', _, _, hc'⟩ := HF1.out
        simp only [Value.slice.injEq] at hv'
        obtain ⟨rfl, _, rfl⟩ := hv'
        obtain ⟨g, off, rfl, hgs, hce⟩ := hc' (by omega)
        obtain ⟨c1, c2⟩ := hce k hlt
        have hsh := chk_short ls HCH.out ls[k] (List.getElem_mem hlt)
        obtain ⟨n, hn⟩ : ∃ n : ByteArray, n = ⟨(ls[k]).1.toArray⟩ := ⟨_, rfl⟩
        obtain ⟨u, hu⟩ : ∃ u : ByteArray, u = ⟨(ls[k]).2.toArray⟩ := ⟨_, rfl⟩
        have hns : n.size ≤ 30 := by rw [← size_list, hn]; exact hsh.1
        have hus : u.size ≤ 1000 := by rw [← size_list, hu]; exact hsh.2
        have HE : Hid (prt (ls.take (k + 1)) = prt (ls.take k) ++ n.data.toList ++ [58, 32] ++ u.data.toList ++ [13, 10]) := by
          show _ = _
          rw [prt_take ls k hlt, hn, hu]
          simp [ln]
        have d1 : wr.cell? ⟨g, off + k * 2, none⟩ = some (.string n) := by rw [hw.cell (p := ⟨g, off + k * 2, none⟩) hgs, hn]; exact c1
        have d2 : wr.cell? ⟨g, off + k * 2 + 1, none⟩ = some (.string u) := by rw [hw.cell (p := ⟨g, off + k * 2 + 1, none⟩) hgs, hu]; exact c2
        have hgr : g < wr.heap.size := by omega
        clear hce c1 c2 hsh hn hu hc'
        have hki : (k : Int) < (ls.length : Int) := by omega
        have hk0 : (0 : Int) ≤ (k : Int) := by omega
        have hp0 : (wr.alloc (.cells #[.string n, .string u] 72)).heap[wr.heap.size]? = some (.cells #[.string n, .string u] 72 (0, 0)) := heap_alloc_new _ _
        have HP0 : Hid ((wr.alloc (.cells #[.string n, .string u] 72)).heap[wr.heap.size]? = some (.cells #[.string n, .string u] 72 (0, 0))) := hp0
        have HW0 : Hid (Below w1.heap.size w1 (wr.alloc (.cells #[.string n, .string u] 72))) := hw.alloc (by omega) _
        clear hp0
        go_wp2_with fail
        refine (Tryd.Builder_WriteString_k w1.heap.size w1.heap.size _ n _ (HBU.out.alloc _) (by rw [Lib.byteCells_length]; omega) (by simp; omega)).mono ?_
        rintro e w2 ⟨rfl, hb2, hw2, hk2⟩
        have HP2 : Hid (w2.heap[wr.heap.size]? = some (.cells #[.string n, .string u] 72 (0, 0))) := kept_pair hk2 HP0.out (by omega) (by decide)
        have HW2 := HW0.out.trans hw2
        rw [cells_app] at hb2
        go_wp2_with fail
        refine (Tryd.Builder_WriteString_k w1.heap.size w1.heap.size _ _ _ (.inr hb2) (by rw [Lib.byteCells_length, List.length_append, size_list]; show _ + 2 ≤ _; omega) HW2.size).mono ?_
        rintro e w3 ⟨rfl, hb3, hw3, hk3⟩
        have HP3 : Hid (w3.heap[wr.heap.size]? = some (.cells #[.string n, .string u] 72 (0, 0))) := kept_pair hk3 HP2.out (by omega) (by decide)
        have HW3 := HW2.trans hw3
        have hcu := (pair_cell HP3.out).2
        rw [cells_app] at hb3
        clear hb2 hk2 hk3 HP2 HP0 hw2 hw3
        go_wp2_with fail
        refine (Tryd.Builder_WriteString_k w1.heap.size w1.heap.size _ u _ (.inr hb3) (by rw [Lib.byteCells_length, List.length_append, List.length_append, size_list]; show _ + 2 + _ ≤ _; omega) HW3.size).mono ?_
        rintro e w4 ⟨rfl, hb4, hw4, hk4⟩
        have HW4 := HW3.trans hw4
        rw [cells_app] at hb4
        clear hb3 hk4 HP3 hcu hw4
        go_wp2_with fail
        refine (Tryd.Builder_WriteString_k w1.heap.size w1.heap.size _ _ _ (.inr hb4) (by rw [Lib.byteCells_length, List.length_append, List.length_append, List.length_append, size_list, size_list]; show _ + 2 + _ + 2 ≤ _; omega) HW4.size).mono ?_
        rintro e w5 ⟨rfl, hb5, hw5, hk5⟩
        have HW5 := HW4.trans hw5
        rw [cells_app] at hb5
        have HB5 : Hid (Lib.IsBuilderF 54 5 w1.heap.size w1.heap.size (Lib.byteCells (prt (ls.take (k + 1)))) w5) := by
          show Lib.IsBuilderF _ _ _ _ _ _
          rw [HE.out]; exact .inr hb5
        clear hb4 hk5 hb5 hw5
        go_wp2_with fail
        go_roundw
        case rel => exact ⟨k + 1, by omega, by go_num, HB5.out, HW5⟩
        case measure => simp [intOf]; omega
      · have HEnd : Hid (ls.take k = ls) := List.take_of_length_le (by omega)
        go_wp2_with fail
        refine (Tryd.Builder_WriteString_k w1.heap.size w1.heap.size _ _ _ HBU.out (by rw [Lib.byteCells_length]; show _ + 2 ≤ _; omega) hsz).mono ?_
        rintro e w2 ⟨rfl, hb2, hw2, hk2⟩
        rw [cells_app] at hb2
        have HW2 := hw.trans hw2
        go_wp2_with fail
        refine (Tryd.Builder_String_any_f w1.heap.size w1.heap.size _ _ (.inr hb2) HW2.size).mono ?_
        rintro e w3 ⟨rfl, hw3⟩
        go_wp2_with fail
        go_ret2
        refine ⟨ret_se ?_ (by rw [HP.out]), hb1.trans ((HW2.trans hw3.2).mono hsz1)⟩
        rw [HP.out, HEnd.out]
  · have HP : Hid (prtS ls = ([], chk ls)) := prtS_bad ls hch
    obtain ⟨c, hc⟩ : ∃ c, c = chk ls := ⟨_, rfl⟩
    have HC : Hid (chk ls = c) := hc.symm
    have hcb : (c != 0) = true := by rw [hc]; simpa using hch
    clear hch hc
    go_enter Tryd.func28, Tryd.ntmps28
    go_wp2_with fail
    refine (check_any _ ls _ HF.out HM.out).mono ?_
    rintro e w1 ⟨rfl, hb1⟩
    rw [HC.out]
    go_wp2_with fail
    go_ret2
    exact ⟨ret_se (by rw [HP.out]) (by rw [HP.out, HC.out]), hb1⟩
end Go.Proofs.YtofafonppajfkaaDoor
