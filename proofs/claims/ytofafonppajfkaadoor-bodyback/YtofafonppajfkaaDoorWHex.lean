/-
  What strconv.FormatInt computes in base 16 of numbers below 65536; the listed table of package math/bits holds what its text lays.
-/
import Derived.Test.YtofafonppajfkaaDoorSpecHx
import Derived.Test.YtofafonppajfkaaDoorSpecF
import Derived.Test.YtofafonppajfkaaDoorWSTabs
import Derived.Lib.ItoaMem
import Derived.Laws.BitsAllLaws
import Derived.Laws.Rows
namespace Go.Proofs.YtofafonppajfkaaDoor
open Go.RowKit Go.Lib

def bruijn : List Int := [0, 1, 56, 2, 57, 49, 28, 3, 61, 58, 42, 50, 38, 29, 17, 4, 62, 47, 59, 36, 45, 43, 51, 22, 53, 39, 33, 30, 24, 18, 12, 5, 63, 55, 48, 27, 60, 41, 37, 16, 46, 35, 44, 21, 52, 32, 23, 11, 54, 26, 40, 15, 34, 20, 31, 10, 25, 14, 19, 9, 13, 8, 7, 6]
/-- The one place of the table that base 16 reads. -/
def HTab (w : World) : Prop := w.cell? ⟨5, 15, none⟩ = some (.int .u8 4)
theorem HTab.below {w w' : World} (h : HTab w) (hb : Below w.heap.size w w') : HTab w' := cell_keep hb h

theorem htab_of {l : List (String × DataW Unit)} (w : World) (h : laidMet Tryd.prog l w) (h1 : ("math/bits.deBruijn64tab", Rows.laid_math_bits_deBruijn64tab) ∈ l) : HTab w := by
  have r : VarReads Tryd.prog w "math/bits.deBruijn64tab" Rows.laid_math_bits_deBruijn64tab := laidMet.reads h h1
  rw [show (Rows.laid_math_bits_deBruijn64tab : DataW Unit) = tabData .u8 bruijn from by kernel_rfl] at r
  have hg : Tryd.prog.globalNamed "math/bits.deBruijn64tab" = some 5 := by kernel_rfl
  have ht : TabIs Tryd.prog w "math/bits.deBruijn64tab" .u8 bruijn := by
    obtain ⟨g', t', cs, fuel, p, hg', ht', hv, hd⟩ := r
    obtain rfl := Option.some.inj (hg.symm.trans hg')
    obtain rfl := Option.some.inj ((show (Tryd.prog.globals[5]?).map (·.type) = some 151 by kernel_rfl).symm.trans ht')
    unfold TabIs
    rw [hv, ← cells_of_tab Tryd.underlying151 Tryd.underlying5 (by kernel_rfl) (by kernel_rfl) hd]
  exact ht.cell hg 15 (by decide)
set_option maxRecDepth 100000 in
theorem tz64_at (w : World) (h : HTab w) : Calls Tryd.prog 134 #[.int .u64 16] w fun e w' => e = .returned (.int .i64 4) ∧ w' = w := by
  unfold HTab at h
  have e1 : bits BinOp.and IntKind.u64 16 (IntKind.u64.wrap (-16)) = 16 := by decide +kernel
  have e2 : IntKind.u64.wrap 4573923408821661840 = 4573923408821661840 := by decide +kernel
  go_enter Tryd.func134, Tryd.ntmps134
  go_wp2
  go_ret
  exact ⟨rfl, rfl⟩
set_option maxRecDepth 100000 in
theorem tz_at (w : World) (h : HTab w) : Calls Tryd.prog 121 #[.int .u64 16] w fun e w' => e = .returned (.int .i64 4) ∧ w' = w := by
  go_enter Tryd.func121, Tryd.ntmps121
  go_wp2_with fail
  refine (tz64_at _ h).mono ?_
  rintro e w' ⟨rfl, rfl⟩
  go_wp2_with fail
  go_ret
  exact ⟨rfl, rfl⟩
set_option maxRecDepth 100000 in
theorem pow2_at (w : World) : Calls Tryd.prog 120 #[.int .i64 16] w fun e w' => e = .returned (.bool true) ∧ w' = w := by
  go_enter Tryd.func120, Tryd.ntmps120
  go_wp2
  go_ret
  exact ⟨rfl, rfl⟩
theorem hx_idx (d : Nat) (h : d < 16) (z : Int) (hz : z = (d : Int)) (k : IntKind) (w : World) : (Instr.index 9 (.string Lib.digits36) (.int k z)).run Tryd.prog w = .ok (.int .u8 ((hx d).toNat : Int)) w := by
  subst hz
  rw [run_index_string w 9 Lib.digits36 k _ Tryd.underlying9, dif_pos ⟨by omega, by rw [Lib.digits36_size]; omega⟩]
  have e : ((d : Int)).toNat = d := by omega
  have key : ∀ n : Fin 16, Lib.digits36.data.toList.getD n.val 0 = hx n.val := by decide +kernel
  simp only [e]
  rw [Lib.getD_at Lib.digits36 d (by rw [Lib.digits36_size]; omega)]
  exact congrArg (fun x : UInt8 => Result.ok (Value.int .u8 (x.toNat : Int)) w) (key ⟨d, h⟩)
theorem cells_in {w : World} {g i : Nat} {cs : Array Value} {t : TypeId} (h : w.heap[g]? = some (.cells cs t (0, 0))) : w.cell? ⟨g, i, none⟩ = cs[i]? ∧ w.frozen? ⟨g, i, none⟩ = false := by
  constructor
  · simp [World.cell?, h]
  · simp [World.frozen?, h]
theorem and15 (v : Nat) (h : v < 65536) : bits BinOp.and IntKind.u64 (v : Int) 15 = ((v % 16 : Nat) : Int) := by
  have h1 := u64_and_nat v 15 (by omega) (by omega)
  have h2 : v &&& 15 = v % 16 := Nat.and_two_pow_sub_one_eq_mod v 4
  rw [h2] at h1; exact h1
set_option maxHeartbeats 4000000 in
set_option maxRecDepth 100000 in
theorem fmtBits_at (u : Nat) (hu : u < 65536) (w : World) (h : HTab w) :
    Calls Tryd.prog 93 #[.slice none 0 0, .int .u64 (u : Int), .int .i64 16, .bool false, .bool false] w fun e w' => e = .returned (.tuple #[.slice none 0 0, .string ⟨(hexd u).toArray⟩]) ∧ Below w.heap.size w w' := by
  have HT : Hid (HTab w) := h
  clear h
  go_enter Tryd.func93, Tryd.ntmps93
  go_name_bytes_deep 39 MS hMS
  clear hMS
  go_name_bytes_deep 30 DG hDG
  have eDG : DG = Lib.digits36 := by rw [← hDG]; decide +kernel
  subst eDG
  clear hDG
  go_wp2_with fail
  refine (pow2_at _).mono ?_
  rintro e w1 ⟨rfl, rfl⟩
  go_wp2_with fail
  have hw1 : Below w.heap.size w (w.alloc (.cells Tryd.zeroCells125 125)) := (Below.refl _ w).alloc (Nat.le_refl _) _
  refine (tz_at _ (HT.out.below hw1)).mono ?_
  rintro e w2 ⟨rfl, rfl⟩
  have mixed : Tryd.prog.follows Departure.mixedOrders = true := by kernel_rfl
  have hal : Tryd.prog.arrayLen 125 = 65 := by kernel_rfl
  go_wp2_with fail
  go_loopw [1, 13] (fun vu vi wr => ∃ (k v : Nat) (D : List UInt8) (cs : Array Value), vu = .int .u64 (v : Int) ∧ vi = .int .i64 ((k : Int) + 1) ∧ k + D.length = 64 ∧ hexd u = hexd v ++ D ∧ v < 65536 ∧ wr.heap[w.heap.size]? = some (.cells cs 125 (0, 0)) ∧ cs.size = 65 ∧ (∀ (j : Nat) (h : j < D.length), cs[k + 1 + j]? = some (.int .u8 ((D[j]).toNat : Int))) ∧ Below w.heap.size w wr) (fun vu _ _ => (RowKit.intOf vu).toNat)
  case atStart => exact ⟨64, u, [], _, rfl, rfl, rfl, by simp, hu, heap_alloc_new _ _, by kernel_rfl, fun j h => absurd h (by simp), hw1⟩
  case round =>
    obtain ⟨k, v, D, cs, rfl, rfl, hkD, hD, hv, hg, hcs, hcd, hw⟩ := hrel
    rename World => wr
    have HD : Hid (hexd u = hexd v ++ D) := hD
    have HG : Hid (wr.heap[w.heap.size]? = some (.cells cs 125 (0, 0))) := hg
    have HC : Hid (∀ (j : Nat) (h : j < D.length), cs[k + 1 + j]? = some (.int .u8 ((D[j]).toNat : Int))) := hcd
    have hlen := hexd_len u hu
    have hl1 := hexd_pos v
    have hl2 := congrArg List.length hD
    rw [List.length_append] at hl2
    have hk64 : k ≤ 64 := by omega
    have hk61 : 61 ≤ k := by omega
    obtain ⟨x0, hx0⟩ : ∃ x, cs[k]? = some x := ⟨cs[k]'(by omega), Array.getElem?_eq_getElem (by omega)⟩
    have hcell : wr.cell? ⟨w.heap.size, k, none⟩ = some x0 := by rw [(cells_in hg).1, hx0]
    have hfr : wr.frozen? ⟨w.heap.size, k, none⟩ = false := (cells_in hg).2
    clear hD hg hcd hlen hl1 hl2 hx0
    by_cases h16 : v < 16
    · have hix : ∀ w, (Instr.index 9 (.string Lib.digits36) (.int .u64 (v : Int))).run Tryd.prog w = .ok (.int .u8 ((hx v).toNat : Int)) w := fun w => hx_idx v h16 _ rfl _ w
      have hi16 : ¬ (16 : Int) ≤ (v : Int) := by omega
      have hsl : ∀ W, (Instr.sliceAt 125 (.pointer (some ⟨w.heap.size, 0, none⟩)) (some (.int .i64 (k : Int))) none none).run Tryd.prog W = .ok (.slice (some ⟨w.heap.size, k, none⟩) (hexd u).length (65 - k)) W := fun W => by
        have hlu : (hexd u).length = 65 - k := by rw [HD.out, hexd_one v h16, List.length_append, List.length_singleton]; omega
        rw [run_sliceAt_array_l W 125 ⟨w.heap.size, 0, none⟩ (by simp [Program.arrayLen, Program.elem, Tryd.underlying125]) .i64 (k : Int) (by omega) (by rw [hal]; omega), hal, hlu]
        go_simp
        omega
      have hcv : (convert 52 9 (.slice (some ⟨w.heap.size, k, none⟩) (hexd u).length (65 - k))).run Tryd.prog (wr.setCell ⟨w.heap.size, k, none⟩ (.int .u8 ((hx v).toNat : Int))) = .ok (.string ⟨(hexd u).toArray⟩) (wr.setCell ⟨w.heap.size, k, none⟩ (.int .u8 ((hx v).toNat : Int))) := by
        refine run_convert_bytes_back (P := Tryd.prog) _ 52 9 5 ⟨w.heap.size, k, none⟩ (65 - k) (hexd u) Tryd.underlying52 Tryd.underlying5 Tryd.underlying9 (fun j hj => ?_)
        rw [Lib.add_plain, (cells_in (heap_setCell_same wr w.heap.size k cs _ (.int .u8 ((hx v).toNat : Int)) HG.out)).1]
        have e : hexd u = hx v :: D := by rw [HD.out, hexd_one v h16]; rfl
        cases j with
        | zero =>
          simp only [e, List.getElem_cons_zero, Nat.add_zero]
          rw [Array.getElem?_setIfInBounds_self_of_lt (by omega)]
        | succ i =>
          have hi : i < D.length := by rw [e] at hj; simpa using hj
          simp only [e, List.getElem_cons_succ]
          rw [Array.getElem?_setIfInBounds_ne (by omega), show k + (i + 1) = k + 1 + i by omega]
          exact HC.out i hi
      have hwe := hw.setCell (p := ⟨w.heap.size, k, none⟩) (Nat.le_refl _) (.int .u8 ((hx v).toNat : Int))
      clear hal
      go_wp2_with fail
      go_ret2
      exact ⟨rfl, hwe⟩
    · have hix : ∀ w, (Instr.index 9 (.string Lib.digits36) (.int .u64 (bits BinOp.and IntKind.u64 (v : Int) 15))).run Tryd.prog w = .ok (.int .u8 ((hx (v % 16)).toNat : Int)) w := fun w => hx_idx (v % 16) (by omega) _ (and15 v hv) _ w
      have hi16 : (16 : Int) ≤ (v : Int) := by omega
      go_wp2_with fail
      go_roundw
      case rel =>
        refine ⟨k - 1, v / 16, hx (v % 16) :: D, cs.setIfInBounds k (.int .u8 ((hx (v % 16)).toNat : Int)), by go_num, by go_num, by rw [List.length_cons]; omega, by rw [HD.out, hexd_step v h16, List.append_assoc]; rfl, by omega, heap_setCell_same wr w.heap.size k cs _ _ HG.out, by rw [Array.size_setIfInBounds]; exact hcs, fun j hj => ?_, hw.setCell (p := ⟨w.heap.size, k, none⟩) (Nat.le_refl _) _⟩
        cases j with
        | zero =>
          rw [show k - 1 + 1 + 0 = k by omega, Array.getElem?_setIfInBounds_self_of_lt (by omega)]; rfl
        | succ i =>
          have hi : i < D.length := by simpa using hj
          rw [Array.getElem?_setIfInBounds_ne (by omega), show k - 1 + 1 + (i + 1) = k + 1 + i by omega]
          exact HC.out i hi
      case measure => simp [RowKit.intOf]; omega
set_option maxHeartbeats 1000000 in
set_option maxRecDepth 100000 in
theorem fmtI_at (u : Nat) (hu : u < 65536) (w : World) (h : HTab w) :
    Calls Tryd.prog 71 #[.int .i64 (u : Int), .int .i64 16] w fun e w' => e = .returned (.string ⟨(hexd u).toArray⟩) ∧ Below w.heap.size w w' := by
  have HT : Hid (HTab w) := h
  clear h
  go_enter Tryd.func71, Tryd.ntmps71
  go_wp2_with fail
  refine (fmtBits_at u hu _ HT.out).mono ?_
  rintro e w1 ⟨rfl, hb⟩
  go_wp2_with fail
  go_ret
  exact ⟨rfl, hb⟩
set_option maxHeartbeats 1000000 in
set_option maxRecDepth 100000 in
theorem fmtInt_at (u : Nat) (hu : u < 65536) (w : World) (h : HTab w) :
    Calls Tryd.prog 47 #[.int .i64 (u : Int), .int .i64 16] w fun e w' => e = .returned (.string ⟨(hexd u).toArray⟩) ∧ Below w.heap.size w w' := by
  have HT : Hid (HTab w) := h
  clear h
  go_enter Tryd.func47, Tryd.ntmps47
  go_wp2_with fail
  refine (fmtI_at u hu _ HT.out).mono ?_
  rintro e w1 ⟨rfl, hb⟩
  go_wp2_with fail
  go_ret
  exact ⟨rfl, hb⟩
end Go.Proofs.YtofafonppajfkaaDoor
