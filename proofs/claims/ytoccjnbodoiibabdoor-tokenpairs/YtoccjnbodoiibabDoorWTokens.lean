/-
  What the function tokens of package larderkeep computes: the tokens of a list of strings that have at most 30 bytes, at most so many of them.
-/
import Derived.Test.YtoccjnbodoiibabDoorSpecA
import Derived.Test.YtoccjnbodoiibabDoorWTok
import Derived.Test.YtoccjnbodoiibabDoorWCut
import Derived.Test.YtoccjnbodoiibabDoorOwn
namespace Go.Proofs.YtoccjnbodoiibabDoor
open Go.RowKit

theorem ba_self (s : ByteArray) : (⟨s.data.toList.toArray⟩ : ByteArray) = s := rfl

set_option maxHeartbeats 2000000 in
set_option maxRecDepth 100000 in
theorem tokens_any (a : Option Addr) (n c : Nat) (ss : List ByteArray) (m : Nat) (w : World) (h : IsStrs w a n c ss) (hm : m ≤ 1000) :
    Calls Tryd.prog 8 #[.slice a n c, .int .i64 (m : Int)] w fun e w' => ∃ v, e = .returned v ∧ w'.ownsRow w.heap.size 9 1 v (toks (elems n ss) m).length (strs (toks (elems n ss) m)) ∧ Below w.heap.size w w' := by
  obtain ⟨i0, hi, hz0, hz1, hz2⟩ := info_parts info9
  obtain ⟨hnc, hcm, hsl⟩ := h.le
  unfold maxLen at hcm
  have HI : Hid (IsStrs w a n c ss) := h
  have HSL : Hid (ss.length = c) := hsl
  clear h hsl
  go_enter Tryd.func8, Tryd.ntmps8
  go_wp2_with fail
  go_loopw [5, 10] (fun v i wr => ∃ k : Nat, k ≤ n ∧ i = .int .i64 k ∧ wr.ownsRow w.heap.size 9 1 v (toks ((elems n ss).take k) m).length (strs (toks ((elems n ss).take k) m)) ∧ Below w.heap.size w wr) (fun _ i _ => n - (intOf i).toNat)
  case atStart => exact ⟨0, by omega, rfl, by simpa [toks, strs] using World.ownsRow_nil w w.heap.size 9 1, Below.refl _ _⟩
  case round =>
    obtain ⟨k, hk, rfl, hown, hw⟩ := hrel
    have hsz := hw.size
    have htl := toks_len ((elems n ss).take k) m
    by_cases hlt : k < n
    · obtain ⟨b, off, rfl, hbs, hce, hes⟩ := HI.out.cell k hlt
      have HEA := elems_at n ss k hlt (by rw [HSL.out]; exact hnc)
      obtain ⟨u, hu⟩ : ∃ u : ByteArray, u = ss.getD k ByteArray.empty := ⟨_, rfl⟩
      rw [← hu] at hce hes HEA
      have HTM : Hid ((elems n ss).take (k + 1) = (elems n ss).take k ++ [u.data.toList]) := take_more _ _ _ HEA
      have hcell : wr.cell? ⟨b, off + k, none⟩ = some (.string u) := (hw.cell (p := ⟨b, off + k, none⟩) hbs).trans hce
      have HES : Hid (u.size ≤ maxLen) := hes
      unfold maxLen at hes
      clear hce hu HEA
      obtain ⟨ad, cap, hv, hcm2, hnc2, _⟩ := own_slice hown
      subst hv
      unfold maxLen at hcm2
      cases htk : token u.data.toList
      · have HTK : Hid (token u.data.toList = false) := htk
        have HN : Hid (toks ((elems n ss).take (k + 1)) m = toks ((elems n ss).take k) m) := by
          show _ = _; rw [HTM.out]; exact toks_bad _ _ _ (by unfold good; rw [htk]; rfl)
        clear htk
        go_wp2_with fail
        refine (isToken_any _ _ HES.out).mono ?_
        rintro e w1 ⟨rfl, rfl⟩
        rw [HTK.out]
        go_wp2_with fail
        go_roundw
        case rel => exact ⟨k + 1, by omega, by go_num, by rw [HN.out]; exact hown, hw⟩
        case measure => simp [intOf]; omega
      · have HTK : Hid (token u.data.toList = true) := htk
        by_cases h30 : (u.size : Int) ≤ 30
        · have HG : Hid (good u.data.toList = true) := by show _ = _; unfold good; rw [htk, size_list, decide_eq_true (by omega)]; rfl
          have hd30 : decide ((u.size : Int) ≤ 30) = true := decide_eq_true h30
          by_cases hfu : ((toks ((elems n ss).take k) m).length : Int) < (m : Int)
          · have hdf : decide (((toks ((elems n ss).take k) m).length : Int) < (m : Int)) = true := decide_eq_true hfu
            have HN : Hid (toks ((elems n ss).take (k + 1)) m = toks ((elems n ss).take k) m ++ [u.data.toList]) := by
              show _ = _; rw [HTM.out]; exact toks_yes _ _ _ HG.out (by omega)
            clear htk
            go_wp2_with fail
            refine (isToken_any _ _ HES.out).mono ?_
            rintro e w1 ⟨rfl, rfl⟩
            rw [HTK.out]
            go_wp2_with (at_builtin; refine wpList_append_own _ rfl _ _ 30 rfl w.heap.size 9 i0 (.string ⟨#[]⟩) 1 16 Tryd.underlying30 hi hz0 hz1 hz2 rfl (by decide) _ _ _ rfl (hown.alloc _) ⟨w1.heap.size, 0, none⟩ 1 1 [.string u] rfl rfl ?c1 ?c2 ?c3 ?c4 ?c5 ?_)
            case c1 => exact one_cell _ _ _
            case c2 => intro x hx; simp at hx; subst hx; rfl
            case c3 => unfold maxLen; omega
            case c4 => omega
            case c5 => simp; omega
            · intro v' w4 hown' hgrow _
              have hB : Below w.heap.size w w4 := (hw.alloc (by omega) _).grown hgrow (by simp; omega) (fun b hb => ((hown.alloc (.cells #[.string u] 9)).lt b hb).1)
              have hown4 : w4.ownsRow w.heap.size 9 1 v' (toks ((elems n ss).take (k + 1)) m).length (strs (toks ((elems n ss).take (k + 1)) m)) := by
                rw [HN.out, ← strs_snoc, List.length_append, ba_self]; exact hown'
              clear hown' hgrow hown hw
              go_wp2_with fail
              go_roundw
              case rel => exact ⟨k + 1, by omega, by go_num, hown4, hB⟩
              case measure => simp [intOf]; omega
          · have hdf : decide (((toks ((elems n ss).take k) m).length : Int) < (m : Int)) = false := decide_eq_false hfu
            have HN : Hid (toks ((elems n ss).take (k + 1)) m = toks ((elems n ss).take k) m) := by
              show _ = _; rw [HTM.out]; exact toks_full _ _ _ (by omega)
            clear htk
            go_wp2_with fail
            refine (isToken_any _ _ HES.out).mono ?_
            rintro e w1 ⟨rfl, rfl⟩
            rw [HTK.out]
            go_wp2_with fail
            go_roundw
            case rel => exact ⟨k + 1, by omega, by go_num, by rw [HN.out]; exact hown, hw⟩
            case measure => simp [intOf]; omega
        · have hd30 : decide ((u.size : Int) ≤ 30) = false := decide_eq_false h30
          have HN : Hid (toks ((elems n ss).take (k + 1)) m = toks ((elems n ss).take k) m) := by
            show _ = _; rw [HTM.out]; exact toks_bad _ _ _ (by unfold good; rw [size_list, decide_eq_false (by omega), Bool.and_false])
          clear htk
          go_wp2_with fail
          refine (isToken_any _ _ HES.out).mono ?_
          rintro e w1 ⟨rfl, rfl⟩
          rw [HTK.out]
          go_wp2_with fail
          go_roundw
          case rel => exact ⟨k + 1, by omega, by go_num, by rw [HN.out]; exact hown, hw⟩
          case measure => simp [intOf]; omega
    · obtain rfl : k = n := by omega
      rw [List.take_of_length_le (by rw [elems_len _ _ (by rw [HSL.out]; exact hnc)]; exact Nat.le_refl _)] at hown
      go_wp2_with fail
      go_ret
      exact ⟨_, rfl, hown, hw⟩
end Go.Proofs.YtoccjnbodoiibabDoor
