/-
  The walk through TokenJoins: it answers true and turns nothing that was there; the list of strings can be read.
-/
import Derived.Test.YthedmfbfolhaoabDoorSpecJ
import Derived.Test.YthedmfbfolhaoabDoorWTokens
import Derived.Test.YthedmfbfolhaoabDoorWTokenAgain
namespace Go.Proofs.YthedmfbfolhaoabDoor
open Go.RowKit

set_option maxHeartbeats 1000000 in
set_option maxRecDepth 100000 in
theorem rest_five (x : Int) (hx : (Lit.int .i64 x).wf = true) (w : World) :
    Calls Tryd.prog 11 #[.int .i64 x, .int .i64 5] w fun e w' => ∃ k : Nat, k < 5 ∧ e = .returned (.int .i64 (k : Int)) ∧ w' = w := by
  have hb : -9223372036854775808 ≤ x ∧ x ≤ 9223372036854775807 := by simpa [Lit.wf, IntKind.min, IntKind.max, IntKind.signed, IntKind.bits] using hx
  obtain ⟨hb1, hb2⟩ := hb
  have hm1 : -5 < x.tmod 5 := Int.lt_tmod_of_pos x (by omega)
  have hm2 : x.tmod 5 < 5 := Int.tmod_lt_of_pos x (by omega)
  clear hx
  go_enter Tryd.func11, Tryd.ntmps11
  go_wp2
  · have hneg : x.tmod 5 < 0 := by assumption
    go_ret
    exact ⟨(x.tmod 5 + 5).toNat, by omega, congrArg (fun y => Ending.returned (.int .i64 y)) (by simp; omega), rfl⟩
  · have hpos : 0 ≤ x.tmod 5 := by assumption
    go_ret
    exact ⟨(x.tmod 5).toNat, by omega, congrArg (fun y => Ending.returned (.int .i64 y)) (by simp; omega), rfl⟩

set_option maxHeartbeats 4000000 in
set_option maxRecDepth 100000 in
theorem walkTokenJoins (a0 : Option Addr) (n0 c0 : Nat) (l0 : List ByteArray) (a1 : Int) (w : World) (z0 : IsStrs w a0 n0 c0 l0) (z1 : (Lit.int .i64 a1).wf = true) :
    Calls Tryd.prog 4 #[.slice a0 n0 c0, .int .i64 a1] w fun e w' => e = .returned (.bool true) ∧ Below w.heap.size w w' := by
  obtain ⟨ts, hts⟩ : ∃ ts, ts = toks (elems n0 l0) 15 := ⟨_, rfl⟩
  have HTS : Hid (ts = toks (elems n0 l0) 15) := hts
  have hgood : ∀ t ∈ ts, token t = true ∧ t.length ≤ 30 := by
    intro t ht
    rw [hts] at ht
    have := toks_good _ _ t ht
    unfold good at this
    rw [Bool.and_eq_true, decide_eq_true_eq] at this
    exact this
  have hl : ts.length ≤ 15 := by rw [hts]; exact toks_len _ _
  have HG : Hid (∀ t ∈ ts, token t = true ∧ t.length ≤ 30) := hgood
  have HI : Hid (IsStrs w a0 n0 c0 l0) := z0
  have HW : Hid ((Lit.int .i64 a1).wf = true) := z1
  have HX : Hid (splitS (⟨#[120]⟩ : ByteArray).data.toList = ([[120]], 0)) := by show _ = _; rfl
  clear hts hgood z0 z1
  go_enter Tryd.func4, Tryd.ntmps4
  go_wp2_with fail
  refine (tokens_any _ _ _ _ 15 _ HI.out (by omega)).mono ?_
  rintro e w1 ⟨v, rfl, hown, hb⟩
  rw [← HTS.out] at hown
  obtain ⟨ad, cap, hv, hcm, hnc, _⟩ := own_slice hown
  subst hv
  unfold maxLen at hcm
  go_wp2_with fail
  refine (rest_five _ HW.out _).mono ?_
  rintro e w2 ⟨k, hk, rfl, rfl⟩
  have hbs := hb.size
  obtain ⟨g, hg, hgk⟩ : ∃ g : ByteArray, GapOk g.data.toList ∧ ∀ h : k < ([Value.string ⟨#[44]⟩, Value.string ⟨#[44, 32]⟩, Value.string ⟨#[32, 44, 9]⟩, Value.string ⟨#[44, 44]⟩, Value.string ⟨#[32, 44, 32, 44, 32]⟩] : List Value).length, ([Value.string ⟨#[44]⟩, Value.string ⟨#[44, 32]⟩, Value.string ⟨#[32, 44, 9]⟩, Value.string ⟨#[44, 44]⟩, Value.string ⟨#[32, 44, 32, 44, 32]⟩] : List Value)[k]'h = .string g := by
    rcases (show k = 0 ∨ k = 1 ∨ k = 2 ∨ k = 3 ∨ k = 4 from by omega) with rfl | rfl | rfl | rfl | rfl
    · exact ⟨⟨#[44]⟩, gap1, fun _ => rfl⟩
    · exact ⟨⟨#[44, 32]⟩, gap2, fun _ => rfl⟩
    · exact ⟨⟨#[32, 44, 9]⟩, gap3, fun _ => rfl⟩
    · exact ⟨⟨#[44, 44]⟩, gap4, fun _ => rfl⟩
    · exact ⟨⟨#[32, 44, 32, 44, 32]⟩, gap5, fun _ => rfl⟩
  have HGK : Hid (GapOk g.data.toList) := hg
  have hgs : g.size ≤ 5 := by rw [← size_list]; exact hg.1
  obtain ⟨hsp, hjl⟩ := split_gaps _ hg ts HG.out hl
  obtain ⟨J, hJ⟩ : ∃ J : ByteArray, J.data.toList = Lib.join ts g.data.toList := ⟨⟨(Lib.join ts g.data.toList).toArray⟩, rfl⟩
  have HJ : Hid (J.data.toList = Lib.join ts g.data.toList) := hJ
  have hJs : J.size ≤ 600 := by rw [← size_list, hJ]; exact hjl
  have HSP : Hid (splitS (g ++ J ++ g).data.toList = (ts, 0)) := by
    show _ = _
    rw [ByteArray.data_append, ByteArray.data_append, Array.toList_append, Array.toList_append, hJ]
    exact hsp
  clear hg hsp hjl hJ
  go_wp2_with fail
  try simp only [hgk]
  clear hgk
  have hown2 := hown.alloc (.cells #[Value.string ⟨#[44]⟩, Value.string ⟨#[44, 32]⟩, Value.string ⟨#[32, 44, 9]⟩, Value.string ⟨#[44, 44]⟩, Value.string ⟨#[32, 44, 32, 44, 32]⟩] 9)
  have hb2 := hb.alloc hb.size (.cells #[Value.string ⟨#[44]⟩, Value.string ⟨#[44, 32]⟩, Value.string ⟨#[32, 44, 9]⟩, Value.string ⟨#[44, 44]⟩, Value.string ⟨#[32, 44, 32, 44, 32]⟩] 9)
  have hb2s := hb2.size
  refine (join_at _ ts _ g J HJ.out _ hown2 (by omega) (by omega)).mono ?_
  rintro e w3 ⟨rfl, hb3⟩
  have hown3 := own_below2 hown2 hb3
  have hb4 := hb2.trans (hb3.mono hb2s)
  clear hown hown2 hb hb2 hb3
  go_wp2_with fail
  refine (split_any _ _).mono ?_
  rintro e w4 ⟨v4, rfl, hown4, hb5⟩
  rw [HSP.out] at hown4 ⊢
  have hown5 := own_below2 hown3 hb5
  have hb6 := hb4.trans (hb5.mono hb4.size)
  clear hown3 hb4 hb5
  go_wp2_with fail
  refine (split_any ⟨#[120]⟩ _).mono ?_
  rintro e w5 ⟨v5, rfl, hown6, hb7⟩
  rw [show splitS (⟨#[120]⟩ : ByteArray).data.toList = ([[120]], 0) from HX.out] at hown6 ⊢
  have hown7 := own_below2 hown5 hb7
  have hown8 := own_below2 hown4 hb7
  have hb8 := hb6.trans (hb7.mono hb6.size)
  clear hown4 hown5 hb6 hb7
  go_wp2_with fail
  refine (eqS_same _ _ ts _ _ _ _ (by omega) hown8 hown7).mono ?_
  rintro e w6 ⟨rfl, rfl⟩
  go_wp2_with fail
  have hlit : (w6.alloc (.cells #[.string ⟨#[120]⟩] 9)).ownsRow w6.heap.size 9 1 (.slice (some ⟨w6.heap.size, 0, none⟩) 1 1) 1 (strs [[120]]) :=
    World.ownsRow_lit w6 #[.string ⟨#[120]⟩] 1 (Nat.le_refl _) (by unfold maxLen; omega) rfl
  refine (eqS_same _ _ [[120]] _ _ _ _ (by simp) (hown6.alloc _) hlit).mono ?_
  rintro e w7 ⟨rfl, rfl⟩
  go_wp2_with fail
  go_ret
  exact ⟨rfl, hb8.alloc hb8.size _⟩
end Go.Proofs.YthedmfbfolhaoabDoor
