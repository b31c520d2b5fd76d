/-
  The walk through FieldParses: it answers true and turns nothing that was there; the text has at most 1048576 bytes, and the package variable that the library reads holds some number.
-/
import Derived.Test.YtpkaajjkadillaaDoorWRParse2
import Derived.Test.YtpkaajjkadillaaDoorWEqF
namespace Go.Proofs.YtpkaajjkadillaaDoor
open Go.RowKit

set_option maxHeartbeats 1000000 in
set_option maxRecDepth 100000 in
theorem walkFieldParses (a0 : ByteArray) (w : World) (z0 : a0.size ≤ 1048576) (hm : ∃ m, w.cell? ⟨0, 0, none⟩ = some (.int .i64 m)) :
    Calls Tryd.prog 3 #[.string a0] w fun e w' => e = .returned (.bool true) ∧ Below w.heap.size w w' := by
  obtain ⟨m, hm⟩ := hm
  have HM : Hid (w.cell? ⟨0, 0, none⟩ = some (.int .i64 m)) := hm
  clear hm
  go_enter Tryd.func3, Tryd.ntmps3
  go_wp2_with fail
  refine (parse_any a0 m _ HM.out (by omega)).mono ?_
  rintro e w1 ⟨v, rfl, hown, hb1⟩
  have HF : Hid (Fl w1 v (parS a0.data.toList []).1) := Fl.own hown
  have HM1 : Hid (w1.cell? ⟨0, 0, none⟩ = some (.int .i64 m)) := cell_keep hb1 HM.out
  clear hown
  obtain ⟨nn, hnn⟩ : ∃ nn, nn = parN a0.data.toList := ⟨_, rfl⟩
  have HNN : Hid (parN a0.data.toList = nn) := hnn.symm
  obtain ⟨cc, hcc⟩ : ∃ cc, cc = (parS a0.data.toList []).2.2 := ⟨_, rfl⟩
  have HCC : Hid ((parS a0.data.toList []).2.2 = cc) := hcc.symm
  clear hnn hcc
  rw [HNN.out, HCC.out]
  go_wp2_with fail
  refine (rparse_any a0 m _ HM1.out (by omega)).mono ?_
  rintro e w2 ⟨v2, rfl, hown2, hb2⟩
  have HF2 : Hid (Fl w2 v2 (parS a0.data.toList []).1) := Fl.own hown2
  have HF1 : Hid (Fl w2 v (parS a0.data.toList []).1) := HF.out.below hb2
  have hbb := hb1.trans (hb2.mono hb1.size)
  clear hown2 hb2 hb1
  rw [HNN.out, HCC.out]
  go_wp2_with fail
  refine (eqF_same _ _ _ _ HF1.out HF2.out).mono ?_
  rintro e w3 ⟨rfl, hb3⟩
  have hbb3 := hbb.trans (hb3.mono hbb.size)
  go_wp2_with fail
  go_ret
  exact ⟨ret_bool (by simp), hbb3⟩
end Go.Proofs.YtpkaajjkadillaaDoor
