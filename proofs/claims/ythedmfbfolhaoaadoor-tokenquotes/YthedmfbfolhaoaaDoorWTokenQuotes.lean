/-
  The walk through TokenQuotes: it answers true and turns nothing that was there; the package variable that the library reads holds some number.
-/
import Derived.Test.YthedmfbfolhaoaaDoorWRQuote
namespace Go.Proofs.YthedmfbfolhaoaaDoor
open Go.RowKit

set_option maxHeartbeats 400000 in
set_option maxRecDepth 100000 in
theorem walkTokenQuotes (a0 : ByteArray) (z0 : a0.size ≤ 140737488351232) (w : World) (hm : ∃ m, w.cell? ⟨0, 0, none⟩ = some (.int .i64 m)) :
    Calls Tryd.prog 3 #[.string a0] w fun e w' => e = .returned (.bool true) ∧ Below w.heap.size w w' := by
  obtain ⟨m, hm⟩ := hm
  obtain ⟨t, n, hu⟩ : ∃ (t : ByteArray) (n : Int), qt a0.data.toList = (t.data.toList, n) := ⟨⟨(qt a0.data.toList).1.toArray⟩, (qt a0.data.toList).2, rfl⟩
  have HU : Hid (qt a0.data.toList = (t.data.toList, n)) := hu
  have HM : Hid (w.cell? ⟨0, 0, none⟩ = some (.int .i64 m)) := hm
  have HZ : Hid (a0.size ≤ maxLen) := by show a0.size ≤ maxLen; unfold maxLen; omega
  clear hu hm
  go_enter Tryd.func3, Tryd.ntmps3
  go_wp2_with fail
  refine (quote_at _ t n HU.out _).mono ?_
  rintro e w1 ⟨rfl, hb⟩
  have HM1 : Hid (w1.cell? ⟨0, 0, none⟩ = some (.int .i64 m)) := below_keep hb HM.out
  go_wp2_with fail
  refine (rquote_at _ t n HU.out m _ HM1.out HZ.out).mono ?_
  rintro e w2 ⟨rfl, hb2⟩
  go_wp2_with fail
  go_ret
  exact ⟨ret_bool (by simp), hb.trans (hb2.mono hb.size)⟩
end Go.Proofs.YthedmfbfolhaoaaDoor
