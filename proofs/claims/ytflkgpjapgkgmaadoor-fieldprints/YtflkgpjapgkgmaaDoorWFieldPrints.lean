/-
  The walk through FieldPrints: it answers true and turns nothing that was there.
-/
import Derived.Test.YtflkgpjapgkgmaaDoorWPrint
import Derived.Test.YtflkgpjapgkgmaaDoorWRPrint
namespace Go.Proofs.YtflkgpjapgkgmaaDoor
open Go.RowKit

theorem print_at (t : ByteArray) (c : Int) (v : Value) (ls : List Fld) (h : prtS ls = (t.data.toList, c)) (w : World) (hf : Fl w v ls) (hm : Most maxLen ls) :
    Calls Tryd.prog 9 #[v] w fun e w' => e = .returned (.tuple #[.string t, .int .i64 c]) ∧ Below w.heap.size w w' := by
  have := print_any v ls w hf hm
  rw [h] at this
  exact this
theorem rprint_at (t : ByteArray) (c : Int) (v : Value) (ls : List Fld) (h : prtS ls = (t.data.toList, c)) (w : World) (hf : Fl w v ls) (hm : Most maxLen ls) :
    Calls Tryd.prog 10 #[v] w fun e w' => e = .returned (.tuple #[.string t, .int .i64 c]) ∧ Below w.heap.size w w' := by
  have := rprint_any v ls w hf hm
  rw [h] at this
  exact this

set_option maxHeartbeats 1000000 in
set_option maxRecDepth 100000 in
theorem walkFieldPrints (a0 : Value) (l0 : List Fld) (w : World) (z0 : Fl w a0 l0) (m0 : Most maxLen l0) :
    Calls Tryd.prog 4 #[a0] w fun e w' => e = .returned (.bool true) ∧ Below w.heap.size w w' := by
  have HZ : Hid (Fl w a0 l0) := z0
  have HM : Hid (Most maxLen l0) := m0
  clear z0 m0
  obtain ⟨t, c, hp⟩ : ∃ (t : ByteArray) (c : Int), prtS l0 = (t.data.toList, c) := ⟨⟨(prtS l0).1.toArray⟩, (prtS l0).2, rfl⟩
  have HP : Hid (prtS l0 = (t.data.toList, c)) := hp
  clear hp
  go_enter Tryd.func4, Tryd.ntmps4
  go_wp2_with fail
  refine (print_at t c _ l0 HP.out _ HZ.out HM.out).mono ?_
  rintro e w1 ⟨rfl, hb1⟩
  go_wp2_with fail
  refine (rprint_at t c _ l0 HP.out _ (HZ.out.below hb1) HM.out).mono ?_
  rintro e w2 ⟨rfl, hb2⟩
  have hbb := hb1.trans (hb2.mono hb1.size)
  go_wp2_with fail
  go_ret
  exact ⟨ret_bool (by simp), hbb⟩
end Go.Proofs.YtflkgpjapgkgmaaDoor
