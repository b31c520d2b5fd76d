/-
  What trim of package token and strings.Clone compute; a text is no longer than Go allows.
-/
import Derived.Test.YtfeikdplfjikeaaDoorSpecT
import Derived.Test.YtfeikdplfjikeaaDoorShelf
import Derived.Test.YtfeikdplfjikeaaDoorRows
namespace Go.Proofs.YtfeikdplfjikeaaDoor
open Go.RowKit

set_option maxRecDepth 100000 in
theorem trim_at (s t : ByteArray) (ht : t.data.toList = trimL s.data.toList) (w : World) (hs : s.size ≤ 100000) :
    Calls Tryd.prog 19 #[.string s] w fun e w' => e = .returned (.string t) ∧ Below w.heap.size w w' := by
  have HT : Hid (t.data.toList = trimL s.data.toList) := ht
  clear ht
  go_enter Tryd.func19, Tryd.ntmps19
  go_wp2_with fail
  refine (Tryd.strings_Trim_set s ⟨#[32, 9]⟩ _ (by omega) (by decide) (ascii_of_all (by decide))).mono ?_
  rintro e w1 ⟨rfl, hb⟩
  go_wp2_with fail
  go_ret
  refine ⟨ret_str ?_, hb⟩
  apply ByteArray.ext
  apply Array.ext'
  rw [HT.out]
  rfl

set_option maxRecDepth 100000 in
theorem clone_at (s : ByteArray) (w : World) (hs : s.size ≤ 100000) :
    Calls Tryd.prog 31 #[.string s] w fun e w' => e = .returned (.string s) ∧ Below w.heap.size w w' := by
  go_enter Tryd.func31, Tryd.ntmps31
  go_wp2_with fail
  refine (Tryd.stringslite_Clone s _ (by omega)).mono ?_
  rintro e w1 ⟨rfl, hb⟩
  go_wp2_with fail
  go_ret
  exact ⟨rfl, hb⟩
end Go.Proofs.YtfeikdplfjikeaaDoor
