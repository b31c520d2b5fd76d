/-
  What trim of package token and strings.Clone compute; a text is no longer than Go allows.
-/
import Derived.Test.YtoccjnbodoiibabDoorSpecT
import Derived.Test.YtoccjnbodoiibabDoorShelf
import Derived.Test.YtoccjnbodoiibabDoorRows
namespace Go.Proofs.YtoccjnbodoiibabDoor
open Go.RowKit

set_option maxRecDepth 100000 in
theorem trim_at (s t : ByteArray) (ht : t.data.toList = trimL s.data.toList) (w : World) (hs : s.size ≤ 100000) :
    Calls Tryd.prog 13 #[.string s] w fun e w' => e = .returned (.string t) ∧ Below w.heap.size w w' := by
  have HT : Hid (t.data.toList = trimL s.data.toList) := ht
  clear ht
  go_enter Tryd.func13, Tryd.ntmps13
  go_wp2_with fail
  refine (Tryd.strings_Trim_set s ⟨#[32, 9]⟩ _ (by omega) (by decide) (ascii_of_all (by decide))).mono ?_
  rintro e w1 ⟨rfl, hb⟩
  go_wp2_with fail
  go_ret
  refine ⟨ret_str ?_, hb⟩
  apply ByteArray.ext
  apply Array.ext'
  rw [HT.out]
  rfl

set_option maxRecDepth 100000 in
theorem clone_at (s : ByteArray) (w : World) (hs : s.size ≤ 100000) :
    Calls Tryd.prog 15 #[.string s] w fun e w' => e = .returned (.string s) ∧ Below w.heap.size w w' := by
  go_enter Tryd.func15, Tryd.ntmps15
  go_wp2_with fail
  refine (Tryd.stringslite_Clone s _ (by omega)).mono ?_
  rintro e w1 ⟨rfl, hb⟩
  go_wp2_with fail
  go_ret
  exact ⟨rfl, hb⟩
end Go.Proofs.YtoccjnbodoiibabDoor
