/-
  What strings.CutSuffix computes; a string is no longer than Go allows.
-/
import Derived.Test.YtfeikdplfjikeaaDoorSpecCx
import Derived.Test.YtfeikdplfjikeaaDoorShelf
import Derived.Test.YtfeikdplfjikeaaDoorRows
namespace Go.Proofs.YtfeikdplfjikeaaDoor
open Go.RowKit

theorem scutSuf_at (s p a : ByteArray) (f : Bool) (h : cutSuf s.data.toList p.data.toList = (a.data.toList, f)) (w : World) (hs : s.size ≤ 9223372036854775807) :
    Calls Tryd.prog 30 #[.string s, .string p] w fun e w' => e = .returned (.tuple #[.string a, .bool f]) ∧ w' = w := by
  refine (Tryd.strings_CutSuffix s p w hs).mono ?_
  rintro e w' ⟨rfl, rfl⟩
  refine ⟨?_, rfl⟩
  unfold cutSuf at h
  simp only [Prod.mk.injEq] at h
  rw [h.1, h.2]
end Go.Proofs.YtfeikdplfjikeaaDoor
