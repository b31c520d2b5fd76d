/-
  The tables of package utf8, as the row of TokenLowers lists them, hold what its functions ask.
-/
import Derived.Test.YthedmfbfolhaoabDoorShelf
import Derived.Test.YthedmfbfolhaoabDoorRows
import Derived.Lib.LaidU8T
import Derived.PinnedBridge
import Derived.MakeChecks
namespace Go.Proofs.YthedmfbfolhaoabDoor
open Go.RowKit Go.Lib

theorem u8Extra : U8Extra Tryd.prog Tryd.lays260_ren where
  n3 := by kernel_rfl
  n4 := by kernel_rfl
  y3 := by kernel_rfl
  y4 := by kernel_rfl
  c5 := by kernel_rfl
  c119 := by kernel_rfl
  c138 := by kernel_rfl

theorem accept_eq : (Rows.laid_unicode_utf8_acceptRanges : DataW Unit) = acceptData := by kernel_rfl

theorem tabs_of (w : World) (h : laidMetH Tryd.prog Rows.tokenLowersRow.laid w) : Lib.Utf8Tabs 3 4 w := by
  rw [MakeChecks.laidMetH_plain _ _ _ (by kernel_rfl)] at h
  have h1 : VarReads Tryd.prog w "unicode/utf8.first" Rows.laid_unicode_utf8_first := laidMet.reads h (by simp [Rows.tokenLowersRow])
  have h2 : VarReads Tryd.prog w "unicode/utf8.acceptRanges" Rows.laid_unicode_utf8_acceptRanges := laidMet.reads h (by simp [Rows.tokenLowersRow])
  rw [Rows.laid_unicode_utf8_first, Pinned.utf8First_eq] at h1
  rw [accept_eq] at h2
  exact utf8Tabs_of_reads Tryd.lays260 u8Extra h1 h2
end Go.Proofs.YthedmfbfolhaoabDoor
