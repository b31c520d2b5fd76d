/-
  DERIVED. GIVEN WITH THE SEED: THE CARDS: each row of YtigbjhkkbgdkcacGreatDoorRows.lean that lists a variable, with what it lists TIED to the program's text (the seventh form; the later family's looks); each row that meets fmt, with fmt's text TOLD by the authors' own Lean function (tested against real Go, not proved from fmt's source: count such statements apart). THE CARD IS WHAT COUNTS. Prove the row's statement (the work); the ties are given (YtigbjhkkbgdkcacGreatDoorTie.lean); close each card by the builder's one call (the guide's Derived/Test/ToyasCard.lean, 'card_holds'). Laid BY PROGRAM, IN A SANDBOX (cutbox-door.mjs). By AI agents, Wed Nov 11 2026. No macro, syntax, notation, axiom, sorry.
-/
import Derived.Test.YtigbjhkkbgdkcacGreatDoorRows
import GoSem.ClaimSeven
namespace Go.Proofs.YtigbjhkkbgdkcacGreatDoor
namespace Rows

/-- THE TIED CARD OF 'larderkeep.FreshLess'. -/
def freshLessCard : Claim7 := { stood := { row := freshLessRow, standIns := [], harness := (true, "a10ebe6275d2d462e1856f26fe0ee58252569f25b4164338b55ab4a6f632345f"), looks := false }, kinds := [], alts := [], laidByText := true, laidKinds := [.data, .data, .data, .data, .data, .data, .pinned], laidTests := true, laidLooks := .later }
def FreshLessCardSaid : Prop := Claim7.holds Tryz.pinned (.plain (OpenSpec.ofChange freshLessSpec)) freshLessCard

/-- THE TIED CARD OF 'larderkeep.FreshTold'. -/
def freshToldCard : Claim7 := { stood := { row := freshToldRow, standIns := [], harness := (true, "a10ebe6275d2d462e1856f26fe0ee58252569f25b4164338b55ab4a6f632345f"), looks := false }, kinds := [], alts := [], laidByText := true, laidKinds := [.data, .data, .data, .data, .data, .data, .pinned], laidTests := true, laidLooks := .later }
def FreshToldCardSaid : Prop := Claim7.holds Tryz.pinned (.plain (OpenSpec.ofChange freshToldSpec)) freshToldCard

/-- THE SECOND FORM's CARD OF 'larderkeep.FreshLess'. -/
def freshLessUptoCard : Claim7 := { stood := { row := freshLessUptoRow, standIns := [], harness := (true, "a10ebe6275d2d462e1856f26fe0ee58252569f25b4164338b55ab4a6f632345f"), looks := false }, kinds := [], alts := [], laidByText := true, laidKinds := [.data, .data, .data, .data, .data, .data, .pinned], laidTests := true, laidLooks := .later }
def FreshLessUptoCardSaid : Prop := Claim7.holds Tryz.pinned (.plain (OpenSpec.upto freshLessSpec)) freshLessUptoCard

/-- THE SECOND FORM's CARD OF 'larderkeep.FreshTold'. -/
def freshToldUptoCard : Claim7 := { stood := { row := freshToldUptoRow, standIns := [], harness := (true, "a10ebe6275d2d462e1856f26fe0ee58252569f25b4164338b55ab4a6f632345f"), looks := false }, kinds := [], alts := [], laidByText := true, laidKinds := [.data, .data, .data, .data, .data, .data, .pinned], laidTests := true, laidLooks := .later }
def FreshToldUptoCardSaid : Prop := Claim7.holds Tryz.pinned (.plain (OpenSpec.upto freshToldSpec)) freshToldUptoCard
end Rows
end Go.Proofs.YtigbjhkkbgdkcacGreatDoor
