/-
  DERIVED. GIVEN WITH THE SEED: THE CARDS: each row of YtfeikdplfjikeaaDoorRows.lean that lists a variable, with what it lists TIED to the program's text (the seventh form; the later family's looks); each row that meets fmt, with fmt's text TOLD by the authors' own Lean function (tested against real Go, not proved from fmt's source: count such statements apart). THE CARD IS WHAT COUNTS. Prove the row's statement (the work); the ties are given (YtfeikdplfjikeaaDoorTie.lean); close each card by the builder's one call (the guide's Derived/Test/ToyasCard.lean, 'card_holds'). Laid BY PROGRAM, IN A SANDBOX (cutbox-door.mjs). By AI agents, Wed Nov 11 2026. No macro, syntax, notation, axiom, sorry.
-/
import Derived.Test.YtfeikdplfjikeaaDoorRows
import GoSem.ClaimSeven
namespace Go.Proofs.YtfeikdplfjikeaaDoor
namespace Rows

/-- THE TIED CARD OF 'larderlaw.TagLists'. -/
def tagListsCard : Claim7 := { stood := { row := tagListsRow, standIns := [], harness := (true, "38d0333adc7ef80ddf7f65a66c7ac045eef1fe1731fb84a0e53f280b599f0d3d"), looks := false }, kinds := [], alts := [], laidByText := true, laidKinds := [.data, .pinned], laidTests := true, laidLooks := .later }
def TagListsCardSaid : Prop := Claim7.holds Tryd.pinned (.plain (OpenSpec.ofChange tagListsSpec)) tagListsCard

/-- THE TIED CARD OF 'larderkeep.TagListBack'. -/
def tagListBackCard : Claim7 := { stood := { row := tagListBackRow, standIns := [], harness := (true, "38d0333adc7ef80ddf7f65a66c7ac045eef1fe1731fb84a0e53f280b599f0d3d"), looks := false }, kinds := [], alts := [], laidByText := true, laidKinds := [.data, .pinned], laidTests := true, laidLooks := .later }
def TagListBackCardSaid : Prop := Claim7.holds Tryd.pinned (.plain (OpenSpec.ofChange tagListBackSpec)) tagListBackCard

/-- THE SECOND FORM's CARD OF 'larderlaw.TagLists'. -/
def tagListsUptoCard : Claim7 := { stood := { row := tagListsUptoRow, standIns := [], harness := (true, "38d0333adc7ef80ddf7f65a66c7ac045eef1fe1731fb84a0e53f280b599f0d3d"), looks := false }, kinds := [], alts := [], laidByText := true, laidKinds := [.data, .pinned], laidTests := true, laidLooks := .later }
def TagListsUptoCardSaid : Prop := Claim7.holds Tryd.pinned (.plain (OpenSpec.upto tagListsSpec)) tagListsUptoCard

/-- THE SECOND FORM's CARD OF 'larderkeep.TagListBack'. -/
def tagListBackUptoCard : Claim7 := { stood := { row := tagListBackUptoRow, standIns := [], harness := (true, "38d0333adc7ef80ddf7f65a66c7ac045eef1fe1731fb84a0e53f280b599f0d3d"), looks := false }, kinds := [], alts := [], laidByText := true, laidKinds := [.data, .pinned], laidTests := true, laidLooks := .later }
def TagListBackUptoCardSaid : Prop := Claim7.holds Tryd.pinned (.plain (OpenSpec.upto tagListBackSpec)) tagListBackUptoCard
end Rows
end Go.Proofs.YtfeikdplfjikeaaDoor
