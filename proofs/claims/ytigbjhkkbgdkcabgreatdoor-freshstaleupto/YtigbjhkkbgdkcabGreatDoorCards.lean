/-
  DERIVED. GIVEN WITH THE SEED: THE CARDS: each row of YtigbjhkkbgdkcabGreatDoorRows.lean that lists a variable, with what it lists TIED to the program's text (the seventh form; the later family's looks); each row that meets fmt, with fmt's text TOLD by the authors' own Lean function (tested against real Go, not proved from fmt's source: count such statements apart). THE CARD IS WHAT COUNTS. Prove the row's statement (the work); the ties are given (YtigbjhkkbgdkcabGreatDoorTie.lean); close each card by the builder's one call (the guide's Derived/Test/ToyasCard.lean, 'card_holds'). Laid BY PROGRAM, IN A SANDBOX (cutbox-door.mjs). By AI agents, Wed Nov 11 2026. No macro, syntax, notation, axiom, sorry.
-/
import Derived.Test.YtigbjhkkbgdkcabGreatDoorRows
import GoSem.ClaimSeven
namespace Go.Proofs.YtigbjhkkbgdkcabGreatDoor
namespace Rows

/-- THE TIED CARD OF 'larderlaw.FreshLives'. -/
def freshLivesCard : Claim7 := { stood := { row := freshLivesRow, standIns := [], harness := (true, "6b42cb30d3eb8523294902179ad72b79936fa99c0ca3ccfa3f38fbe59a981cd9"), looks := false }, kinds := [], alts := [], laidByText := true, laidKinds := [.data, .data, .data, .data, .data, .data, .pinned], laidTests := true, laidLooks := .later }
def FreshLivesCardSaid : Prop := Claim7.holds Tryz.pinned (.plain (OpenSpec.ofChange freshLivesSpec)) freshLivesCard

/-- THE TIED CARD OF 'larderlaw.FreshAges'. -/
def freshAgesCard : Claim7 := { stood := { row := freshAgesRow, standIns := [], harness := (true, "6b42cb30d3eb8523294902179ad72b79936fa99c0ca3ccfa3f38fbe59a981cd9"), looks := false }, kinds := [], alts := [], laidByText := true, laidKinds := [.data, .data, .data, .data, .data, .data, .pinned], laidTests := true, laidLooks := .later }
def FreshAgesCardSaid : Prop := Claim7.holds Tryz.pinned (.plain (OpenSpec.ofChange freshAgesSpec)) freshAgesCard

/-- THE TIED CARD OF 'larderlaw.FreshUses'. -/
def freshUsesCard : Claim7 := { stood := { row := freshUsesRow, standIns := [], harness := (true, "6b42cb30d3eb8523294902179ad72b79936fa99c0ca3ccfa3f38fbe59a981cd9"), looks := false }, kinds := [], alts := [], laidByText := true, laidKinds := [.data, .data, .data, .data, .data, .data, .pinned], laidTests := true, laidLooks := .later }
def FreshUsesCardSaid : Prop := Claim7.holds Tryz.pinned (.plain (OpenSpec.ofChange freshUsesSpec)) freshUsesCard

/-- THE TIED CARD OF 'larderkeep.FreshGrows'. -/
def freshGrowsCard : Claim7 := { stood := { row := freshGrowsRow, standIns := [], harness := (true, "6b42cb30d3eb8523294902179ad72b79936fa99c0ca3ccfa3f38fbe59a981cd9"), looks := false }, kinds := [], alts := [], laidByText := true, laidKinds := [.data, .data, .data, .data, .data, .data, .pinned], laidTests := true, laidLooks := .later }
def FreshGrowsCardSaid : Prop := Claim7.holds Tryz.pinned (.plain (OpenSpec.ofChange freshGrowsSpec)) freshGrowsCard

/-- THE TIED CARD OF 'larderkeep.FreshStale'. -/
def freshStaleCard : Claim7 := { stood := { row := freshStaleRow, standIns := [], harness := (true, "6b42cb30d3eb8523294902179ad72b79936fa99c0ca3ccfa3f38fbe59a981cd9"), looks := false }, kinds := [], alts := [], laidByText := true, laidKinds := [.data, .data, .data, .data, .data, .data, .pinned], laidTests := true, laidLooks := .later }
def FreshStaleCardSaid : Prop := Claim7.holds Tryz.pinned (.plain (OpenSpec.ofChange freshStaleSpec)) freshStaleCard

/-- THE TIED CARD OF 'larderkeep.FreshLater'. -/
def freshLaterCard : Claim7 := { stood := { row := freshLaterRow, standIns := [], harness := (true, "6b42cb30d3eb8523294902179ad72b79936fa99c0ca3ccfa3f38fbe59a981cd9"), looks := false }, kinds := [], alts := [], laidByText := true, laidKinds := [.data, .data, .data, .data, .data, .data, .pinned], laidTests := true, laidLooks := .later }
def FreshLaterCardSaid : Prop := Claim7.holds Tryz.pinned (.plain (OpenSpec.ofChange freshLaterSpec)) freshLaterCard

/-- THE SECOND FORM's CARD OF 'larderlaw.FreshLives'. -/
def freshLivesUptoCard : Claim7 := { stood := { row := freshLivesUptoRow, standIns := [], harness := (true, "6b42cb30d3eb8523294902179ad72b79936fa99c0ca3ccfa3f38fbe59a981cd9"), looks := false }, kinds := [], alts := [], laidByText := true, laidKinds := [.data, .data, .data, .data, .data, .data, .pinned], laidTests := true, laidLooks := .later }
def FreshLivesUptoCardSaid : Prop := Claim7.holds Tryz.pinned (.plain (OpenSpec.upto freshLivesSpec)) freshLivesUptoCard

/-- THE SECOND FORM's CARD OF 'larderlaw.FreshAges'. -/
def freshAgesUptoCard : Claim7 := { stood := { row := freshAgesUptoRow, standIns := [], harness := (true, "6b42cb30d3eb8523294902179ad72b79936fa99c0ca3ccfa3f38fbe59a981cd9"), looks := false }, kinds := [], alts := [], laidByText := true, laidKinds := [.data, .data, .data, .data, .data, .data, .pinned], laidTests := true, laidLooks := .later }
def FreshAgesUptoCardSaid : Prop := Claim7.holds Tryz.pinned (.plain (OpenSpec.upto freshAgesSpec)) freshAgesUptoCard

/-- THE SECOND FORM's CARD OF 'larderlaw.FreshUses'. -/
def freshUsesUptoCard : Claim7 := { stood := { row := freshUsesUptoRow, standIns := [], harness := (true, "6b42cb30d3eb8523294902179ad72b79936fa99c0ca3ccfa3f38fbe59a981cd9"), looks := false }, kinds := [], alts := [], laidByText := true, laidKinds := [.data, .data, .data, .data, .data, .data, .pinned], laidTests := true, laidLooks := .later }
def FreshUsesUptoCardSaid : Prop := Claim7.holds Tryz.pinned (.plain (OpenSpec.upto freshUsesSpec)) freshUsesUptoCard

/-- THE SECOND FORM's CARD OF 'larderkeep.FreshGrows'. -/
def freshGrowsUptoCard : Claim7 := { stood := { row := freshGrowsUptoRow, standIns := [], harness := (true, "6b42cb30d3eb8523294902179ad72b79936fa99c0ca3ccfa3f38fbe59a981cd9"), looks := false }, kinds := [], alts := [], laidByText := true, laidKinds := [.data, .data, .data, .data, .data, .data, .pinned], laidTests := true, laidLooks := .later }
def FreshGrowsUptoCardSaid : Prop := Claim7.holds Tryz.pinned (.plain (OpenSpec.upto freshGrowsSpec)) freshGrowsUptoCard

/-- THE SECOND FORM's CARD OF 'larderkeep.FreshStale'. -/
def freshStaleUptoCard : Claim7 := { stood := { row := freshStaleUptoRow, standIns := [], harness := (true, "6b42cb30d3eb8523294902179ad72b79936fa99c0ca3ccfa3f38fbe59a981cd9"), looks := false }, kinds := [], alts := [], laidByText := true, laidKinds := [.data, .data, .data, .data, .data, .data, .pinned], laidTests := true, laidLooks := .later }
def FreshStaleUptoCardSaid : Prop := Claim7.holds Tryz.pinned (.plain (OpenSpec.upto freshStaleSpec)) freshStaleUptoCard

/-- THE SECOND FORM's CARD OF 'larderkeep.FreshLater'. -/
def freshLaterUptoCard : Claim7 := { stood := { row := freshLaterUptoRow, standIns := [], harness := (true, "6b42cb30d3eb8523294902179ad72b79936fa99c0ca3ccfa3f38fbe59a981cd9"), looks := false }, kinds := [], alts := [], laidByText := true, laidKinds := [.data, .data, .data, .data, .data, .data, .pinned], laidTests := true, laidLooks := .later }
def FreshLaterUptoCardSaid : Prop := Claim7.holds Tryz.pinned (.plain (OpenSpec.upto freshLaterSpec)) freshLaterUptoCard
end Rows
end Go.Proofs.YtigbjhkkbgdkcabGreatDoor
