/-
  DERIVED. GIVEN WITH THE SEED: THE CARDS: each row of YtlfdbaggiimnjaaDoorRows.lean that lists a variable, with what it lists TIED to the program's text (the seventh form; the later family's looks); each row that meets fmt, with fmt's text TOLD by the authors' own Lean function (tested against real Go, not proved from fmt's source: count such statements apart). THE CARD IS WHAT COUNTS. Prove the row's statement (the work); the ties are given (YtlfdbaggiimnjaaDoorTie.lean); close each card by the builder's one call (the guide's Derived/Test/ToyasCard.lean, 'card_holds'). Laid BY PROGRAM, IN A SANDBOX (cutbox-door.mjs). By AI agents, Wed Nov 11 2026. No macro, syntax, notation, axiom, sorry.
-/
import Derived.Test.YtlfdbaggiimnjaaDoorRows
import GoSem.ClaimSeven
namespace Go.Proofs.YtlfdbaggiimnjaaDoor
namespace Rows

/-- THE TIED CARD OF 'larderlaw.LineRequests'. -/
def lineRequestsCard : Claim7 := { stood := { row := lineRequestsRow, standIns := [], harness := (true, "2d92f16c364bb0c04c8e238e5b29c78b553a7b58a456cec0f744a9d89eb6005d"), looks := true }, kinds := [], alts := [], laidByText := true, laidKinds := [.data, .pinned], laidTests := true, laidLooks := .later }
def LineRequestsCardSaid : Prop := Claim7.holds Tryd.pinned (.plain (OpenSpec.ofChange lineRequestsSpec)) lineRequestsCard

/-- THE TIED CARD OF 'larderlaw.LineStatuses'. -/
def lineStatusesCard : Claim7 := { stood := { row := lineStatusesRow, standIns := [], harness := (true, "2d92f16c364bb0c04c8e238e5b29c78b553a7b58a456cec0f744a9d89eb6005d"), looks := true }, kinds := [], alts := [], laidByText := true, laidKinds := [.data, .data, .data, .sentinel, .sentinel], laidTests := true, laidLooks := .later }
def LineStatusesCardSaid : Prop := Claim7.holds Tryd.pinned (.plain (OpenSpec.ofChange lineStatusesSpec)) lineStatusesCard

/-- THE TIED CARD OF 'larderkeep.LineStatusBack'. -/
def lineStatusBackCard : Claim7 := { stood := { row := lineStatusBackRow, standIns := [], harness := (true, "2d92f16c364bb0c04c8e238e5b29c78b553a7b58a456cec0f744a9d89eb6005d"), looks := true }, kinds := [], alts := [], laidByText := true, laidKinds := [.data, .data, .data, .sentinel, .sentinel], laidTests := true, laidLooks := .later }
def LineStatusBackCardSaid : Prop := Claim7.holds Tryd.pinned (.plain (OpenSpec.ofChange lineStatusBackSpec)) lineStatusBackCard

/-- THE SECOND FORM's CARD OF 'larderlaw.LineRequests'. -/
def lineRequestsUptoCard : Claim7 := { stood := { row := lineRequestsUptoRow, standIns := [], harness := (true, "2d92f16c364bb0c04c8e238e5b29c78b553a7b58a456cec0f744a9d89eb6005d"), looks := true }, kinds := [], alts := [], laidByText := true, laidKinds := [.data, .pinned], laidTests := true, laidLooks := .later }
def LineRequestsUptoCardSaid : Prop := Claim7.holds Tryd.pinned (.plain (OpenSpec.upto lineRequestsSpec)) lineRequestsUptoCard

/-- THE SECOND FORM's CARD OF 'larderlaw.LineStatuses'. -/
def lineStatusesUptoCard : Claim7 := { stood := { row := lineStatusesUptoRow, standIns := [], harness := (true, "2d92f16c364bb0c04c8e238e5b29c78b553a7b58a456cec0f744a9d89eb6005d"), looks := true }, kinds := [], alts := [], laidByText := true, laidKinds := [.data, .data, .data, .sentinel, .sentinel], laidTests := true, laidLooks := .later }
def LineStatusesUptoCardSaid : Prop := Claim7.holds Tryd.pinned (.plain (OpenSpec.upto lineStatusesSpec)) lineStatusesUptoCard

/-- THE SECOND FORM's CARD OF 'larderkeep.LineStatusBack'. -/
def lineStatusBackUptoCard : Claim7 := { stood := { row := lineStatusBackUptoRow, standIns := [], harness := (true, "2d92f16c364bb0c04c8e238e5b29c78b553a7b58a456cec0f744a9d89eb6005d"), looks := true }, kinds := [], alts := [], laidByText := true, laidKinds := [.data, .data, .data, .sentinel, .sentinel], laidTests := true, laidLooks := .later }
def LineStatusBackUptoCardSaid : Prop := Claim7.holds Tryd.pinned (.plain (OpenSpec.upto lineStatusBackSpec)) lineStatusBackUptoCard
end Rows
end Go.Proofs.YtlfdbaggiimnjaaDoor
