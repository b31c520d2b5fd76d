/-
  DERIVED. GIVEN WITH THE SEED: THE CARDS: each row of YtipfjpihciiikaaGreatDoorRows.lean that lists a variable, with what it lists TIED to the program's text (the seventh form; the later family's looks); each row that meets fmt, with fmt's text TOLD by the authors' own Lean function (tested against real Go, not proved from fmt's source: count such statements apart). THE CARD IS WHAT COUNTS. Prove the row's statement (the work); the ties are given (YtipfjpihciiikaaGreatDoorTie.lean); close each card by the builder's one call (the guide's Derived/Test/ToyasCard.lean, 'card_holds'). Laid BY PROGRAM, IN A SANDBOX (cutbox-door.mjs). By AI agents, Wed Nov 11 2026. No macro, syntax, notation, axiom, sorry.
-/
import Derived.Test.YtipfjpihciiikaaGreatDoorRows
import GoSem.ClaimSeven
namespace Go.Proofs.YtipfjpihciiikaaGreatDoor
namespace Rows

/-- THE TIED CARD OF 'larderlaw.MsgWritesRequest'. -/
def msgWritesRequestCard : Claim7 := { stood := { row := msgWritesRequestRow, standIns := [], harness := (true, "77d7efbc0dda71411f6fa484719ff4cb5b1a76f968dd0422a4d55d975d33a730"), looks := true }, kinds := [], alts := [], laidByText := true, laidKinds := [.data, .data, .data, .data, .sentinel, .sentinel, .pinned], laidTests := true, laidLooks := .later }
def MsgWritesRequestCardSaid : Prop := Claim7.holds Tryz.pinned (.plain (OpenSpec.ofChange msgWritesRequestSpec)) msgWritesRequestCard

/-- THE TIED CARD OF 'larderlaw.MsgReadsRequest'. -/
def msgReadsRequestCard : Claim7 := { stood := { row := msgReadsRequestRow, standIns := [], harness := (true, "77d7efbc0dda71411f6fa484719ff4cb5b1a76f968dd0422a4d55d975d33a730"), looks := true }, kinds := [], alts := [], laidByText := true, laidKinds := [.data, .data, .data, .data, .sentinel, .sentinel, .pinned], laidTests := true, laidLooks := .later }
def MsgReadsRequestCardSaid : Prop := Claim7.holds Tryz.pinned (.plain (OpenSpec.ofChange msgReadsRequestSpec)) msgReadsRequestCard

/-- THE TIED CARD OF 'larderlaw.MsgWritesResponse'. -/
def msgWritesResponseCard : Claim7 := { stood := { row := msgWritesResponseRow, standIns := [], harness := (true, "77d7efbc0dda71411f6fa484719ff4cb5b1a76f968dd0422a4d55d975d33a730"), looks := true }, kinds := [], alts := [], laidByText := true, laidKinds := [.data, .data, .data, .data, .sentinel, .sentinel, .pinned], laidTests := true, laidLooks := .later }
def MsgWritesResponseCardSaid : Prop := Claim7.holds Tryz.pinned (.plain (OpenSpec.ofChange msgWritesResponseSpec)) msgWritesResponseCard

/-- THE TIED CARD OF 'larderlaw.MsgReadsResponse'. -/
def msgReadsResponseCard : Claim7 := { stood := { row := msgReadsResponseRow, standIns := [], harness := (true, "77d7efbc0dda71411f6fa484719ff4cb5b1a76f968dd0422a4d55d975d33a730"), looks := true }, kinds := [], alts := [], laidByText := true, laidKinds := [.data, .data, .data, .data, .sentinel, .sentinel, .pinned], laidTests := true, laidLooks := .later }
def MsgReadsResponseCardSaid : Prop := Claim7.holds Tryz.pinned (.plain (OpenSpec.ofChange msgReadsResponseSpec)) msgReadsResponseCard

/-- THE TIED CARD OF 'larderkeep.MsgBack'. -/
def msgBackCard : Claim7 := { stood := { row := msgBackRow, standIns := [], harness := (true, "77d7efbc0dda71411f6fa484719ff4cb5b1a76f968dd0422a4d55d975d33a730"), looks := true }, kinds := [], alts := [], laidByText := true, laidKinds := [.data, .data, .data, .data, .sentinel, .sentinel, .pinned], laidTests := true, laidLooks := .later }
def MsgBackCardSaid : Prop := Claim7.holds Tryz.pinned (.plain (OpenSpec.ofChange msgBackSpec)) msgBackCard

/-- THE TIED CARD OF 'larderkeep.MsgAnswerBack'. -/
def msgAnswerBackCard : Claim7 := { stood := { row := msgAnswerBackRow, standIns := [], harness := (true, "77d7efbc0dda71411f6fa484719ff4cb5b1a76f968dd0422a4d55d975d33a730"), looks := true }, kinds := [], alts := [], laidByText := true, laidKinds := [.data, .data, .data, .data, .sentinel, .sentinel, .pinned], laidTests := true, laidLooks := .later }
def MsgAnswerBackCardSaid : Prop := Claim7.holds Tryz.pinned (.plain (OpenSpec.ofChange msgAnswerBackSpec)) msgAnswerBackCard

/-- THE SECOND FORM's CARD OF 'larderlaw.MsgWritesRequest'. -/
def msgWritesRequestUptoCard : Claim7 := { stood := { row := msgWritesRequestUptoRow, standIns := [], harness := (true, "77d7efbc0dda71411f6fa484719ff4cb5b1a76f968dd0422a4d55d975d33a730"), looks := true }, kinds := [], alts := [], laidByText := true, laidKinds := [.data, .data, .data, .data, .sentinel, .sentinel, .pinned], laidTests := true, laidLooks := .later }
def MsgWritesRequestUptoCardSaid : Prop := Claim7.holds Tryz.pinned (.plain (OpenSpec.upto msgWritesRequestSpec)) msgWritesRequestUptoCard

/-- THE SECOND FORM's CARD OF 'larderlaw.MsgReadsRequest'. -/
def msgReadsRequestUptoCard : Claim7 := { stood := { row := msgReadsRequestUptoRow, standIns := [], harness := (true, "77d7efbc0dda71411f6fa484719ff4cb5b1a76f968dd0422a4d55d975d33a730"), looks := true }, kinds := [], alts := [], laidByText := true, laidKinds := [.data, .data, .data, .data, .sentinel, .sentinel, .pinned], laidTests := true, laidLooks := .later }
def MsgReadsRequestUptoCardSaid : Prop := Claim7.holds Tryz.pinned (.plain (OpenSpec.upto msgReadsRequestSpec)) msgReadsRequestUptoCard

/-- THE SECOND FORM's CARD OF 'larderlaw.MsgWritesResponse'. -/
def msgWritesResponseUptoCard : Claim7 := { stood := { row := msgWritesResponseUptoRow, standIns := [], harness := (true, "77d7efbc0dda71411f6fa484719ff4cb5b1a76f968dd0422a4d55d975d33a730"), looks := true }, kinds := [], alts := [], laidByText := true, laidKinds := [.data, .data, .data, .data, .sentinel, .sentinel, .pinned], laidTests := true, laidLooks := .later }
def MsgWritesResponseUptoCardSaid : Prop := Claim7.holds Tryz.pinned (.plain (OpenSpec.upto msgWritesResponseSpec)) msgWritesResponseUptoCard

/-- THE SECOND FORM's CARD OF 'larderlaw.MsgReadsResponse'. -/
def msgReadsResponseUptoCard : Claim7 := { stood := { row := msgReadsResponseUptoRow, standIns := [], harness := (true, "77d7efbc0dda71411f6fa484719ff4cb5b1a76f968dd0422a4d55d975d33a730"), looks := true }, kinds := [], alts := [], laidByText := true, laidKinds := [.data, .data, .data, .data, .sentinel, .sentinel, .pinned], laidTests := true, laidLooks := .later }
def MsgReadsResponseUptoCardSaid : Prop := Claim7.holds Tryz.pinned (.plain (OpenSpec.upto msgReadsResponseSpec)) msgReadsResponseUptoCard

/-- THE SECOND FORM's CARD OF 'larderkeep.MsgBack'. -/
def msgBackUptoCard : Claim7 := { stood := { row := msgBackUptoRow, standIns := [], harness := (true, "77d7efbc0dda71411f6fa484719ff4cb5b1a76f968dd0422a4d55d975d33a730"), looks := true }, kinds := [], alts := [], laidByText := true, laidKinds := [.data, .data, .data, .data, .sentinel, .sentinel, .pinned], laidTests := true, laidLooks := .later }
def MsgBackUptoCardSaid : Prop := Claim7.holds Tryz.pinned (.plain (OpenSpec.upto msgBackSpec)) msgBackUptoCard

/-- THE SECOND FORM's CARD OF 'larderkeep.MsgAnswerBack'. -/
def msgAnswerBackUptoCard : Claim7 := { stood := { row := msgAnswerBackUptoRow, standIns := [], harness := (true, "77d7efbc0dda71411f6fa484719ff4cb5b1a76f968dd0422a4d55d975d33a730"), looks := true }, kinds := [], alts := [], laidByText := true, laidKinds := [.data, .data, .data, .data, .sentinel, .sentinel, .pinned], laidTests := true, laidLooks := .later }
def MsgAnswerBackUptoCardSaid : Prop := Claim7.holds Tryz.pinned (.plain (OpenSpec.upto msgAnswerBackSpec)) msgAnswerBackUptoCard
end Rows
end Go.Proofs.YtipfjpihciiikaaGreatDoor
