/-
  DERIVED. GIVEN WITH THE SEED: THE CARDS: each row of YtipfjpihciiikabGreatDoorRows.lean that lists a variable, with what it lists TIED to the program's text (the seventh form; the later family's looks); each row that meets fmt, with fmt's text TOLD by the authors' own Lean function (tested against real Go, not proved from fmt's source: count such statements apart). THE CARD IS WHAT COUNTS. Prove the row's statement (the work); the ties are given (YtipfjpihciiikabGreatDoorTie.lean); close each card by the builder's one call (the guide's Derived/Test/ToyasCard.lean, 'card_holds'). Laid BY PROGRAM, IN A SANDBOX (cutbox-door.mjs). By AI agents, Wed Nov 11 2026. No macro, syntax, notation, axiom, sorry.
-/
import Derived.Test.YtipfjpihciiikabGreatDoorRows
import GoSem.ClaimSeven
namespace Go.Proofs.YtipfjpihciiikabGreatDoor
namespace Rows

/-- THE TIED CARD OF 'larderkeep.MsgRow'. -/
def msgRowCard : Claim7 := { stood := { row := msgRowRow, standIns := [], harness := (true, "8979e38d7b28bce9848dc3f6df3a7987b5ef8cacc04cfcee16da29941b5371e5"), looks := true }, kinds := [], alts := [], laidByText := true, laidKinds := [.data, .data, .data, .data, .sentinel, .sentinel, .pinned], laidTests := true, laidLooks := .later }
def MsgRowCardSaid : Prop := Claim7.holds Tryz.pinned (.plain (OpenSpec.ofChange msgRowSpec)) msgRowCard

/-- THE TIED CARD OF 'larderkeep.MsgShort'. -/
def msgShortCard : Claim7 := { stood := { row := msgShortRow, standIns := [], harness := (true, "8979e38d7b28bce9848dc3f6df3a7987b5ef8cacc04cfcee16da29941b5371e5"), looks := true }, kinds := [], alts := [], laidByText := true, laidKinds := [.data, .data, .data, .data, .sentinel, .sentinel, .pinned], laidTests := true, laidLooks := .later }
def MsgShortCardSaid : Prop := Claim7.holds Tryz.pinned (.plain (OpenSpec.ofChange msgShortSpec)) msgShortCard

/-- THE TIED CARD OF 'larderkeep.MsgAgain'. -/
def msgAgainCard : Claim7 := { stood := { row := msgAgainRow, standIns := [], harness := (true, "8979e38d7b28bce9848dc3f6df3a7987b5ef8cacc04cfcee16da29941b5371e5"), looks := true }, kinds := [], alts := [], laidByText := true, laidKinds := [.data, .data, .data, .data, .sentinel, .sentinel, .pinned], laidTests := true, laidLooks := .later }
def MsgAgainCardSaid : Prop := Claim7.holds Tryz.pinned (.plain (OpenSpec.ofChange msgAgainSpec)) msgAgainCard

/-- THE TIED CARD OF 'larderkeep.MsgPipe'. -/
def msgPipeCard : Claim7 := { stood := { row := msgPipeRow, standIns := [], harness := (true, "8979e38d7b28bce9848dc3f6df3a7987b5ef8cacc04cfcee16da29941b5371e5"), looks := true }, kinds := [], alts := [], laidByText := true, laidKinds := [.data, .data, .data, .data, .sentinel, .sentinel, .pinned], laidTests := true, laidLooks := .later }
def MsgPipeCardSaid : Prop := Claim7.holds Tryz.pinned (.plain (OpenSpec.ofChange msgPipeSpec)) msgPipeCard

/-- THE SECOND FORM's CARD OF 'larderkeep.MsgRow'. -/
def msgRowUptoCard : Claim7 := { stood := { row := msgRowUptoRow, standIns := [], harness := (true, "8979e38d7b28bce9848dc3f6df3a7987b5ef8cacc04cfcee16da29941b5371e5"), looks := true }, kinds := [], alts := [], laidByText := true, laidKinds := [.data, .data, .data, .data, .sentinel, .sentinel, .pinned], laidTests := true, laidLooks := .later }
def MsgRowUptoCardSaid : Prop := Claim7.holds Tryz.pinned (.plain (OpenSpec.upto msgRowSpec)) msgRowUptoCard

/-- THE SECOND FORM's CARD OF 'larderkeep.MsgShort'. -/
def msgShortUptoCard : Claim7 := { stood := { row := msgShortUptoRow, standIns := [], harness := (true, "8979e38d7b28bce9848dc3f6df3a7987b5ef8cacc04cfcee16da29941b5371e5"), looks := true }, kinds := [], alts := [], laidByText := true, laidKinds := [.data, .data, .data, .data, .sentinel, .sentinel, .pinned], laidTests := true, laidLooks := .later }
def MsgShortUptoCardSaid : Prop := Claim7.holds Tryz.pinned (.plain (OpenSpec.upto msgShortSpec)) msgShortUptoCard

/-- THE SECOND FORM's CARD OF 'larderkeep.MsgAgain'. -/
def msgAgainUptoCard : Claim7 := { stood := { row := msgAgainUptoRow, standIns := [], harness := (true, "8979e38d7b28bce9848dc3f6df3a7987b5ef8cacc04cfcee16da29941b5371e5"), looks := true }, kinds := [], alts := [], laidByText := true, laidKinds := [.data, .data, .data, .data, .sentinel, .sentinel, .pinned], laidTests := true, laidLooks := .later }
def MsgAgainUptoCardSaid : Prop := Claim7.holds Tryz.pinned (.plain (OpenSpec.upto msgAgainSpec)) msgAgainUptoCard

/-- THE SECOND FORM's CARD OF 'larderkeep.MsgPipe'. -/
def msgPipeUptoCard : Claim7 := { stood := { row := msgPipeUptoRow, standIns := [], harness := (true, "8979e38d7b28bce9848dc3f6df3a7987b5ef8cacc04cfcee16da29941b5371e5"), looks := true }, kinds := [], alts := [], laidByText := true, laidKinds := [.data, .data, .data, .data, .sentinel, .sentinel, .pinned], laidTests := true, laidLooks := .later }
def MsgPipeUptoCardSaid : Prop := Claim7.holds Tryz.pinned (.plain (OpenSpec.upto msgPipeSpec)) msgPipeUptoCard
end Rows
end Go.Proofs.YtipfjpihciiikabGreatDoor
