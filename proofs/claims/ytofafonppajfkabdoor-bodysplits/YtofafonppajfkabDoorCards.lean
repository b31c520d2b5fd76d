/-
  DERIVED. GIVEN WITH THE SEED: THE CARDS: each row of YtofafonppajfkabDoorRows.lean that lists a variable, with what it lists TIED to the program's text (the seventh form; the later family's looks); each row that meets fmt, with fmt's text TOLD by the authors' own Lean function (tested against real Go, not proved from fmt's source: count such statements apart). THE CARD IS WHAT COUNTS. Prove the row's statement (the work); the ties are given (YtofafonppajfkabDoorTie.lean); close each card by the builder's one call (the guide's Derived/Test/ToyasCard.lean, 'card_holds'). Laid BY PROGRAM, IN A SANDBOX (cutbox-door.mjs). By AI agents, Wed Nov 11 2026. No macro, syntax, notation, axiom, sorry.
-/
import Derived.Test.YtofafonppajfkabDoorRows
import GoSem.ClaimSeven
namespace Go.Proofs.YtofafonppajfkabDoor
namespace Rows

/-- THE TIED CARD OF 'larderkeep.BodySplits'. -/
def bodySplitsCard : Claim7 := { stood := { row := bodySplitsRow, standIns := [], harness := (true, "eb61133f028d395f6df28992c6b82fac62da19cf97e0b679201f1a25dcc0d350"), looks := true }, kinds := [], alts := [], laidByText := true, laidKinds := [.data, .pinned], laidTests := true, laidLooks := .later }
def BodySplitsCardSaid : Prop := Claim7.holds Tryd.pinned (.plain (OpenSpec.ofChange bodySplitsSpec)) bodySplitsCard

/-- THE TIED CARD OF 'larderkeep.BodyOne'. -/
def bodyOneCard : Claim7 := { stood := { row := bodyOneRow, standIns := [], harness := (true, "eb61133f028d395f6df28992c6b82fac62da19cf97e0b679201f1a25dcc0d350"), looks := true }, kinds := [], alts := [], laidByText := true, laidKinds := [.data, .data, .data, .data, .sentinel, .sentinel, .pinned], laidTests := true, laidLooks := .later }
def BodyOneCardSaid : Prop := Claim7.holds Tryd.pinned (.plain (OpenSpec.ofChange bodyOneSpec)) bodyOneCard

/-- THE TIED CARD OF 'larderkeep.BodyEnds'. -/
def bodyEndsCard : Claim7 := { stood := { row := bodyEndsRow, standIns := [], harness := (true, "eb61133f028d395f6df28992c6b82fac62da19cf97e0b679201f1a25dcc0d350"), looks := true }, kinds := [], alts := [], laidByText := true, laidKinds := [.data, .data, .data, .data, .sentinel, .sentinel, .pinned], laidTests := true, laidLooks := .later }
def BodyEndsCardSaid : Prop := Claim7.holds Tryd.pinned (.plain (OpenSpec.ofChange bodyEndsSpec)) bodyEndsCard

/-- THE SECOND FORM's CARD OF 'larderkeep.BodySplits'. -/
def bodySplitsUptoCard : Claim7 := { stood := { row := bodySplitsUptoRow, standIns := [], harness := (true, "eb61133f028d395f6df28992c6b82fac62da19cf97e0b679201f1a25dcc0d350"), looks := true }, kinds := [], alts := [], laidByText := true, laidKinds := [.data, .pinned], laidTests := true, laidLooks := .later }
def BodySplitsUptoCardSaid : Prop := Claim7.holds Tryd.pinned (.plain (OpenSpec.upto bodySplitsSpec)) bodySplitsUptoCard

/-- THE SECOND FORM's CARD OF 'larderkeep.BodyOne'. -/
def bodyOneUptoCard : Claim7 := { stood := { row := bodyOneUptoRow, standIns := [], harness := (true, "eb61133f028d395f6df28992c6b82fac62da19cf97e0b679201f1a25dcc0d350"), looks := true }, kinds := [], alts := [], laidByText := true, laidKinds := [.data, .data, .data, .data, .sentinel, .sentinel, .pinned], laidTests := true, laidLooks := .later }
def BodyOneUptoCardSaid : Prop := Claim7.holds Tryd.pinned (.plain (OpenSpec.upto bodyOneSpec)) bodyOneUptoCard

/-- THE SECOND FORM's CARD OF 'larderkeep.BodyEnds'. -/
def bodyEndsUptoCard : Claim7 := { stood := { row := bodyEndsUptoRow, standIns := [], harness := (true, "eb61133f028d395f6df28992c6b82fac62da19cf97e0b679201f1a25dcc0d350"), looks := true }, kinds := [], alts := [], laidByText := true, laidKinds := [.data, .data, .data, .data, .sentinel, .sentinel, .pinned], laidTests := true, laidLooks := .later }
def BodyEndsUptoCardSaid : Prop := Claim7.holds Tryd.pinned (.plain (OpenSpec.upto bodyEndsSpec)) bodyEndsUptoCard
end Rows
end Go.Proofs.YtofafonppajfkabDoor
