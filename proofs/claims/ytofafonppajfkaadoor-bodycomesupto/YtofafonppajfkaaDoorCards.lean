/-
  DERIVED. GIVEN WITH THE SEED: THE CARDS: each row of YtofafonppajfkaaDoorRows.lean that lists a variable, with what it lists TIED to the program's text (the seventh form; the later family's looks); each row that meets fmt, with fmt's text TOLD by the authors' own Lean function (tested against real Go, not proved from fmt's source: count such statements apart). THE CARD IS WHAT COUNTS. Prove the row's statement (the work); the ties are given (YtofafonppajfkaaDoorTie.lean); close each card by the builder's one call (the guide's Derived/Test/ToyasCard.lean, 'card_holds'). Laid BY PROGRAM, IN A SANDBOX (cutbox-door.mjs). By AI agents, Wed Nov 11 2026. No macro, syntax, notation, axiom, sorry.
-/
import Derived.Test.YtofafonppajfkaaDoorRows
import GoSem.ClaimSeven
namespace Go.Proofs.YtofafonppajfkaaDoor
namespace Rows

/-- THE TIED CARD OF 'larderlaw.BodyKinds'. -/
def bodyKindsCard : Claim7 := { stood := { row := bodyKindsRow, standIns := [], harness := (true, "37d2b15a79b31b80bb6ab36f722d1f509fc2ed166a4e18527f6a30629421df7e"), looks := true }, kinds := [], alts := [], laidByText := true, laidKinds := [.data, .data, .data, .data, .sentinel, .sentinel, .pinned], laidTests := true, laidLooks := .later }
def BodyKindsCardSaid : Prop := Claim7.holds Tryd.pinned (.plain (OpenSpec.ofChange bodyKindsSpec)) bodyKindsCard

/-- THE TIED CARD OF 'larderlaw.BodyEncodes'. -/
def bodyEncodesCard : Claim7 := { stood := { row := bodyEncodesRow, standIns := [], harness := (true, "37d2b15a79b31b80bb6ab36f722d1f509fc2ed166a4e18527f6a30629421df7e"), looks := true }, kinds := [], alts := [], laidByText := true, laidKinds := [.data, .data, .data, .data, .pinned], laidTests := true, laidLooks := .later }
def BodyEncodesCardSaid : Prop := Claim7.holds Tryd.pinned (.plain (OpenSpec.ofChange bodyEncodesSpec)) bodyEncodesCard

/-- THE TIED CARD OF 'larderlaw.BodyDecodes'. -/
def bodyDecodesCard : Claim7 := { stood := { row := bodyDecodesRow, standIns := [], harness := (true, "37d2b15a79b31b80bb6ab36f722d1f509fc2ed166a4e18527f6a30629421df7e"), looks := true }, kinds := [], alts := [], laidByText := true, laidKinds := [.data, .pinned], laidTests := true, laidLooks := .later }
def BodyDecodesCardSaid : Prop := Claim7.holds Tryd.pinned (.plain (OpenSpec.ofChange bodyDecodesSpec)) bodyDecodesCard

/-- THE TIED CARD OF 'larderlaw.BodyComes'. -/
def bodyComesCard : Claim7 := { stood := { row := bodyComesRow, standIns := [], harness := (true, "37d2b15a79b31b80bb6ab36f722d1f509fc2ed166a4e18527f6a30629421df7e"), looks := true }, kinds := [], alts := [], laidByText := true, laidKinds := [.data, .pinned], laidTests := true, laidLooks := .later }
def BodyComesCardSaid : Prop := Claim7.holds Tryd.pinned (.plain (OpenSpec.ofChange bodyComesSpec)) bodyComesCard

/-- THE TIED CARD OF 'larderkeep.BodyBack'. -/
def bodyBackCard : Claim7 := { stood := { row := bodyBackRow, standIns := [], harness := (true, "37d2b15a79b31b80bb6ab36f722d1f509fc2ed166a4e18527f6a30629421df7e"), looks := true }, kinds := [], alts := [], laidByText := true, laidKinds := [.data, .data, .data, .data, .pinned], laidTests := true, laidLooks := .later }
def BodyBackCardSaid : Prop := Claim7.holds Tryd.pinned (.plain (OpenSpec.ofChange bodyBackSpec)) bodyBackCard

/-- THE TIED CARD OF 'larderkeep.BodyShort'. -/
def bodyShortCard : Claim7 := { stood := { row := bodyShortRow, standIns := [], harness := (true, "37d2b15a79b31b80bb6ab36f722d1f509fc2ed166a4e18527f6a30629421df7e"), looks := true }, kinds := [], alts := [], laidByText := true, laidKinds := [.data, .pinned], laidTests := true, laidLooks := .later }
def BodyShortCardSaid : Prop := Claim7.holds Tryd.pinned (.plain (OpenSpec.ofChange bodyShortSpec)) bodyShortCard

/-- THE SECOND FORM's CARD OF 'larderlaw.BodyKinds'. -/
def bodyKindsUptoCard : Claim7 := { stood := { row := bodyKindsUptoRow, standIns := [], harness := (true, "37d2b15a79b31b80bb6ab36f722d1f509fc2ed166a4e18527f6a30629421df7e"), looks := true }, kinds := [], alts := [], laidByText := true, laidKinds := [.data, .data, .data, .data, .sentinel, .sentinel, .pinned], laidTests := true, laidLooks := .later }
def BodyKindsUptoCardSaid : Prop := Claim7.holds Tryd.pinned (.plain (OpenSpec.upto bodyKindsSpec)) bodyKindsUptoCard

/-- THE SECOND FORM's CARD OF 'larderlaw.BodyEncodes'. -/
def bodyEncodesUptoCard : Claim7 := { stood := { row := bodyEncodesUptoRow, standIns := [], harness := (true, "37d2b15a79b31b80bb6ab36f722d1f509fc2ed166a4e18527f6a30629421df7e"), looks := true }, kinds := [], alts := [], laidByText := true, laidKinds := [.data, .data, .data, .data, .pinned], laidTests := true, laidLooks := .later }
def BodyEncodesUptoCardSaid : Prop := Claim7.holds Tryd.pinned (.plain (OpenSpec.upto bodyEncodesSpec)) bodyEncodesUptoCard

/-- THE SECOND FORM's CARD OF 'larderlaw.BodyDecodes'. -/
def bodyDecodesUptoCard : Claim7 := { stood := { row := bodyDecodesUptoRow, standIns := [], harness := (true, "37d2b15a79b31b80bb6ab36f722d1f509fc2ed166a4e18527f6a30629421df7e"), looks := true }, kinds := [], alts := [], laidByText := true, laidKinds := [.data, .pinned], laidTests := true, laidLooks := .later }
def BodyDecodesUptoCardSaid : Prop := Claim7.holds Tryd.pinned (.plain (OpenSpec.upto bodyDecodesSpec)) bodyDecodesUptoCard

/-- THE SECOND FORM's CARD OF 'larderlaw.BodyComes'. -/
def bodyComesUptoCard : Claim7 := { stood := { row := bodyComesUptoRow, standIns := [], harness := (true, "37d2b15a79b31b80bb6ab36f722d1f509fc2ed166a4e18527f6a30629421df7e"), looks := true }, kinds := [], alts := [], laidByText := true, laidKinds := [.data, .pinned], laidTests := true, laidLooks := .later }
def BodyComesUptoCardSaid : Prop := Claim7.holds Tryd.pinned (.plain (OpenSpec.upto bodyComesSpec)) bodyComesUptoCard

/-- THE SECOND FORM's CARD OF 'larderkeep.BodyBack'. -/
def bodyBackUptoCard : Claim7 := { stood := { row := bodyBackUptoRow, standIns := [], harness := (true, "37d2b15a79b31b80bb6ab36f722d1f509fc2ed166a4e18527f6a30629421df7e"), looks := true }, kinds := [], alts := [], laidByText := true, laidKinds := [.data, .data, .data, .data, .pinned], laidTests := true, laidLooks := .later }
def BodyBackUptoCardSaid : Prop := Claim7.holds Tryd.pinned (.plain (OpenSpec.upto bodyBackSpec)) bodyBackUptoCard

/-- THE SECOND FORM's CARD OF 'larderkeep.BodyShort'. -/
def bodyShortUptoCard : Claim7 := { stood := { row := bodyShortUptoRow, standIns := [], harness := (true, "37d2b15a79b31b80bb6ab36f722d1f509fc2ed166a4e18527f6a30629421df7e"), looks := true }, kinds := [], alts := [], laidByText := true, laidKinds := [.data, .pinned], laidTests := true, laidLooks := .later }
def BodyShortUptoCardSaid : Prop := Claim7.holds Tryd.pinned (.plain (OpenSpec.upto bodyShortSpec)) bodyShortUptoCard
end Rows
end Go.Proofs.YtofafonppajfkaaDoor
