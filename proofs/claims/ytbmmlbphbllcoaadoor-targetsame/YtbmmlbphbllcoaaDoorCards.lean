/-
  DERIVED. GIVEN WITH THE SEED: THE CARDS: each row of YtbmmlbphbllcoaaDoorRows.lean that lists a variable, with what it lists TIED to the program's text (the seventh form; the later family's looks); each row that meets fmt, with fmt's text TOLD by the authors' own Lean function (tested against real Go, not proved from fmt's source: count such statements apart). THE CARD IS WHAT COUNTS. Prove the row's statement (the work); the ties are given (YtbmmlbphbllcoaaDoorTie.lean); close each card by the builder's one call (the guide's Derived/Test/ToyasCard.lean, 'card_holds'). Laid BY PROGRAM, IN A SANDBOX (cutbox-door.mjs). By AI agents, Wed Nov 11 2026. No macro, syntax, notation, axiom, sorry.
-/
import Derived.Test.YtbmmlbphbllcoaaDoorRows
import GoSem.ClaimSeven
namespace Go.Proofs.YtbmmlbphbllcoaaDoor
namespace Rows

/-- THE TIED CARD OF 'larderlaw.TargetEscapes'. -/
def targetEscapesCard : Claim7 := { stood := { row := targetEscapesRow, standIns := [], harness := (true, "08c9e460121a12b2f0a79a4f1a929f3ee1ab76d804cf495e03626e2ac325184e"), looks := true }, kinds := [], alts := [], laidByText := true, laidKinds := [.data, .data, .data, .sentinel, .sentinel], laidTests := true, laidLooks := .later }
def TargetEscapesCardSaid : Prop := Claim7.holds Tryd.pinned (.plain (OpenSpec.ofChange targetEscapesSpec)) targetEscapesCard

/-- THE TIED CARD OF 'larderlaw.TargetNormals'. -/
def targetNormalsCard : Claim7 := { stood := { row := targetNormalsRow, standIns := [], harness := (true, "08c9e460121a12b2f0a79a4f1a929f3ee1ab76d804cf495e03626e2ac325184e"), looks := true }, kinds := [], alts := [], laidByText := true, laidKinds := [.data, .data, .data, .data, .sentinel, .sentinel, .pinned], laidTests := true, laidLooks := .later }
def TargetNormalsCardSaid : Prop := Claim7.holds Tryd.pinned (.plain (OpenSpec.ofChange targetNormalsSpec)) targetNormalsCard

/-- THE TIED CARD OF 'larderkeep.TargetBack'. -/
def targetBackCard : Claim7 := { stood := { row := targetBackRow, standIns := [], harness := (true, "08c9e460121a12b2f0a79a4f1a929f3ee1ab76d804cf495e03626e2ac325184e"), looks := true }, kinds := [], alts := [], laidByText := true, laidKinds := [.data, .data, .data, .sentinel, .sentinel], laidTests := true, laidLooks := .later }
def TargetBackCardSaid : Prop := Claim7.holds Tryd.pinned (.plain (OpenSpec.ofChange targetBackSpec)) targetBackCard

/-- THE TIED CARD OF 'larderkeep.TargetOnce'. -/
def targetOnceCard : Claim7 := { stood := { row := targetOnceRow, standIns := [], harness := (true, "08c9e460121a12b2f0a79a4f1a929f3ee1ab76d804cf495e03626e2ac325184e"), looks := true }, kinds := [], alts := [], laidByText := true, laidKinds := [.data, .data, .data, .data, .sentinel, .sentinel, .pinned], laidTests := true, laidLooks := .later }
def TargetOnceCardSaid : Prop := Claim7.holds Tryd.pinned (.plain (OpenSpec.ofChange targetOnceSpec)) targetOnceCard

/-- THE TIED CARD OF 'larderkeep.TargetDots'. -/
def targetDotsCard : Claim7 := { stood := { row := targetDotsRow, standIns := [], harness := (true, "08c9e460121a12b2f0a79a4f1a929f3ee1ab76d804cf495e03626e2ac325184e"), looks := true }, kinds := [], alts := [], laidByText := true, laidKinds := [.data, .data, .data, .data, .sentinel, .sentinel, .pinned], laidTests := true, laidLooks := .later }
def TargetDotsCardSaid : Prop := Claim7.holds Tryd.pinned (.plain (OpenSpec.ofChange targetDotsSpec)) targetDotsCard

/-- THE TIED CARD OF 'larderkeep.TargetSame'. -/
def targetSameCard : Claim7 := { stood := { row := targetSameRow, standIns := [], harness := (true, "08c9e460121a12b2f0a79a4f1a929f3ee1ab76d804cf495e03626e2ac325184e"), looks := true }, kinds := [], alts := [], laidByText := true, laidKinds := [.data, .data, .data, .data, .sentinel, .sentinel, .pinned, .pinned], laidTests := true, laidLooks := .later }
def TargetSameCardSaid : Prop := Claim7.holds Tryd.pinned (.plain (OpenSpec.ofChange targetSameSpec)) targetSameCard

/-- THE SECOND FORM's CARD OF 'larderlaw.TargetEscapes'. -/
def targetEscapesUptoCard : Claim7 := { stood := { row := targetEscapesUptoRow, standIns := [], harness := (true, "08c9e460121a12b2f0a79a4f1a929f3ee1ab76d804cf495e03626e2ac325184e"), looks := true }, kinds := [], alts := [], laidByText := true, laidKinds := [.data, .data, .data, .sentinel, .sentinel], laidTests := true, laidLooks := .later }
def TargetEscapesUptoCardSaid : Prop := Claim7.holds Tryd.pinned (.plain (OpenSpec.upto targetEscapesSpec)) targetEscapesUptoCard

/-- THE SECOND FORM's CARD OF 'larderlaw.TargetNormals'. -/
def targetNormalsUptoCard : Claim7 := { stood := { row := targetNormalsUptoRow, standIns := [], harness := (true, "08c9e460121a12b2f0a79a4f1a929f3ee1ab76d804cf495e03626e2ac325184e"), looks := true }, kinds := [], alts := [], laidByText := true, laidKinds := [.data, .data, .data, .data, .sentinel, .sentinel, .pinned], laidTests := true, laidLooks := .later }
def TargetNormalsUptoCardSaid : Prop := Claim7.holds Tryd.pinned (.plain (OpenSpec.upto targetNormalsSpec)) targetNormalsUptoCard

/-- THE SECOND FORM's CARD OF 'larderkeep.TargetBack'. -/
def targetBackUptoCard : Claim7 := { stood := { row := targetBackUptoRow, standIns := [], harness := (true, "08c9e460121a12b2f0a79a4f1a929f3ee1ab76d804cf495e03626e2ac325184e"), looks := true }, kinds := [], alts := [], laidByText := true, laidKinds := [.data, .data, .data, .sentinel, .sentinel], laidTests := true, laidLooks := .later }
def TargetBackUptoCardSaid : Prop := Claim7.holds Tryd.pinned (.plain (OpenSpec.upto targetBackSpec)) targetBackUptoCard

/-- THE SECOND FORM's CARD OF 'larderkeep.TargetOnce'. -/
def targetOnceUptoCard : Claim7 := { stood := { row := targetOnceUptoRow, standIns := [], harness := (true, "08c9e460121a12b2f0a79a4f1a929f3ee1ab76d804cf495e03626e2ac325184e"), looks := true }, kinds := [], alts := [], laidByText := true, laidKinds := [.data, .data, .data, .data, .sentinel, .sentinel, .pinned], laidTests := true, laidLooks := .later }
def TargetOnceUptoCardSaid : Prop := Claim7.holds Tryd.pinned (.plain (OpenSpec.upto targetOnceSpec)) targetOnceUptoCard

/-- THE SECOND FORM's CARD OF 'larderkeep.TargetDots'. -/
def targetDotsUptoCard : Claim7 := { stood := { row := targetDotsUptoRow, standIns := [], harness := (true, "08c9e460121a12b2f0a79a4f1a929f3ee1ab76d804cf495e03626e2ac325184e"), looks := true }, kinds := [], alts := [], laidByText := true, laidKinds := [.data, .data, .data, .data, .sentinel, .sentinel, .pinned], laidTests := true, laidLooks := .later }
def TargetDotsUptoCardSaid : Prop := Claim7.holds Tryd.pinned (.plain (OpenSpec.upto targetDotsSpec)) targetDotsUptoCard

/-- THE SECOND FORM's CARD OF 'larderkeep.TargetSame'. -/
def targetSameUptoCard : Claim7 := { stood := { row := targetSameUptoRow, standIns := [], harness := (true, "08c9e460121a12b2f0a79a4f1a929f3ee1ab76d804cf495e03626e2ac325184e"), looks := true }, kinds := [], alts := [], laidByText := true, laidKinds := [.data, .data, .data, .data, .sentinel, .sentinel, .pinned, .pinned], laidTests := true, laidLooks := .later }
def TargetSameUptoCardSaid : Prop := Claim7.holds Tryd.pinned (.plain (OpenSpec.upto targetSameSpec)) targetSameUptoCard
end Rows
end Go.Proofs.YtbmmlbphbllcoaaDoor
