/-
  DERIVED. GIVEN WITH THE SEED: THE CARDS: each row of YteifheoomodplaaDoorRows.lean that lists a variable, with what it lists TIED to the program's text (the seventh form; the later family's looks); each row that meets fmt, with fmt's text TOLD by the authors' own Lean function (tested against real Go, not proved from fmt's source: count such statements apart). THE CARD IS WHAT COUNTS. Prove the row's statement (the work); the ties are given (YteifheoomodplaaDoorTie.lean); close each card by the builder's one call (the guide's Derived/Test/ToyasCard.lean, 'card_holds'). Laid BY PROGRAM, IN A SANDBOX (cutbox-door.mjs). By AI agents, Wed Nov 11 2026. No macro, syntax, notation, axiom, sorry.
-/
import Derived.Test.YteifheoomodplaaDoorRows
import GoSem.ClaimSeven
namespace Go.Proofs.YteifheoomodplaaDoor
namespace Rows

/-- THE TIED CARD OF 'larderlaw.VarySays'. -/
def varySaysCard : Claim7 := { stood := { row := varySaysRow, standIns := [], harness := (true, "88e2dc1a5b125948e4686ee6750360c088b23e994fe4b42c17b5f7a71a305b58"), looks := false }, kinds := [], alts := [], laidByText := true, laidKinds := [.data, .pinned], laidTests := true, laidLooks := .later }
def VarySaysCardSaid : Prop := Claim7.holds Tryd.pinned (.plain (OpenSpec.ofChange varySaysSpec)) varySaysCard

/-- THE TIED CARD OF 'larderkeep.VarySame'. -/
def varySameCard : Claim7 := { stood := { row := varySameRow, standIns := [], harness := (true, "88e2dc1a5b125948e4686ee6750360c088b23e994fe4b42c17b5f7a71a305b58"), looks := false }, kinds := [], alts := [], laidByText := true, laidKinds := [.data, .pinned], laidTests := true, laidLooks := .later }
def VarySameCardSaid : Prop := Claim7.holds Tryd.pinned (.plain (OpenSpec.ofChange varySameSpec)) varySameCard

/-- THE TIED CARD OF 'larderkeep.VaryMore'. -/
def varyMoreCard : Claim7 := { stood := { row := varyMoreRow, standIns := [], harness := (true, "88e2dc1a5b125948e4686ee6750360c088b23e994fe4b42c17b5f7a71a305b58"), looks := false }, kinds := [], alts := [], laidByText := true, laidKinds := [.data, .pinned], laidTests := true, laidLooks := .later }
def VaryMoreCardSaid : Prop := Claim7.holds Tryd.pinned (.plain (OpenSpec.ofChange varyMoreSpec)) varyMoreCard

/-- THE TIED CARD OF 'larderkeep.VaryNames'. -/
def varyNamesCard : Claim7 := { stood := { row := varyNamesRow, standIns := [], harness := (true, "88e2dc1a5b125948e4686ee6750360c088b23e994fe4b42c17b5f7a71a305b58"), looks := false }, kinds := [], alts := [], laidByText := true, laidKinds := [.data, .pinned, .pinned], laidTests := true, laidLooks := .later }
def VaryNamesCardSaid : Prop := Claim7.holds Tryd.pinned (.plain (OpenSpec.ofChange varyNamesSpec)) varyNamesCard

/-- THE SECOND FORM's CARD OF 'larderlaw.VarySays'. -/
def varySaysUptoCard : Claim7 := { stood := { row := varySaysUptoRow, standIns := [], harness := (true, "88e2dc1a5b125948e4686ee6750360c088b23e994fe4b42c17b5f7a71a305b58"), looks := false }, kinds := [], alts := [], laidByText := true, laidKinds := [.data, .pinned], laidTests := true, laidLooks := .later }
def VarySaysUptoCardSaid : Prop := Claim7.holds Tryd.pinned (.plain (OpenSpec.upto varySaysSpec)) varySaysUptoCard

/-- THE SECOND FORM's CARD OF 'larderkeep.VarySame'. -/
def varySameUptoCard : Claim7 := { stood := { row := varySameUptoRow, standIns := [], harness := (true, "88e2dc1a5b125948e4686ee6750360c088b23e994fe4b42c17b5f7a71a305b58"), looks := false }, kinds := [], alts := [], laidByText := true, laidKinds := [.data, .pinned], laidTests := true, laidLooks := .later }
def VarySameUptoCardSaid : Prop := Claim7.holds Tryd.pinned (.plain (OpenSpec.upto varySameSpec)) varySameUptoCard

/-- THE SECOND FORM's CARD OF 'larderkeep.VaryMore'. -/
def varyMoreUptoCard : Claim7 := { stood := { row := varyMoreUptoRow, standIns := [], harness := (true, "88e2dc1a5b125948e4686ee6750360c088b23e994fe4b42c17b5f7a71a305b58"), looks := false }, kinds := [], alts := [], laidByText := true, laidKinds := [.data, .pinned], laidTests := true, laidLooks := .later }
def VaryMoreUptoCardSaid : Prop := Claim7.holds Tryd.pinned (.plain (OpenSpec.upto varyMoreSpec)) varyMoreUptoCard

/-- THE SECOND FORM's CARD OF 'larderkeep.VaryNames'. -/
def varyNamesUptoCard : Claim7 := { stood := { row := varyNamesUptoRow, standIns := [], harness := (true, "88e2dc1a5b125948e4686ee6750360c088b23e994fe4b42c17b5f7a71a305b58"), looks := false }, kinds := [], alts := [], laidByText := true, laidKinds := [.data, .pinned, .pinned], laidTests := true, laidLooks := .later }
def VaryNamesUptoCardSaid : Prop := Claim7.holds Tryd.pinned (.plain (OpenSpec.upto varyNamesSpec)) varyNamesUptoCard
end Rows
end Go.Proofs.YteifheoomodplaaDoor
