/-
  DERIVED. GIVEN WITH THE SEED: THE CARDS: each row of YthedmfbfolhaoacDoorRows.lean that lists a variable, with what it lists TIED to the program's text (the seventh form; the later family's looks); each row that meets fmt, with fmt's text TOLD by the authors' own Lean function (tested against real Go, not proved from fmt's source: count such statements apart). THE CARD IS WHAT COUNTS. Prove the row's statement (the work); the ties are given (YthedmfbfolhaoacDoorTie.lean); close each card by the builder's one call (the guide's Derived/Test/ToyasCard.lean, 'card_holds'). Laid BY PROGRAM, IN A SANDBOX (cutbox-door.mjs). By AI agents, Wed Nov 11 2026. No macro, syntax, notation, axiom, sorry.
-/
import Derived.Test.YthedmfbfolhaoacDoorRows
import GoSem.ClaimSeven
namespace Go.Proofs.YthedmfbfolhaoacDoor
namespace Rows

/-- THE TIED CARD OF 'larderkeep.TokenPairs'. -/
def tokenPairsCard : Claim7 := { stood := { row := tokenPairsRow, standIns := [], harness := (true, "a911c2c9765897ec8e2a3ff695a84d587852270205451e456f05decc59874d82"), looks := false }, kinds := [], alts := [], laidByText := true, laidKinds := [.data, .pinned], laidTests := true, laidLooks := .later }
def TokenPairsCardSaid : Prop := Claim7.holds Tryd.pinned (.plain (OpenSpec.ofChange tokenPairsSpec)) tokenPairsCard

/-- THE SECOND FORM's CARD OF 'larderkeep.TokenPairs'. -/
def tokenPairsUptoCard : Claim7 := { stood := { row := tokenPairsUptoRow, standIns := [], harness := (true, "a911c2c9765897ec8e2a3ff695a84d587852270205451e456f05decc59874d82"), looks := false }, kinds := [], alts := [], laidByText := true, laidKinds := [.data, .pinned], laidTests := true, laidLooks := .later }
def TokenPairsUptoCardSaid : Prop := Claim7.holds Tryd.pinned (.plain (OpenSpec.upto tokenPairsSpec)) tokenPairsUptoCard
end Rows
end Go.Proofs.YthedmfbfolhaoacDoor
