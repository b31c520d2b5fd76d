/-
  DERIVED. GIVEN WITH THE SEED: THE CARDS: each row of YtoccjnbodoiibabDoorRows.lean that lists a variable, with what it lists TIED to the program's text (the seventh form; the later family's looks); each row that meets fmt, with fmt's text TOLD by the authors' own Lean function (tested against real Go, not proved from fmt's source: count such statements apart). THE CARD IS WHAT COUNTS. Prove the row's statement (the work); the ties are given (YtoccjnbodoiibabDoorTie.lean); close each card by the builder's one call (the guide's Derived/Test/ToyasCard.lean, 'card_holds'). Laid BY PROGRAM, IN A SANDBOX (cutbox-door.mjs). By AI agents, Wed Nov 11 2026. No macro, syntax, notation, axiom, sorry.
-/
import Derived.Test.YtoccjnbodoiibabDoorRows
import GoSem.ClaimSeven
namespace Go.Proofs.YtoccjnbodoiibabDoor
namespace Rows

/-- THE TIED CARD OF 'larderlaw.TokenParams'. -/
def tokenParamsCard : Claim7 := { stood := { row := tokenParamsRow, standIns := [], harness := (true, "e52f4923b08adabb697093131b1017a150f34ede0200af028ff76b0731e64f9c"), looks := false }, kinds := [], alts := [], laidByText := true, laidKinds := [.data, .pinned], laidTests := true, laidLooks := .later }
def TokenParamsCardSaid : Prop := Claim7.holds Tryd.pinned (.plain (OpenSpec.ofChange tokenParamsSpec)) tokenParamsCard

/-- THE TIED CARD OF 'larderkeep.TokenPairs'. -/
def tokenPairsCard : Claim7 := { stood := { row := tokenPairsRow, standIns := [], harness := (true, "e52f4923b08adabb697093131b1017a150f34ede0200af028ff76b0731e64f9c"), looks := false }, kinds := [], alts := [], laidByText := true, laidKinds := [.data, .pinned], laidTests := true, laidLooks := .later }
def TokenPairsCardSaid : Prop := Claim7.holds Tryd.pinned (.plain (OpenSpec.ofChange tokenPairsSpec)) tokenPairsCard

/-- THE SECOND FORM's CARD OF 'larderlaw.TokenParams'. -/
def tokenParamsUptoCard : Claim7 := { stood := { row := tokenParamsUptoRow, standIns := [], harness := (true, "e52f4923b08adabb697093131b1017a150f34ede0200af028ff76b0731e64f9c"), looks := false }, kinds := [], alts := [], laidByText := true, laidKinds := [.data, .pinned], laidTests := true, laidLooks := .later }
def TokenParamsUptoCardSaid : Prop := Claim7.holds Tryd.pinned (.plain (OpenSpec.upto tokenParamsSpec)) tokenParamsUptoCard

/-- THE SECOND FORM's CARD OF 'larderkeep.TokenPairs'. -/
def tokenPairsUptoCard : Claim7 := { stood := { row := tokenPairsUptoRow, standIns := [], harness := (true, "e52f4923b08adabb697093131b1017a150f34ede0200af028ff76b0731e64f9c"), looks := false }, kinds := [], alts := [], laidByText := true, laidKinds := [.data, .pinned], laidTests := true, laidLooks := .later }
def TokenPairsUptoCardSaid : Prop := Claim7.holds Tryd.pinned (.plain (OpenSpec.upto tokenPairsSpec)) tokenPairsUptoCard
end Rows
end Go.Proofs.YtoccjnbodoiibabDoor
