/-
  DERIVED. GIVEN WITH THE SEED: THE CARDS: each row of YtigbjhkkbgdkcaaGreatDoorRows.lean that lists a variable, with what it lists TIED to the program's text (the seventh form; the later family's looks); each row that meets fmt, with fmt's text TOLD by the authors' own Lean function (tested against real Go, not proved from fmt's source: count such statements apart). THE CARD IS WHAT COUNTS. Prove the row's statement (the work); the ties are given (YtigbjhkkbgdkcaaGreatDoorTie.lean); close each card by the builder's one call (the guide's Derived/Test/ToyasCard.lean, 'card_holds'). Laid BY PROGRAM, IN A SANDBOX (cutbox-door.mjs). By AI agents, Wed Nov 11 2026. No macro, syntax, notation, axiom, sorry.
-/
import Derived.Test.YtigbjhkkbgdkcaaGreatDoorRows
import GoSem.ClaimSeven
namespace Go.Proofs.YtigbjhkkbgdkcaaGreatDoor
namespace Rows

/-- THE TIED CARD OF 'larderlaw.CondSays'. -/
def condSaysCard : Claim7 := { stood := { row := condSaysRow, standIns := [], harness := (true, "3f2bdb33d810e6ef9e71ee0b6bc474e284be64a4a68146cf72bf6869cb0ced72"), looks := false }, kinds := [], alts := [], laidByText := true, laidKinds := [.data, .data, .data, .data, .data, .data, .pinned], laidTests := true, laidLooks := .later }
def CondSaysCardSaid : Prop := Claim7.holds Tryz.pinned (.plain (OpenSpec.ofChange condSaysSpec)) condSaysCard

/-- THE TIED CARD OF 'larderkeep.CondNothing'. -/
def condNothingCard : Claim7 := { stood := { row := condNothingRow, standIns := [], harness := (true, "3f2bdb33d810e6ef9e71ee0b6bc474e284be64a4a68146cf72bf6869cb0ced72"), looks := false }, kinds := [], alts := [], laidByText := true, laidKinds := [.data, .data, .data, .data, .data, .data, .pinned], laidTests := true, laidLooks := .later }
def CondNothingCardSaid : Prop := Claim7.holds Tryz.pinned (.plain (OpenSpec.ofChange condNothingSpec)) condNothingCard

/-- THE TIED CARD OF 'larderkeep.CondStar'. -/
def condStarCard : Claim7 := { stood := { row := condStarRow, standIns := [], harness := (true, "3f2bdb33d810e6ef9e71ee0b6bc474e284be64a4a68146cf72bf6869cb0ced72"), looks := false }, kinds := [], alts := [], laidByText := true, laidKinds := [.data, .data, .data, .data, .data, .data, .pinned], laidTests := true, laidLooks := .later }
def CondStarCardSaid : Prop := Claim7.holds Tryz.pinned (.plain (OpenSpec.ofChange condStarSpec)) condStarCard

/-- THE TIED CARD OF 'larderkeep.CondMine'. -/
def condMineCard : Claim7 := { stood := { row := condMineRow, standIns := [], harness := (true, "3f2bdb33d810e6ef9e71ee0b6bc474e284be64a4a68146cf72bf6869cb0ced72"), looks := false }, kinds := [], alts := [], laidByText := true, laidKinds := [.data, .data, .data, .data, .data, .data, .pinned], laidTests := true, laidLooks := .later }
def CondMineCardSaid : Prop := Claim7.holds Tryz.pinned (.plain (OpenSpec.ofChange condMineSpec)) condMineCard

/-- THE TIED CARD OF 'larderkeep.CondFirst'. -/
def condFirstCard : Claim7 := { stood := { row := condFirstRow, standIns := [], harness := (true, "3f2bdb33d810e6ef9e71ee0b6bc474e284be64a4a68146cf72bf6869cb0ced72"), looks := false }, kinds := [], alts := [], laidByText := true, laidKinds := [.data, .data, .data, .data, .data, .data, .pinned], laidTests := true, laidLooks := .later }
def CondFirstCardSaid : Prop := Claim7.holds Tryz.pinned (.plain (OpenSpec.ofChange condFirstSpec)) condFirstCard

/-- THE TIED CARD OF 'larderkeep.CondDates'. -/
def condDatesCard : Claim7 := { stood := { row := condDatesRow, standIns := [], harness := (true, "3f2bdb33d810e6ef9e71ee0b6bc474e284be64a4a68146cf72bf6869cb0ced72"), looks := false }, kinds := [], alts := [], laidByText := true, laidKinds := [.data, .data, .data, .data, .data, .data, .pinned], laidTests := true, laidLooks := .later }
def CondDatesCardSaid : Prop := Claim7.holds Tryz.pinned (.plain (OpenSpec.ofChange condDatesSpec)) condDatesCard

/-- THE SECOND FORM's CARD OF 'larderlaw.CondSays'. -/
def condSaysUptoCard : Claim7 := { stood := { row := condSaysUptoRow, standIns := [], harness := (true, "3f2bdb33d810e6ef9e71ee0b6bc474e284be64a4a68146cf72bf6869cb0ced72"), looks := false }, kinds := [], alts := [], laidByText := true, laidKinds := [.data, .data, .data, .data, .data, .data, .pinned], laidTests := true, laidLooks := .later }
def CondSaysUptoCardSaid : Prop := Claim7.holds Tryz.pinned (.plain (OpenSpec.upto condSaysSpec)) condSaysUptoCard

/-- THE SECOND FORM's CARD OF 'larderkeep.CondNothing'. -/
def condNothingUptoCard : Claim7 := { stood := { row := condNothingUptoRow, standIns := [], harness := (true, "3f2bdb33d810e6ef9e71ee0b6bc474e284be64a4a68146cf72bf6869cb0ced72"), looks := false }, kinds := [], alts := [], laidByText := true, laidKinds := [.data, .data, .data, .data, .data, .data, .pinned], laidTests := true, laidLooks := .later }
def CondNothingUptoCardSaid : Prop := Claim7.holds Tryz.pinned (.plain (OpenSpec.upto condNothingSpec)) condNothingUptoCard

/-- THE SECOND FORM's CARD OF 'larderkeep.CondStar'. -/
def condStarUptoCard : Claim7 := { stood := { row := condStarUptoRow, standIns := [], harness := (true, "3f2bdb33d810e6ef9e71ee0b6bc474e284be64a4a68146cf72bf6869cb0ced72"), looks := false }, kinds := [], alts := [], laidByText := true, laidKinds := [.data, .data, .data, .data, .data, .data, .pinned], laidTests := true, laidLooks := .later }
def CondStarUptoCardSaid : Prop := Claim7.holds Tryz.pinned (.plain (OpenSpec.upto condStarSpec)) condStarUptoCard

/-- THE SECOND FORM's CARD OF 'larderkeep.CondMine'. -/
def condMineUptoCard : Claim7 := { stood := { row := condMineUptoRow, standIns := [], harness := (true, "3f2bdb33d810e6ef9e71ee0b6bc474e284be64a4a68146cf72bf6869cb0ced72"), looks := false }, kinds := [], alts := [], laidByText := true, laidKinds := [.data, .data, .data, .data, .data, .data, .pinned], laidTests := true, laidLooks := .later }
def CondMineUptoCardSaid : Prop := Claim7.holds Tryz.pinned (.plain (OpenSpec.upto condMineSpec)) condMineUptoCard

/-- THE SECOND FORM's CARD OF 'larderkeep.CondFirst'. -/
def condFirstUptoCard : Claim7 := { stood := { row := condFirstUptoRow, standIns := [], harness := (true, "3f2bdb33d810e6ef9e71ee0b6bc474e284be64a4a68146cf72bf6869cb0ced72"), looks := false }, kinds := [], alts := [], laidByText := true, laidKinds := [.data, .data, .data, .data, .data, .data, .pinned], laidTests := true, laidLooks := .later }
def CondFirstUptoCardSaid : Prop := Claim7.holds Tryz.pinned (.plain (OpenSpec.upto condFirstSpec)) condFirstUptoCard

/-- THE SECOND FORM's CARD OF 'larderkeep.CondDates'. -/
def condDatesUptoCard : Claim7 := { stood := { row := condDatesUptoRow, standIns := [], harness := (true, "3f2bdb33d810e6ef9e71ee0b6bc474e284be64a4a68146cf72bf6869cb0ced72"), looks := false }, kinds := [], alts := [], laidByText := true, laidKinds := [.data, .data, .data, .data, .data, .data, .pinned], laidTests := true, laidLooks := .later }
def CondDatesUptoCardSaid : Prop := Claim7.holds Tryz.pinned (.plain (OpenSpec.upto condDatesSpec)) condDatesUptoCard
end Rows
end Go.Proofs.YtigbjhkkbgdkcaaGreatDoor
