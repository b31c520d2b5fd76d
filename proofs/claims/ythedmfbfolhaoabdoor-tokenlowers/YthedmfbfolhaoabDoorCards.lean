/-
  DERIVED. GIVEN WITH THE SEED: THE CARDS: each row of YthedmfbfolhaoabDoorRows.lean that lists a variable, with what it lists TIED to the program's text (the seventh form; the later family's looks); each row that meets fmt, with fmt's text TOLD by the authors' own Lean function (tested against real Go, not proved from fmt's source: count such statements apart). THE CARD IS WHAT COUNTS. Prove the row's statement (the work); the ties are given (YthedmfbfolhaoabDoorTie.lean); close each card by the builder's one call (the guide's Derived/Test/ToyasCard.lean, 'card_holds'). Laid BY PROGRAM, IN A SANDBOX (cutbox-door.mjs). By AI agents, Wed Nov 11 2026. No macro, syntax, notation, axiom, sorry.
-/
import Derived.Test.YthedmfbfolhaoabDoorRows
import GoSem.ClaimSeven
namespace Go.Proofs.YthedmfbfolhaoabDoor
namespace Rows

/-- THE TIED CARD OF 'larderkeep.TokenLowers'. -/
def tokenLowersCard : Claim7 := { stood := { row := tokenLowersRow, standIns := [], harness := (true, "a8a13fca8c2110add28b535aebc5e13585eeed6a1ef20b58142cf7573256d663"), looks := false }, kinds := [], alts := [], laidByText := true, laidKinds := [.data, .data, .data, .pinned, .pinned], laidTests := true, laidLooks := .later }
def TokenLowersCardSaid : Prop := Claim7.holds Tryd.pinned (.plain (OpenSpec.ofChange tokenLowersSpec)) tokenLowersCard

/-- THE TIED CARD OF 'larderkeep.TokenJoins'. -/
def tokenJoinsCard : Claim7 := { stood := { row := tokenJoinsRow, standIns := [], harness := (true, "a8a13fca8c2110add28b535aebc5e13585eeed6a1ef20b58142cf7573256d663"), looks := false }, kinds := [], alts := [], laidByText := true, laidKinds := [.data, .pinned], laidTests := true, laidLooks := .later }
def TokenJoinsCardSaid : Prop := Claim7.holds Tryd.pinned (.plain (OpenSpec.ofChange tokenJoinsSpec)) tokenJoinsCard

/-- THE TIED CARD OF 'larderkeep.TokenAgain'. -/
def tokenAgainCard : Claim7 := { stood := { row := tokenAgainRow, standIns := [], harness := (true, "a8a13fca8c2110add28b535aebc5e13585eeed6a1ef20b58142cf7573256d663"), looks := false }, kinds := [], alts := [], laidByText := true, laidKinds := [.data, .pinned], laidTests := true, laidLooks := .later }
def TokenAgainCardSaid : Prop := Claim7.holds Tryd.pinned (.plain (OpenSpec.ofChange tokenAgainSpec)) tokenAgainCard

/-- THE TIED CARD OF 'larderkeep.TokenCommas'. -/
def tokenCommasCard : Claim7 := { stood := { row := tokenCommasRow, standIns := [], harness := (true, "a8a13fca8c2110add28b535aebc5e13585eeed6a1ef20b58142cf7573256d663"), looks := false }, kinds := [], alts := [], laidByText := true, laidKinds := [.data, .pinned], laidTests := true, laidLooks := .later }
def TokenCommasCardSaid : Prop := Claim7.holds Tryd.pinned (.plain (OpenSpec.ofChange tokenCommasSpec)) tokenCommasCard

/-- THE SECOND FORM's CARD OF 'larderkeep.TokenLowers'. -/
def tokenLowersUptoCard : Claim7 := { stood := { row := tokenLowersUptoRow, standIns := [], harness := (true, "a8a13fca8c2110add28b535aebc5e13585eeed6a1ef20b58142cf7573256d663"), looks := false }, kinds := [], alts := [], laidByText := true, laidKinds := [.data, .data, .data, .pinned, .pinned], laidTests := true, laidLooks := .later }
def TokenLowersUptoCardSaid : Prop := Claim7.holds Tryd.pinned (.plain (OpenSpec.upto tokenLowersSpec)) tokenLowersUptoCard

/-- THE SECOND FORM's CARD OF 'larderkeep.TokenJoins'. -/
def tokenJoinsUptoCard : Claim7 := { stood := { row := tokenJoinsUptoRow, standIns := [], harness := (true, "a8a13fca8c2110add28b535aebc5e13585eeed6a1ef20b58142cf7573256d663"), looks := false }, kinds := [], alts := [], laidByText := true, laidKinds := [.data, .pinned], laidTests := true, laidLooks := .later }
def TokenJoinsUptoCardSaid : Prop := Claim7.holds Tryd.pinned (.plain (OpenSpec.upto tokenJoinsSpec)) tokenJoinsUptoCard

/-- THE SECOND FORM's CARD OF 'larderkeep.TokenAgain'. -/
def tokenAgainUptoCard : Claim7 := { stood := { row := tokenAgainUptoRow, standIns := [], harness := (true, "a8a13fca8c2110add28b535aebc5e13585eeed6a1ef20b58142cf7573256d663"), looks := false }, kinds := [], alts := [], laidByText := true, laidKinds := [.data, .pinned], laidTests := true, laidLooks := .later }
def TokenAgainUptoCardSaid : Prop := Claim7.holds Tryd.pinned (.plain (OpenSpec.upto tokenAgainSpec)) tokenAgainUptoCard

/-- THE SECOND FORM's CARD OF 'larderkeep.TokenCommas'. -/
def tokenCommasUptoCard : Claim7 := { stood := { row := tokenCommasUptoRow, standIns := [], harness := (true, "a8a13fca8c2110add28b535aebc5e13585eeed6a1ef20b58142cf7573256d663"), looks := false }, kinds := [], alts := [], laidByText := true, laidKinds := [.data, .pinned], laidTests := true, laidLooks := .later }
def TokenCommasUptoCardSaid : Prop := Claim7.holds Tryd.pinned (.plain (OpenSpec.upto tokenCommasSpec)) tokenCommasUptoCard
end Rows
end Go.Proofs.YthedmfbfolhaoabDoor
