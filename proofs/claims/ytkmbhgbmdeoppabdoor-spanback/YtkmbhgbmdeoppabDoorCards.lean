/-
  DERIVED. GIVEN WITH THE SEED: THE CARDS: each row of YtkmbhgbmdeoppabDoorRows.lean that lists a variable, with what it lists TIED to the program's text (the seventh form; the later family's looks); each row that meets fmt, with fmt's text TOLD by the authors' own Lean function (tested against real Go, not proved from fmt's source: count such statements apart). THE CARD IS WHAT COUNTS. Prove the row's statement (the work); the ties are given (YtkmbhgbmdeoppabDoorTie.lean); close each card by the builder's one call (the guide's Derived/Test/ToyasCard.lean, 'card_holds'). Laid BY PROGRAM, IN A SANDBOX (cutbox-door.mjs). By AI agents, Wed Nov 11 2026. No macro, syntax, notation, axiom, sorry.
-/
import Derived.Test.YtkmbhgbmdeoppabDoorRows
import GoSem.ClaimSeven
namespace Go.Proofs.YtkmbhgbmdeoppabDoor
namespace Rows

/-- THE TIED CARD OF 'larderlaw.SpanUnbundles'. -/
def spanUnbundlesCard : Claim7 := { stood := { row := spanUnbundlesRow, standIns := [], harness := (true, "fff283ee206880c2d1e1f16a582922e21c86cd88888e13587efe070a0c45bb78"), looks := true }, kinds := [], alts := [], laidByText := true, laidKinds := [.data, .data, .data, .sentinel, .sentinel], laidTests := true, laidLooks := .later }
def SpanUnbundlesCardSaid : Prop := Claim7.holds Tryd.pinned (.plain (OpenSpec.ofChange spanUnbundlesSpec)) spanUnbundlesCard

/-- THE TIED CARD OF 'larderkeep.SpanBack'. -/
def spanBackCard : Claim7 := { stood := { row := spanBackRow, standIns := [], harness := (true, "fff283ee206880c2d1e1f16a582922e21c86cd88888e13587efe070a0c45bb78"), looks := true }, kinds := [], alts := [], laidByText := true, laidKinds := [.data, .data, .data, .data, .sentinel, .sentinel, .pinned], laidTests := true, laidLooks := .later }
def SpanBackCardSaid : Prop := Claim7.holds Tryd.pinned (.plain (OpenSpec.ofChange spanBackSpec)) spanBackCard

/-- THE SECOND FORM's CARD OF 'larderlaw.SpanUnbundles'. -/
def spanUnbundlesUptoCard : Claim7 := { stood := { row := spanUnbundlesUptoRow, standIns := [], harness := (true, "fff283ee206880c2d1e1f16a582922e21c86cd88888e13587efe070a0c45bb78"), looks := true }, kinds := [], alts := [], laidByText := true, laidKinds := [.data, .data, .data, .sentinel, .sentinel], laidTests := true, laidLooks := .later }
def SpanUnbundlesUptoCardSaid : Prop := Claim7.holds Tryd.pinned (.plain (OpenSpec.upto spanUnbundlesSpec)) spanUnbundlesUptoCard

/-- THE SECOND FORM's CARD OF 'larderkeep.SpanBack'. -/
def spanBackUptoCard : Claim7 := { stood := { row := spanBackUptoRow, standIns := [], harness := (true, "fff283ee206880c2d1e1f16a582922e21c86cd88888e13587efe070a0c45bb78"), looks := true }, kinds := [], alts := [], laidByText := true, laidKinds := [.data, .data, .data, .data, .sentinel, .sentinel, .pinned], laidTests := true, laidLooks := .later }
def SpanBackUptoCardSaid : Prop := Claim7.holds Tryd.pinned (.plain (OpenSpec.upto spanBackSpec)) spanBackUptoCard
end Rows
end Go.Proofs.YtkmbhgbmdeoppabDoor
