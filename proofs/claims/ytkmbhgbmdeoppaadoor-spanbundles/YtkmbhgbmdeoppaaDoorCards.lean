/-
  DERIVED. GIVEN WITH THE SEED: THE CARDS: each row of YtkmbhgbmdeoppaaDoorRows.lean that lists a variable, with what it lists TIED to the program's text (the seventh form; the later family's looks); each row that meets fmt, with fmt's text TOLD by the authors' own Lean function (tested against real Go, not proved from fmt's source: count such statements apart). THE CARD IS WHAT COUNTS. Prove the row's statement (the work); the ties are given (YtkmbhgbmdeoppaaDoorTie.lean); close each card by the builder's one call (the guide's Derived/Test/ToyasCard.lean, 'card_holds'). Laid BY PROGRAM, IN A SANDBOX (cutbox-door.mjs). By AI agents, Wed Nov 11 2026. No macro, syntax, notation, axiom, sorry.
-/
import Derived.Test.YtkmbhgbmdeoppaaDoorRows
import GoSem.ClaimSeven
namespace Go.Proofs.YtkmbhgbmdeoppaaDoor
namespace Rows

/-- THE TIED CARD OF 'larderlaw.SpanPrints'. -/
def spanPrintsCard : Claim7 := { stood := { row := spanPrintsRow, standIns := [], harness := (true, "d06f5dc9f154ffd55c34ba6f7aa44b8e75dc01748926fbc1141525aec44533c5"), looks := true }, kinds := [], alts := [], laidByText := true, laidKinds := [.data, .data, .data], laidTests := true, laidLooks := .later }
def SpanPrintsCardSaid : Prop := Claim7.holds Tryd.pinned (.plain (OpenSpec.ofChange spanPrintsSpec)) spanPrintsCard

/-- THE TIED CARD OF 'larderlaw.SpanParses'. -/
def spanParsesCard : Claim7 := { stood := { row := spanParsesRow, standIns := [], harness := (true, "d06f5dc9f154ffd55c34ba6f7aa44b8e75dc01748926fbc1141525aec44533c5"), looks := true }, kinds := [], alts := [], laidByText := true, laidKinds := [.data, .data, .data, .data, .sentinel, .sentinel, .pinned], laidTests := true, laidLooks := .later }
def SpanParsesCardSaid : Prop := Claim7.holds Tryd.pinned (.plain (OpenSpec.ofChange spanParsesSpec)) spanParsesCard

/-- THE TIED CARD OF 'larderlaw.SpanContents'. -/
def spanContentsCard : Claim7 := { stood := { row := spanContentsRow, standIns := [], harness := (true, "d06f5dc9f154ffd55c34ba6f7aa44b8e75dc01748926fbc1141525aec44533c5"), looks := true }, kinds := [], alts := [], laidByText := true, laidKinds := [.data, .data, .data, .sentinel, .sentinel], laidTests := true, laidLooks := .later }
def SpanContentsCardSaid : Prop := Claim7.holds Tryd.pinned (.plain (OpenSpec.ofChange spanContentsSpec)) spanContentsCard

/-- THE TIED CARD OF 'larderlaw.SpanBundles'. -/
def spanBundlesCard : Claim7 := { stood := { row := spanBundlesRow, standIns := [], harness := (true, "d06f5dc9f154ffd55c34ba6f7aa44b8e75dc01748926fbc1141525aec44533c5"), looks := true }, kinds := [], alts := [], laidByText := true, laidKinds := [.data, .data, .data], laidTests := true, laidLooks := .later }
def SpanBundlesCardSaid : Prop := Claim7.holds Tryd.pinned (.plain (OpenSpec.ofChange spanBundlesSpec)) spanBundlesCard

/-- THE SECOND FORM's CARD OF 'larderlaw.SpanPrints'. -/
def spanPrintsUptoCard : Claim7 := { stood := { row := spanPrintsUptoRow, standIns := [], harness := (true, "d06f5dc9f154ffd55c34ba6f7aa44b8e75dc01748926fbc1141525aec44533c5"), looks := true }, kinds := [], alts := [], laidByText := true, laidKinds := [.data, .data, .data], laidTests := true, laidLooks := .later }
def SpanPrintsUptoCardSaid : Prop := Claim7.holds Tryd.pinned (.plain (OpenSpec.upto spanPrintsSpec)) spanPrintsUptoCard

/-- THE SECOND FORM's CARD OF 'larderlaw.SpanParses'. -/
def spanParsesUptoCard : Claim7 := { stood := { row := spanParsesUptoRow, standIns := [], harness := (true, "d06f5dc9f154ffd55c34ba6f7aa44b8e75dc01748926fbc1141525aec44533c5"), looks := true }, kinds := [], alts := [], laidByText := true, laidKinds := [.data, .data, .data, .data, .sentinel, .sentinel, .pinned], laidTests := true, laidLooks := .later }
def SpanParsesUptoCardSaid : Prop := Claim7.holds Tryd.pinned (.plain (OpenSpec.upto spanParsesSpec)) spanParsesUptoCard

/-- THE SECOND FORM's CARD OF 'larderlaw.SpanContents'. -/
def spanContentsUptoCard : Claim7 := { stood := { row := spanContentsUptoRow, standIns := [], harness := (true, "d06f5dc9f154ffd55c34ba6f7aa44b8e75dc01748926fbc1141525aec44533c5"), looks := true }, kinds := [], alts := [], laidByText := true, laidKinds := [.data, .data, .data, .sentinel, .sentinel], laidTests := true, laidLooks := .later }
def SpanContentsUptoCardSaid : Prop := Claim7.holds Tryd.pinned (.plain (OpenSpec.upto spanContentsSpec)) spanContentsUptoCard

/-- THE SECOND FORM's CARD OF 'larderlaw.SpanBundles'. -/
def spanBundlesUptoCard : Claim7 := { stood := { row := spanBundlesUptoRow, standIns := [], harness := (true, "d06f5dc9f154ffd55c34ba6f7aa44b8e75dc01748926fbc1141525aec44533c5"), looks := true }, kinds := [], alts := [], laidByText := true, laidKinds := [.data, .data, .data], laidTests := true, laidLooks := .later }
def SpanBundlesUptoCardSaid : Prop := Claim7.holds Tryd.pinned (.plain (OpenSpec.upto spanBundlesSpec)) spanBundlesUptoCard
end Rows
end Go.Proofs.YtkmbhgbmdeoppaaDoor
