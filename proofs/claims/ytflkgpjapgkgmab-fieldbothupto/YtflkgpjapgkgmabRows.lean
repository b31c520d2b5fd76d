/-
  No cell of these rows narrows 'for every input' (looked for: loops, veiled, ifaces, maps, wideKeys, modest, calm, conditions, laid).
  DERIVED. THE GIVEN ROWS OF THIS SEAT. 3 by the template 'for every input the law returns true; each argument reads behind the call as it read before'; 0 by the template 'total and deterministic' (their statements: YtflkgpjapgkgmabTotals.lean).
  GIVEN WITH THE SEED: the statements are not yours to turn. If you find one false, say at which input.
  Laid BY PROGRAM, IN A SANDBOX (cutbox-rows.mjs): the forced cells as the released guide's own fill.sh prints them over the translation 5bd42f3a7cedfa6b… (all of the seat's roots in one cut). By AI agents, Wed Nov 11 2026. No macro, syntax, notation, axiom, sorry.
-/
import Derived.Test.YtflkgpjapgkgmabChecked
import GoSem.Claim
import GoSem.ClaimJoined
import GoSem.ClaimMapViews
import Derived.JoinedTies
import Derived.KernelRfl
namespace Go.Proofs.Ytflkgpjapgkgmab
/- THE CELL 'sum', in the pinned program and in every row, IS THE sha256 OF THE DUMP (.gsa) THAT YtflkgpjapgkgmabProg.lean LOADS. Nothing in Lean hashes anything: it is a label: what it is worth is what the hold of that sum in a sandbox is worth. -/
noncomputable def Try.pinned : Pinned := { name := "ytflkgpjapgkgmab", sum := "5bd42f3a7cedfa6bca45b6a85d1b8eaeed4f80d62a400529a0d184d64cce0027", checked := Try.checked }
namespace Rows
def none {H : Type} : Left H := { results := [], args := [] }

/-- 'larderkeep.FieldSetGet': WHATEVER THE INPUT: true; the input reads as it did. -/
def fieldSetGetSpec : ChangeSpec := { name := "fieldSetGet", fn := fun _ => fun
  | [d1, d2, d3, d4, d5] => { results := [.lit (.bool true)], args := [d1, d2, d3, d4, d5] }
  | _ => none }
def fieldSetGetRow : OpenClaim := { program := "ytflkgpjapgkgmab", sum := "5bd42f3a7cedfa6bca45b6a85d1b8eaeed4f80d62a400529a0d184d64cce0027", func := "larder/larderkeep.FieldSetGet", spec := "fieldSetGet", inPlace := ["internal/abi.NoEscape", "internal/bytealg.MakeNoZero"], unfollowed := true, recurses := true, apart := false }
def FieldSetGetSaid : Prop := fieldSetGetRow.holds Try.pinned (OpenSpec.ofChange fieldSetGetSpec)

/-- ITS FALSE NEIGHBOUR: 'it returns false'. Refute it at one input. -/
def fieldSetGetWrong : ChangeSpec := { name := "fieldSetGet", fn := fun _ => fun
  | [d1, d2, d3, d4, d5] => { results := [.lit (.bool false)], args := [d1, d2, d3, d4, d5] }
  | _ => none }
def FieldSetGetWrongFalsely : Prop := fieldSetGetRow.holds Try.pinned (OpenSpec.ofChange fieldSetGetWrong)

/-- 'larderkeep.FieldDrops': WHATEVER THE INPUT: true; the input reads as it did. -/
def fieldDropsSpec : ChangeSpec := { name := "fieldDrops", fn := fun _ => fun
  | [d1, d2, d3] => { results := [.lit (.bool true)], args := [d1, d2, d3] }
  | _ => none }
def fieldDropsRow : OpenClaim := { program := "ytflkgpjapgkgmab", sum := "5bd42f3a7cedfa6bca45b6a85d1b8eaeed4f80d62a400529a0d184d64cce0027", func := "larder/larderkeep.FieldDrops", spec := "fieldDrops", inPlace := ["internal/abi.NoEscape", "internal/bytealg.MakeNoZero"], unfollowed := true, recurses := true, apart := false }
def FieldDropsSaid : Prop := fieldDropsRow.holds Try.pinned (OpenSpec.ofChange fieldDropsSpec)

/-- ITS FALSE NEIGHBOUR: 'it returns false'. Refute it at one input. -/
def fieldDropsWrong : ChangeSpec := { name := "fieldDrops", fn := fun _ => fun
  | [d1, d2, d3] => { results := [.lit (.bool false)], args := [d1, d2, d3] }
  | _ => none }
def FieldDropsWrongFalsely : Prop := fieldDropsRow.holds Try.pinned (OpenSpec.ofChange fieldDropsWrong)

/-- 'larderkeep.FieldBoth': WHATEVER THE INPUT: true; the input reads as it did. -/
def fieldBothSpec : ChangeSpec := { name := "fieldBoth", fn := fun _ => fun
  | [d1, d2, d3] => { results := [.lit (.bool true)], args := [d1, d2, d3] }
  | _ => none }
def fieldBothRow : OpenClaim := { program := "ytflkgpjapgkgmab", sum := "5bd42f3a7cedfa6bca45b6a85d1b8eaeed4f80d62a400529a0d184d64cce0027", func := "larder/larderkeep.FieldBoth", spec := "fieldBoth", inPlace := ["internal/abi.NoEscape", "internal/bytealg.MakeNoZero"], unfollowed := true, recurses := true, apart := false }
def FieldBothSaid : Prop := fieldBothRow.holds Try.pinned (OpenSpec.ofChange fieldBothSpec)

/-- ITS FALSE NEIGHBOUR: 'it returns false'. Refute it at one input. -/
def fieldBothWrong : ChangeSpec := { name := "fieldBoth", fn := fun _ => fun
  | [d1, d2, d3] => { results := [.lit (.bool false)], args := [d1, d2, d3] }
  | _ => none }
def FieldBothWrongFalsely : Prop := fieldBothRow.holds Try.pinned (OpenSpec.ofChange fieldBothWrong)

/- THE SECOND FORM. 'bulk': how many values and letters a reading holds, each counted each time it is reached (what is shared counts as often as it is met; a slice's spare places count too). A statement '..UptoSaid' is the law's where the arguments, and the package variables that the reading takes, are together of bulk at most 1048576: NARROWER than '..Said'. Prove '..Said' where nothing that the law and all that it calls make is longer than what came in: it says more and counts as full. Else prove '..UptoSaid'. A law counts once. -/
mutual
def uptoBulk {H : Type} : DataW H → Nat
  | .lit (.string bytes) => bytes.length + 1
  | .lit _ => 1
  | .nil => 1
  | .ptr d => uptoBulk d + 1
  | .slice elems spare => uptoBulkAll elems + uptoBulkAll spare + 1
  | .agg parts => uptoBulkAll parts + 1
  | .iface _ d => uptoBulk d + 1
  | .map entries => uptoBulkEntries entries + 1
  | .held _ => 1
def uptoBulkAll {H : Type} : List (DataW H) → Nat
  | [] => 0
  | d :: r => uptoBulk d + uptoBulkAll r
def uptoBulkEntries {H : Type} : List (Lit × DataW H) → Nat
  | [] => 0
  | x :: r => uptoBulkEntry x + uptoBulkEntries r
def uptoBulkEntry {H : Type} : Lit × DataW H → Nat
  | (.string bytes, d) => bytes.length + uptoBulk d + 1
  | (_, d) => uptoBulk d + 1
 end
def uptoSmall : (H : Type) → List (DataW H) → Bool := fun _ ds => decide (uptoBulkAll ds ≤ 1048576)
def OpenSpec.upto (s : _root_.Go.ChangeSpec) : _root_.Go.OpenSpec := { _root_.Go.OpenSpec.ofChange s with cond := some uptoSmall }

/-- 'larderkeep.FieldSetGet', WHERE WHAT IT READS IS OF BULK AT MOST 1048576: true; the input reads as it did. -/
def fieldSetGetUptoRow : OpenClaim := { program := "ytflkgpjapgkgmab", sum := "5bd42f3a7cedfa6bca45b6a85d1b8eaeed4f80d62a400529a0d184d64cce0027", func := "larder/larderkeep.FieldSetGet", spec := "fieldSetGet", inPlace := ["internal/abi.NoEscape", "internal/bytealg.MakeNoZero"], unfollowed := true, recurses := true, apart := false, narrowed := true }
def FieldSetGetUptoSaid : Prop := fieldSetGetUptoRow.holds Try.pinned (OpenSpec.upto fieldSetGetSpec)

/-- 'larderkeep.FieldDrops', WHERE WHAT IT READS IS OF BULK AT MOST 1048576: true; the input reads as it did. -/
def fieldDropsUptoRow : OpenClaim := { program := "ytflkgpjapgkgmab", sum := "5bd42f3a7cedfa6bca45b6a85d1b8eaeed4f80d62a400529a0d184d64cce0027", func := "larder/larderkeep.FieldDrops", spec := "fieldDrops", inPlace := ["internal/abi.NoEscape", "internal/bytealg.MakeNoZero"], unfollowed := true, recurses := true, apart := false, narrowed := true }
def FieldDropsUptoSaid : Prop := fieldDropsUptoRow.holds Try.pinned (OpenSpec.upto fieldDropsSpec)

/-- 'larderkeep.FieldBoth', WHERE WHAT IT READS IS OF BULK AT MOST 1048576: true; the input reads as it did. -/
def fieldBothUptoRow : OpenClaim := { program := "ytflkgpjapgkgmab", sum := "5bd42f3a7cedfa6bca45b6a85d1b8eaeed4f80d62a400529a0d184d64cce0027", func := "larder/larderkeep.FieldBoth", spec := "fieldBoth", inPlace := ["internal/abi.NoEscape", "internal/bytealg.MakeNoZero"], unfollowed := true, recurses := true, apart := false, narrowed := true }
def FieldBothUptoSaid : Prop := fieldBothUptoRow.holds Try.pinned (OpenSpec.upto fieldBothSpec)

end Rows
end Go.Proofs.Ytflkgpjapgkgmab
