/-
  No cell of these rows narrows 'for every input' (looked for: loops, veiled, ifaces, maps, wideKeys, modest, calm, conditions, laid).
  DERIVED. THE GIVEN ROWS OF THIS SEAT. 8 by the template 'for every input the law returns true; each argument reads behind the call as it read before'; 0 by the template 'total and deterministic' (their statements: YtihhnginnmfoiaaTotals.lean).
  GIVEN WITH THE SEED: the statements are not yours to turn. If you find one false, say at which input.
  Laid BY PROGRAM, IN A SANDBOX (cutbox-rows.mjs): the forced cells as the released guide's own fill.sh prints them over the translation a2a40b905a8720c3… (all of the seat's roots in one cut). By AI agents, Wed Nov 11 2026. No macro, syntax, notation, axiom, sorry.
-/
import Derived.Test.YtihhnginnmfoiaaChecked
import GoSem.Claim
import GoSem.ClaimJoined
import GoSem.ClaimMapViews
import Derived.JoinedTies
import Derived.KernelRfl
namespace Go.Proofs.Ytihhnginnmfoiaa
/- THE CELL 'sum', in the pinned program and in every row, IS THE sha256 OF THE DUMP (.gsa) THAT YtihhnginnmfoiaaProg.lean LOADS. Nothing in Lean hashes anything: it is a label: what it is worth is what the hold of that sum in a sandbox is worth. -/
noncomputable def Try.pinned : Pinned := { name := "ytihhnginnmfoiaa", sum := "a2a40b905a8720c3aff373ea724b3ca8689b01e452a6fc32ef70ae44d2825944", checked := Try.checked }
namespace Rows
def none {H : Type} : Left H := { results := [], args := [] }

/-- 'laws.FnTrees': WHATEVER THE INPUT: true; the input reads as it did. -/
def fnTreesSpec : ChangeSpec := { name := "fnTrees", fn := fun _ => fun
  | [d] => { results := [.lit (.bool true)], args := [d] }
  | _ => none }
def fnTreesRow : OpenClaim := { program := "ytihhnginnmfoiaa", sum := "a2a40b905a8720c3aff373ea724b3ca8689b01e452a6fc32ef70ae44d2825944", func := "loop.example/g00516/laws.FnTrees", spec := "fnTrees", apart := false }
def FnTreesSaid : Prop := fnTreesRow.holds Try.pinned (OpenSpec.ofChange fnTreesSpec)

/-- ITS FALSE NEIGHBOUR: 'it returns false'. Refute it at one input. -/
def fnTreesWrong : ChangeSpec := { name := "fnTrees", fn := fun _ => fun
  | [d] => { results := [.lit (.bool false)], args := [d] }
  | _ => none }
def FnTreesWrongFalsely : Prop := fnTreesRow.holds Try.pinned (OpenSpec.ofChange fnTreesWrong)

/-- 'laws.FnExactChildSeed': WHATEVER THE INPUT: true; the input reads as it did. -/
def fnExactChildSeedSpec : ChangeSpec := { name := "fnExactChildSeed", fn := fun _ => fun
  | [d1, d2] => { results := [.lit (.bool true)], args := [d1, d2] }
  | _ => none }
def fnExactChildSeedRow : OpenClaim := { program := "ytihhnginnmfoiaa", sum := "a2a40b905a8720c3aff373ea724b3ca8689b01e452a6fc32ef70ae44d2825944", func := "loop.example/g00516/laws.FnExactChildSeed", spec := "fnExactChildSeed", apart := false }
def FnExactChildSeedSaid : Prop := fnExactChildSeedRow.holds Try.pinned (OpenSpec.ofChange fnExactChildSeedSpec)

/-- ITS FALSE NEIGHBOUR: 'it returns false'. Refute it at one input. -/
def fnExactChildSeedWrong : ChangeSpec := { name := "fnExactChildSeed", fn := fun _ => fun
  | [d1, d2] => { results := [.lit (.bool false)], args := [d1, d2] }
  | _ => none }
def FnExactChildSeedWrongFalsely : Prop := fnExactChildSeedRow.holds Try.pinned (OpenSpec.ofChange fnExactChildSeedWrong)

/-- 'laws.FnExactControlBit': WHATEVER THE INPUT: true; the input reads as it did. -/
def fnExactControlBitSpec : ChangeSpec := { name := "fnExactControlBit", fn := fun _ => fun
  | [d1, d2] => { results := [.lit (.bool true)], args := [d1, d2] }
  | _ => none }
def fnExactControlBitRow : OpenClaim := { program := "ytihhnginnmfoiaa", sum := "a2a40b905a8720c3aff373ea724b3ca8689b01e452a6fc32ef70ae44d2825944", func := "loop.example/g00516/laws.FnExactControlBit", spec := "fnExactControlBit", apart := false }
def FnExactControlBitSaid : Prop := fnExactControlBitRow.holds Try.pinned (OpenSpec.ofChange fnExactControlBitSpec)

/-- ITS FALSE NEIGHBOUR: 'it returns false'. Refute it at one input. -/
def fnExactControlBitWrong : ChangeSpec := { name := "fnExactControlBit", fn := fun _ => fun
  | [d1, d2] => { results := [.lit (.bool false)], args := [d1, d2] }
  | _ => none }
def FnExactControlBitWrongFalsely : Prop := fnExactControlBitRow.holds Try.pinned (OpenSpec.ofChange fnExactControlBitWrong)

/-- 'laws.FnExactLeafSeed': WHATEVER THE INPUT: true; the input reads as it did. -/
def fnExactLeafSeedSpec : ChangeSpec := { name := "fnExactLeafSeed", fn := fun _ => fun
  | [d1, d2, d3] => { results := [.lit (.bool true)], args := [d1, d2, d3] }
  | _ => none }
def fnExactLeafSeedRow : OpenClaim := { program := "ytihhnginnmfoiaa", sum := "a2a40b905a8720c3aff373ea724b3ca8689b01e452a6fc32ef70ae44d2825944", func := "loop.example/g00516/laws.FnExactLeafSeed", spec := "fnExactLeafSeed", apart := false }
def FnExactLeafSeedSaid : Prop := fnExactLeafSeedRow.holds Try.pinned (OpenSpec.ofChange fnExactLeafSeedSpec)

/-- ITS FALSE NEIGHBOUR: 'it returns false'. Refute it at one input. -/
def fnExactLeafSeedWrong : ChangeSpec := { name := "fnExactLeafSeed", fn := fun _ => fun
  | [d1, d2, d3] => { results := [.lit (.bool false)], args := [d1, d2, d3] }
  | _ => none }
def FnExactLeafSeedWrongFalsely : Prop := fnExactLeafSeedRow.holds Try.pinned (OpenSpec.ofChange fnExactLeafSeedWrong)

/-- 'laws.FnExactLeafSeeds': WHATEVER THE INPUT: true; the input reads as it did. -/
def fnExactLeafSeedsSpec : ChangeSpec := { name := "fnExactLeafSeeds", fn := fun _ => fun
  | [d1, d2] => { results := [.lit (.bool true)], args := [d1, d2] }
  | _ => none }
def fnExactLeafSeedsRow : OpenClaim := { program := "ytihhnginnmfoiaa", sum := "a2a40b905a8720c3aff373ea724b3ca8689b01e452a6fc32ef70ae44d2825944", func := "loop.example/g00516/laws.FnExactLeafSeeds", spec := "fnExactLeafSeeds", apart := false }
def FnExactLeafSeedsSaid : Prop := fnExactLeafSeedsRow.holds Try.pinned (OpenSpec.ofChange fnExactLeafSeedsSpec)

/-- ITS FALSE NEIGHBOUR: 'it returns false'. Refute it at one input. -/
def fnExactLeafSeedsWrong : ChangeSpec := { name := "fnExactLeafSeeds", fn := fun _ => fun
  | [d1, d2] => { results := [.lit (.bool false)], args := [d1, d2] }
  | _ => none }
def FnExactLeafSeedsWrongFalsely : Prop := fnExactLeafSeedsRow.holds Try.pinned (OpenSpec.ofChange fnExactLeafSeedsWrong)

/-- 'laws.FnExactStreamBytes': WHATEVER THE INPUT: true; the input reads as it did. -/
def fnExactStreamBytesSpec : ChangeSpec := { name := "fnExactStreamBytes", fn := fun _ => fun
  | [d1, d2] => { results := [.lit (.bool true)], args := [d1, d2] }
  | _ => none }
def fnExactStreamBytesRow : OpenClaim := { program := "ytihhnginnmfoiaa", sum := "a2a40b905a8720c3aff373ea724b3ca8689b01e452a6fc32ef70ae44d2825944", func := "loop.example/g00516/laws.FnExactStreamBytes", spec := "fnExactStreamBytes", apart := false }
def FnExactStreamBytesSaid : Prop := fnExactStreamBytesRow.holds Try.pinned (OpenSpec.ofChange fnExactStreamBytesSpec)

/-- ITS FALSE NEIGHBOUR: 'it returns false'. Refute it at one input. -/
def fnExactStreamBytesWrong : ChangeSpec := { name := "fnExactStreamBytes", fn := fun _ => fun
  | [d1, d2] => { results := [.lit (.bool false)], args := [d1, d2] }
  | _ => none }
def FnExactStreamBytesWrongFalsely : Prop := fnExactStreamBytesRow.holds Try.pinned (OpenSpec.ofChange fnExactStreamBytesWrong)

/-- 'laws.FnExactPunctureTree': WHATEVER THE INPUT: true; the input reads as it did. -/
def fnExactPunctureTreeSpec : ChangeSpec := { name := "fnExactPunctureTree", fn := fun _ => fun
  | [d1, d2, d3] => { results := [.lit (.bool true)], args := [d1, d2, d3] }
  | _ => none }
def fnExactPunctureTreeRow : OpenClaim := { program := "ytihhnginnmfoiaa", sum := "a2a40b905a8720c3aff373ea724b3ca8689b01e452a6fc32ef70ae44d2825944", func := "loop.example/g00516/laws.FnExactPunctureTree", spec := "fnExactPunctureTree", apart := false }
def FnExactPunctureTreeSaid : Prop := fnExactPunctureTreeRow.holds Try.pinned (OpenSpec.ofChange fnExactPunctureTreeSpec)

/-- ITS FALSE NEIGHBOUR: 'it returns false'. Refute it at one input. -/
def fnExactPunctureTreeWrong : ChangeSpec := { name := "fnExactPunctureTree", fn := fun _ => fun
  | [d1, d2, d3] => { results := [.lit (.bool false)], args := [d1, d2, d3] }
  | _ => none }
def FnExactPunctureTreeWrongFalsely : Prop := fnExactPunctureTreeRow.holds Try.pinned (OpenSpec.ofChange fnExactPunctureTreeWrong)

/-- 'laws.FnExactPuncturedLeaf': WHATEVER THE INPUT: true; the input reads as it did. -/
def fnExactPuncturedLeafSpec : ChangeSpec := { name := "fnExactPuncturedLeaf", fn := fun _ => fun
  | [d1, d2, d3] => { results := [.lit (.bool true)], args := [d1, d2, d3] }
  | _ => none }
def fnExactPuncturedLeafRow : OpenClaim := { program := "ytihhnginnmfoiaa", sum := "a2a40b905a8720c3aff373ea724b3ca8689b01e452a6fc32ef70ae44d2825944", func := "loop.example/g00516/laws.FnExactPuncturedLeaf", spec := "fnExactPuncturedLeaf", apart := false }
def FnExactPuncturedLeafSaid : Prop := fnExactPuncturedLeafRow.holds Try.pinned (OpenSpec.ofChange fnExactPuncturedLeafSpec)

/-- ITS FALSE NEIGHBOUR: 'it returns false'. Refute it at one input. -/
def fnExactPuncturedLeafWrong : ChangeSpec := { name := "fnExactPuncturedLeaf", fn := fun _ => fun
  | [d1, d2, d3] => { results := [.lit (.bool false)], args := [d1, d2, d3] }
  | _ => none }
def FnExactPuncturedLeafWrongFalsely : Prop := fnExactPuncturedLeafRow.holds Try.pinned (OpenSpec.ofChange fnExactPuncturedLeafWrong)

/- THE SECOND FORM. 'bulk': how many values and letters a reading holds, each counted each time it is reached (what is shared counts as often as it is met; a slice's spare places count too). A statement '..UptoSaid' is the law's where the arguments, and the package variables that the reading takes, are together of bulk at most 1048576: NARROWER than '..Said'. Prove '..Said' where nothing that the law and all that it calls make is longer than what came in: it says more and counts as full. Else prove '..UptoSaid'. A law counts once. -/
mutual
def uptoBulk {H : Type} : DataW H → Nat
  | .lit (.string bytes) => bytes.length + 1
  | .lit _ => 1
  | .nil => 1
  | .ptr d => uptoBulk d + 1
  | .slice elems spare => uptoBulkAll elems + uptoBulkAll spare + 1
  | .agg parts => uptoBulkAll parts + 1
  | .iface _ d => uptoBulk d + 1
  | .map entries => uptoBulkEntries entries + 1
  | .held _ => 1
def uptoBulkAll {H : Type} : List (DataW H) → Nat
  | [] => 0
  | d :: r => uptoBulk d + uptoBulkAll r
def uptoBulkEntries {H : Type} : List (Lit × DataW H) → Nat
  | [] => 0
  | x :: r => uptoBulkEntry x + uptoBulkEntries r
def uptoBulkEntry {H : Type} : Lit × DataW H → Nat
  | (.string bytes, d) => bytes.length + uptoBulk d + 1
  | (_, d) => uptoBulk d + 1
 end
def uptoSmall : (H : Type) → List (DataW H) → Bool := fun _ ds => decide (uptoBulkAll ds ≤ 1048576)
def OpenSpec.upto (s : _root_.Go.ChangeSpec) : _root_.Go.OpenSpec := { _root_.Go.OpenSpec.ofChange s with cond := some uptoSmall }

/-- 'laws.FnTrees', WHERE WHAT IT READS IS OF BULK AT MOST 1048576: true; the input reads as it did. -/
def fnTreesUptoRow : OpenClaim := { program := "ytihhnginnmfoiaa", sum := "a2a40b905a8720c3aff373ea724b3ca8689b01e452a6fc32ef70ae44d2825944", func := "loop.example/g00516/laws.FnTrees", spec := "fnTrees", apart := false, narrowed := true }
def FnTreesUptoSaid : Prop := fnTreesUptoRow.holds Try.pinned (OpenSpec.upto fnTreesSpec)

/-- 'laws.FnExactChildSeed', WHERE WHAT IT READS IS OF BULK AT MOST 1048576: true; the input reads as it did. -/
def fnExactChildSeedUptoRow : OpenClaim := { program := "ytihhnginnmfoiaa", sum := "a2a40b905a8720c3aff373ea724b3ca8689b01e452a6fc32ef70ae44d2825944", func := "loop.example/g00516/laws.FnExactChildSeed", spec := "fnExactChildSeed", apart := false, narrowed := true }
def FnExactChildSeedUptoSaid : Prop := fnExactChildSeedUptoRow.holds Try.pinned (OpenSpec.upto fnExactChildSeedSpec)

/-- 'laws.FnExactControlBit', WHERE WHAT IT READS IS OF BULK AT MOST 1048576: true; the input reads as it did. -/
def fnExactControlBitUptoRow : OpenClaim := { program := "ytihhnginnmfoiaa", sum := "a2a40b905a8720c3aff373ea724b3ca8689b01e452a6fc32ef70ae44d2825944", func := "loop.example/g00516/laws.FnExactControlBit", spec := "fnExactControlBit", apart := false, narrowed := true }
def FnExactControlBitUptoSaid : Prop := fnExactControlBitUptoRow.holds Try.pinned (OpenSpec.upto fnExactControlBitSpec)

/-- 'laws.FnExactLeafSeed', WHERE WHAT IT READS IS OF BULK AT MOST 1048576: true; the input reads as it did. -/
def fnExactLeafSeedUptoRow : OpenClaim := { program := "ytihhnginnmfoiaa", sum := "a2a40b905a8720c3aff373ea724b3ca8689b01e452a6fc32ef70ae44d2825944", func := "loop.example/g00516/laws.FnExactLeafSeed", spec := "fnExactLeafSeed", apart := false, narrowed := true }
def FnExactLeafSeedUptoSaid : Prop := fnExactLeafSeedUptoRow.holds Try.pinned (OpenSpec.upto fnExactLeafSeedSpec)

/-- 'laws.FnExactLeafSeeds', WHERE WHAT IT READS IS OF BULK AT MOST 1048576: true; the input reads as it did. -/
def fnExactLeafSeedsUptoRow : OpenClaim := { program := "ytihhnginnmfoiaa", sum := "a2a40b905a8720c3aff373ea724b3ca8689b01e452a6fc32ef70ae44d2825944", func := "loop.example/g00516/laws.FnExactLeafSeeds", spec := "fnExactLeafSeeds", apart := false, narrowed := true }
def FnExactLeafSeedsUptoSaid : Prop := fnExactLeafSeedsUptoRow.holds Try.pinned (OpenSpec.upto fnExactLeafSeedsSpec)

/-- 'laws.FnExactStreamBytes', WHERE WHAT IT READS IS OF BULK AT MOST 1048576: true; the input reads as it did. -/
def fnExactStreamBytesUptoRow : OpenClaim := { program := "ytihhnginnmfoiaa", sum := "a2a40b905a8720c3aff373ea724b3ca8689b01e452a6fc32ef70ae44d2825944", func := "loop.example/g00516/laws.FnExactStreamBytes", spec := "fnExactStreamBytes", apart := false, narrowed := true }
def FnExactStreamBytesUptoSaid : Prop := fnExactStreamBytesUptoRow.holds Try.pinned (OpenSpec.upto fnExactStreamBytesSpec)

/-- 'laws.FnExactPunctureTree', WHERE WHAT IT READS IS OF BULK AT MOST 1048576: true; the input reads as it did. -/
def fnExactPunctureTreeUptoRow : OpenClaim := { program := "ytihhnginnmfoiaa", sum := "a2a40b905a8720c3aff373ea724b3ca8689b01e452a6fc32ef70ae44d2825944", func := "loop.example/g00516/laws.FnExactPunctureTree", spec := "fnExactPunctureTree", apart := false, narrowed := true }
def FnExactPunctureTreeUptoSaid : Prop := fnExactPunctureTreeUptoRow.holds Try.pinned (OpenSpec.upto fnExactPunctureTreeSpec)

/-- 'laws.FnExactPuncturedLeaf', WHERE WHAT IT READS IS OF BULK AT MOST 1048576: true; the input reads as it did. -/
def fnExactPuncturedLeafUptoRow : OpenClaim := { program := "ytihhnginnmfoiaa", sum := "a2a40b905a8720c3aff373ea724b3ca8689b01e452a6fc32ef70ae44d2825944", func := "loop.example/g00516/laws.FnExactPuncturedLeaf", spec := "fnExactPuncturedLeaf", apart := false, narrowed := true }
def FnExactPuncturedLeafUptoSaid : Prop := fnExactPuncturedLeafUptoRow.holds Try.pinned (OpenSpec.upto fnExactPuncturedLeafSpec)

end Rows
end Go.Proofs.Ytihhnginnmfoiaa
