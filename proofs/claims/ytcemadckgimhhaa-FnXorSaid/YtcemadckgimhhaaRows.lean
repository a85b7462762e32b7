/-
  No cell of these rows narrows 'for every input' (looked for: loops, veiled, ifaces, maps, wideKeys, modest, calm, conditions, laid).
  DERIVED. THE GIVEN ROWS OF THIS SEAT. 8 by the template 'for every input the law returns true; each argument reads behind the call as it read before'; 0 by the template 'total and deterministic' (their statements: YtcemadckgimhhaaTotals.lean).
  GIVEN WITH THE SEED: the statements are not yours to turn. If you find one false, say at which input.
  Laid BY PROGRAM, IN A SANDBOX (cutbox-rows.mjs): the forced cells as the released guide's own fill.sh prints them over the translation 8a9aea43b7975a4d… (all of the seat's roots in one cut). By AI agents, Wed Nov 11 2026. No macro, syntax, notation, axiom, sorry.
-/
import Derived.Test.YtcemadckgimhhaaChecked
import GoSem.Claim
import GoSem.ClaimJoined
import GoSem.ClaimMapViews
import Derived.JoinedTies
import Derived.KernelRfl
namespace Go.Proofs.Ytcemadckgimhhaa
/- THE CELL 'sum', in the pinned program and in every row, IS THE sha256 OF THE DUMP (.gsa) THAT YtcemadckgimhhaaProg.lean LOADS. Nothing in Lean hashes anything: it is a label: what it is worth is what the hold of that sum in a sandbox is worth. -/
noncomputable def Try.pinned : Pinned := { name := "ytcemadckgimhhaa", sum := "8a9aea43b7975a4dcb70e43413d79ff1382e31c0ab283c80152bd7f6220dc6ca", checked := Try.checked }
namespace Rows
def none {H : Type} : Left H := { results := [], args := [] }

/-- 'laws.FnXor': WHATEVER THE INPUT: true; the input reads as it did. -/
def fnXorSpec : ChangeSpec := { name := "fnXor", fn := fun _ => fun
  | [d] => { results := [.lit (.bool true)], args := [d] }
  | _ => none }
def fnXorRow : OpenClaim := { program := "ytcemadckgimhhaa", sum := "8a9aea43b7975a4dcb70e43413d79ff1382e31c0ab283c80152bd7f6220dc6ca", func := "loop.example/g00516/laws.FnXor", spec := "fnXor", inPlace := ["internal/bytealg.MakeNoZero"], unfollowed := true, recurses := true, apart := false }
def FnXorSaid : Prop := fnXorRow.holds Try.pinned (OpenSpec.ofChange fnXorSpec)

/-- ITS FALSE NEIGHBOUR: 'it returns false'. Refute it at one input. -/
def fnXorWrong : ChangeSpec := { name := "fnXor", fn := fun _ => fun
  | [d] => { results := [.lit (.bool false)], args := [d] }
  | _ => none }
def FnXorWrongFalsely : Prop := fnXorRow.holds Try.pinned (OpenSpec.ofChange fnXorWrong)

/-- 'laws.FnExactXorBytes': WHATEVER THE INPUT: true; the input reads as it did. -/
def fnExactXorBytesSpec : ChangeSpec := { name := "fnExactXorBytes", fn := fun _ => fun
  | [d1, d2] => { results := [.lit (.bool true)], args := [d1, d2] }
  | _ => none }
def fnExactXorBytesRow : OpenClaim := { program := "ytcemadckgimhhaa", sum := "8a9aea43b7975a4dcb70e43413d79ff1382e31c0ab283c80152bd7f6220dc6ca", func := "loop.example/g00516/laws.FnExactXorBytes", spec := "fnExactXorBytes", unfollowed := true, recurses := true, apart := false }
def FnExactXorBytesSaid : Prop := fnExactXorBytesRow.holds Try.pinned (OpenSpec.ofChange fnExactXorBytesSpec)

/-- ITS FALSE NEIGHBOUR: 'it returns false'. Refute it at one input. -/
def fnExactXorBytesWrong : ChangeSpec := { name := "fnExactXorBytes", fn := fun _ => fun
  | [d1, d2] => { results := [.lit (.bool false)], args := [d1, d2] }
  | _ => none }
def FnExactXorBytesWrongFalsely : Prop := fnExactXorBytesRow.holds Try.pinned (OpenSpec.ofChange fnExactXorBytesWrong)

/-- 'laws.FnExactXorAll': WHATEVER THE INPUT: true; the input reads as it did. -/
def fnExactXorAllSpec : ChangeSpec := { name := "fnExactXorAll", fn := fun _ => fun
  | [d] => { results := [.lit (.bool true)], args := [d] }
  | _ => none }
def fnExactXorAllRow : OpenClaim := { program := "ytcemadckgimhhaa", sum := "8a9aea43b7975a4dcb70e43413d79ff1382e31c0ab283c80152bd7f6220dc6ca", func := "loop.example/g00516/laws.FnExactXorAll", spec := "fnExactXorAll", unfollowed := true, recurses := true, apart := false }
def FnExactXorAllSaid : Prop := fnExactXorAllRow.holds Try.pinned (OpenSpec.ofChange fnExactXorAllSpec)

/-- ITS FALSE NEIGHBOUR: 'it returns false'. Refute it at one input. -/
def fnExactXorAllWrong : ChangeSpec := { name := "fnExactXorAll", fn := fun _ => fun
  | [d] => { results := [.lit (.bool false)], args := [d] }
  | _ => none }
def FnExactXorAllWrongFalsely : Prop := fnExactXorAllRow.holds Try.pinned (OpenSpec.ofChange fnExactXorAllWrong)

/-- 'laws.FnExactIsZeroBytes': WHATEVER THE INPUT: true; the input reads as it did. -/
def fnExactIsZeroBytesSpec : ChangeSpec := { name := "fnExactIsZeroBytes", fn := fun _ => fun
  | [d] => { results := [.lit (.bool true)], args := [d] }
  | _ => none }
def fnExactIsZeroBytesRow : OpenClaim := { program := "ytcemadckgimhhaa", sum := "8a9aea43b7975a4dcb70e43413d79ff1382e31c0ab283c80152bd7f6220dc6ca", func := "loop.example/g00516/laws.FnExactIsZeroBytes", spec := "fnExactIsZeroBytes", apart := false }
def FnExactIsZeroBytesSaid : Prop := fnExactIsZeroBytesRow.holds Try.pinned (OpenSpec.ofChange fnExactIsZeroBytesSpec)

/-- ITS FALSE NEIGHBOUR: 'it returns false'. Refute it at one input. -/
def fnExactIsZeroBytesWrong : ChangeSpec := { name := "fnExactIsZeroBytes", fn := fun _ => fun
  | [d] => { results := [.lit (.bool false)], args := [d] }
  | _ => none }
def FnExactIsZeroBytesWrongFalsely : Prop := fnExactIsZeroBytesRow.holds Try.pinned (OpenSpec.ofChange fnExactIsZeroBytesWrong)

/-- 'laws.FnExactPadTo': WHATEVER THE INPUT: true; the input reads as it did. -/
def fnExactPadToSpec : ChangeSpec := { name := "fnExactPadTo", fn := fun _ => fun
  | [d1, d2] => { results := [.lit (.bool true)], args := [d1, d2] }
  | _ => none }
def fnExactPadToRow : OpenClaim := { program := "ytcemadckgimhhaa", sum := "8a9aea43b7975a4dcb70e43413d79ff1382e31c0ab283c80152bd7f6220dc6ca", func := "loop.example/g00516/laws.FnExactPadTo", spec := "fnExactPadTo", apart := false }
def FnExactPadToSaid : Prop := fnExactPadToRow.holds Try.pinned (OpenSpec.ofChange fnExactPadToSpec)

/-- ITS FALSE NEIGHBOUR: 'it returns false'. Refute it at one input. -/
def fnExactPadToWrong : ChangeSpec := { name := "fnExactPadTo", fn := fun _ => fun
  | [d1, d2] => { results := [.lit (.bool false)], args := [d1, d2] }
  | _ => none }
def FnExactPadToWrongFalsely : Prop := fnExactPadToRow.holds Try.pinned (OpenSpec.ofChange fnExactPadToWrong)

/-- 'laws.FnExactSplitBytes': WHATEVER THE INPUT: true; the input reads as it did. -/
def fnExactSplitBytesSpec : ChangeSpec := { name := "fnExactSplitBytes", fn := fun _ => fun
  | [d1, d2] => { results := [.lit (.bool true)], args := [d1, d2] }
  | _ => none }
def fnExactSplitBytesRow : OpenClaim := { program := "ytcemadckgimhhaa", sum := "8a9aea43b7975a4dcb70e43413d79ff1382e31c0ab283c80152bd7f6220dc6ca", func := "loop.example/g00516/laws.FnExactSplitBytes", spec := "fnExactSplitBytes", unfollowed := true, recurses := true, apart := false }
def FnExactSplitBytesSaid : Prop := fnExactSplitBytesRow.holds Try.pinned (OpenSpec.ofChange fnExactSplitBytesSpec)

/-- ITS FALSE NEIGHBOUR: 'it returns false'. Refute it at one input. -/
def fnExactSplitBytesWrong : ChangeSpec := { name := "fnExactSplitBytes", fn := fun _ => fun
  | [d1, d2] => { results := [.lit (.bool false)], args := [d1, d2] }
  | _ => none }
def FnExactSplitBytesWrongFalsely : Prop := fnExactSplitBytesRow.holds Try.pinned (OpenSpec.ofChange fnExactSplitBytesWrong)

/-- 'laws.FnExactJoinBytes': WHATEVER THE INPUT: true; the input reads as it did. -/
def fnExactJoinBytesSpec : ChangeSpec := { name := "fnExactJoinBytes", fn := fun _ => fun
  | [d] => { results := [.lit (.bool true)], args := [d] }
  | _ => none }
def fnExactJoinBytesRow : OpenClaim := { program := "ytcemadckgimhhaa", sum := "8a9aea43b7975a4dcb70e43413d79ff1382e31c0ab283c80152bd7f6220dc6ca", func := "loop.example/g00516/laws.FnExactJoinBytes", spec := "fnExactJoinBytes", inPlace := ["internal/bytealg.MakeNoZero"], apart := false }
def FnExactJoinBytesSaid : Prop := fnExactJoinBytesRow.holds Try.pinned (OpenSpec.ofChange fnExactJoinBytesSpec)

/-- ITS FALSE NEIGHBOUR: 'it returns false'. Refute it at one input. -/
def fnExactJoinBytesWrong : ChangeSpec := { name := "fnExactJoinBytes", fn := fun _ => fun
  | [d] => { results := [.lit (.bool false)], args := [d] }
  | _ => none }
def FnExactJoinBytesWrongFalsely : Prop := fnExactJoinBytesRow.holds Try.pinned (OpenSpec.ofChange fnExactJoinBytesWrong)

/-- 'laws.FnExactEqualLists': WHATEVER THE INPUT: true; the input reads as it did. -/
def fnExactEqualListsSpec : ChangeSpec := { name := "fnExactEqualLists", fn := fun _ => fun
  | [d1, d2] => { results := [.lit (.bool true)], args := [d1, d2] }
  | _ => none }
def fnExactEqualListsRow : OpenClaim := { program := "ytcemadckgimhhaa", sum := "8a9aea43b7975a4dcb70e43413d79ff1382e31c0ab283c80152bd7f6220dc6ca", func := "loop.example/g00516/laws.FnExactEqualLists", spec := "fnExactEqualLists", unfollowed := true, recurses := true, apart := false }
def FnExactEqualListsSaid : Prop := fnExactEqualListsRow.holds Try.pinned (OpenSpec.ofChange fnExactEqualListsSpec)

/-- ITS FALSE NEIGHBOUR: 'it returns false'. Refute it at one input. -/
def fnExactEqualListsWrong : ChangeSpec := { name := "fnExactEqualLists", fn := fun _ => fun
  | [d1, d2] => { results := [.lit (.bool false)], args := [d1, d2] }
  | _ => none }
def FnExactEqualListsWrongFalsely : Prop := fnExactEqualListsRow.holds Try.pinned (OpenSpec.ofChange fnExactEqualListsWrong)

/- THE SECOND FORM. 'bulk': how many values and letters a reading holds, each counted each time it is reached (what is shared counts as often as it is met; a slice's spare places count too). A statement '..UptoSaid' is the law's where the arguments, and the package variables that the reading takes, are together of bulk at most 1048576: NARROWER than '..Said'. Prove '..Said' where nothing that the law and all that it calls make is longer than what came in: it says more and counts as full. Else prove '..UptoSaid'. A law counts once. -/
mutual
def uptoBulk {H : Type} : DataW H → Nat
  | .lit (.string bytes) => bytes.length + 1
  | .lit _ => 1
  | .nil => 1
  | .ptr d => uptoBulk d + 1
  | .slice elems spare => uptoBulkAll elems + uptoBulkAll spare + 1
  | .agg parts => uptoBulkAll parts + 1
  | .iface _ d => uptoBulk d + 1
  | .map entries => uptoBulkEntries entries + 1
  | .held _ => 1
def uptoBulkAll {H : Type} : List (DataW H) → Nat
  | [] => 0
  | d :: r => uptoBulk d + uptoBulkAll r
def uptoBulkEntries {H : Type} : List (Lit × DataW H) → Nat
  | [] => 0
  | x :: r => uptoBulkEntry x + uptoBulkEntries r
def uptoBulkEntry {H : Type} : Lit × DataW H → Nat
  | (.string bytes, d) => bytes.length + uptoBulk d + 1
  | (_, d) => uptoBulk d + 1
 end
def uptoSmall : (H : Type) → List (DataW H) → Bool := fun _ ds => decide (uptoBulkAll ds ≤ 1048576)
def OpenSpec.upto (s : _root_.Go.ChangeSpec) : _root_.Go.OpenSpec := { _root_.Go.OpenSpec.ofChange s with cond := some uptoSmall }

/-- 'laws.FnXor', WHERE WHAT IT READS IS OF BULK AT MOST 1048576: true; the input reads as it did. -/
def fnXorUptoRow : OpenClaim := { program := "ytcemadckgimhhaa", sum := "8a9aea43b7975a4dcb70e43413d79ff1382e31c0ab283c80152bd7f6220dc6ca", func := "loop.example/g00516/laws.FnXor", spec := "fnXor", inPlace := ["internal/bytealg.MakeNoZero"], unfollowed := true, recurses := true, apart := false, narrowed := true }
def FnXorUptoSaid : Prop := fnXorUptoRow.holds Try.pinned (OpenSpec.upto fnXorSpec)

/-- 'laws.FnExactXorBytes', WHERE WHAT IT READS IS OF BULK AT MOST 1048576: true; the input reads as it did. -/
def fnExactXorBytesUptoRow : OpenClaim := { program := "ytcemadckgimhhaa", sum := "8a9aea43b7975a4dcb70e43413d79ff1382e31c0ab283c80152bd7f6220dc6ca", func := "loop.example/g00516/laws.FnExactXorBytes", spec := "fnExactXorBytes", unfollowed := true, recurses := true, apart := false, narrowed := true }
def FnExactXorBytesUptoSaid : Prop := fnExactXorBytesUptoRow.holds Try.pinned (OpenSpec.upto fnExactXorBytesSpec)

/-- 'laws.FnExactXorAll', WHERE WHAT IT READS IS OF BULK AT MOST 1048576: true; the input reads as it did. -/
def fnExactXorAllUptoRow : OpenClaim := { program := "ytcemadckgimhhaa", sum := "8a9aea43b7975a4dcb70e43413d79ff1382e31c0ab283c80152bd7f6220dc6ca", func := "loop.example/g00516/laws.FnExactXorAll", spec := "fnExactXorAll", unfollowed := true, recurses := true, apart := false, narrowed := true }
def FnExactXorAllUptoSaid : Prop := fnExactXorAllUptoRow.holds Try.pinned (OpenSpec.upto fnExactXorAllSpec)

/-- 'laws.FnExactIsZeroBytes', WHERE WHAT IT READS IS OF BULK AT MOST 1048576: true; the input reads as it did. -/
def fnExactIsZeroBytesUptoRow : OpenClaim := { program := "ytcemadckgimhhaa", sum := "8a9aea43b7975a4dcb70e43413d79ff1382e31c0ab283c80152bd7f6220dc6ca", func := "loop.example/g00516/laws.FnExactIsZeroBytes", spec := "fnExactIsZeroBytes", apart := false, narrowed := true }
def FnExactIsZeroBytesUptoSaid : Prop := fnExactIsZeroBytesUptoRow.holds Try.pinned (OpenSpec.upto fnExactIsZeroBytesSpec)

/-- 'laws.FnExactPadTo', WHERE WHAT IT READS IS OF BULK AT MOST 1048576: true; the input reads as it did. -/
def fnExactPadToUptoRow : OpenClaim := { program := "ytcemadckgimhhaa", sum := "8a9aea43b7975a4dcb70e43413d79ff1382e31c0ab283c80152bd7f6220dc6ca", func := "loop.example/g00516/laws.FnExactPadTo", spec := "fnExactPadTo", apart := false, narrowed := true }
def FnExactPadToUptoSaid : Prop := fnExactPadToUptoRow.holds Try.pinned (OpenSpec.upto fnExactPadToSpec)

/-- 'laws.FnExactSplitBytes', WHERE WHAT IT READS IS OF BULK AT MOST 1048576: true; the input reads as it did. -/
def fnExactSplitBytesUptoRow : OpenClaim := { program := "ytcemadckgimhhaa", sum := "8a9aea43b7975a4dcb70e43413d79ff1382e31c0ab283c80152bd7f6220dc6ca", func := "loop.example/g00516/laws.FnExactSplitBytes", spec := "fnExactSplitBytes", unfollowed := true, recurses := true, apart := false, narrowed := true }
def FnExactSplitBytesUptoSaid : Prop := fnExactSplitBytesUptoRow.holds Try.pinned (OpenSpec.upto fnExactSplitBytesSpec)

/-- 'laws.FnExactJoinBytes', WHERE WHAT IT READS IS OF BULK AT MOST 1048576: true; the input reads as it did. -/
def fnExactJoinBytesUptoRow : OpenClaim := { program := "ytcemadckgimhhaa", sum := "8a9aea43b7975a4dcb70e43413d79ff1382e31c0ab283c80152bd7f6220dc6ca", func := "loop.example/g00516/laws.FnExactJoinBytes", spec := "fnExactJoinBytes", inPlace := ["internal/bytealg.MakeNoZero"], apart := false, narrowed := true }
def FnExactJoinBytesUptoSaid : Prop := fnExactJoinBytesUptoRow.holds Try.pinned (OpenSpec.upto fnExactJoinBytesSpec)

/-- 'laws.FnExactEqualLists', WHERE WHAT IT READS IS OF BULK AT MOST 1048576: true; the input reads as it did. -/
def fnExactEqualListsUptoRow : OpenClaim := { program := "ytcemadckgimhhaa", sum := "8a9aea43b7975a4dcb70e43413d79ff1382e31c0ab283c80152bd7f6220dc6ca", func := "loop.example/g00516/laws.FnExactEqualLists", spec := "fnExactEqualLists", unfollowed := true, recurses := true, apart := false, narrowed := true }
def FnExactEqualListsUptoSaid : Prop := fnExactEqualListsUptoRow.holds Try.pinned (OpenSpec.upto fnExactEqualListsSpec)

end Rows
end Go.Proofs.Ytcemadckgimhhaa
