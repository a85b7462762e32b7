/-
  No cell of these rows narrows 'for every input' (looked for: loops, veiled, ifaces, maps, wideKeys, modest, calm, conditions, laid).
  DERIVED. THE GIVEN ROWS OF THIS SEAT. 10 by the template 'for every input the law returns true; each argument reads behind the call as it read before'; 0 by the template 'total and deterministic' (their statements: YtheefkhhafefoaaTotals.lean).
  GIVEN WITH THE SEED: the statements are not yours to turn. If you find one false, say at which input.
  Laid BY PROGRAM, IN A SANDBOX (cutbox-rows.mjs): the forced cells as the released guide's own fill.sh prints them over the translation 927ac5de8e5884d9… (all of the seat's roots in one cut). By AI agents, Wed Nov 11 2026. No macro, syntax, notation, axiom, sorry.
-/
import Derived.Test.YtheefkhhafefoaaChecked
import GoSem.Claim
import GoSem.ClaimJoined
import GoSem.ClaimMapViews
import Derived.JoinedTies
import Derived.KernelRfl
namespace Go.Proofs.Ytheefkhhafefoaa
/- THE CELL 'sum', in the pinned program and in every row, IS THE sha256 OF THE DUMP (.gsa) THAT YtheefkhhafefoaaProg.lean LOADS. Nothing in Lean hashes anything: it is a label: what it is worth is what the hold of that sum in a sandbox is worth. -/
noncomputable def Try.pinned : Pinned := { name := "ytheefkhhafefoaa", sum := "927ac5de8e5884d9b196214641c865d8f6b94a85de50ffdc41a0654333d47452", checked := Try.checked }
namespace Rows
def none {H : Type} : Left H := { results := [], args := [] }

/-- 'laws.FnPointKeys': WHATEVER THE INPUT: true; the input reads as it did. -/
def fnPointKeysSpec : ChangeSpec := { name := "fnPointKeys", fn := fun _ => fun
  | [d] => { results := [.lit (.bool true)], args := [d] }
  | _ => none }
def fnPointKeysRow : OpenClaim := { program := "ytheefkhhafefoaa", sum := "927ac5de8e5884d9b196214641c865d8f6b94a85de50ffdc41a0654333d47452", func := "loop.example/g00516/laws.FnPointKeys", spec := "fnPointKeys", apart := false }
def FnPointKeysSaid : Prop := fnPointKeysRow.holds Try.pinned (OpenSpec.ofChange fnPointKeysSpec)

/-- ITS FALSE NEIGHBOUR: 'it returns false'. Refute it at one input. -/
def fnPointKeysWrong : ChangeSpec := { name := "fnPointKeys", fn := fun _ => fun
  | [d] => { results := [.lit (.bool false)], args := [d] }
  | _ => none }
def FnPointKeysWrongFalsely : Prop := fnPointKeysRow.holds Try.pinned (OpenSpec.ofChange fnPointKeysWrong)

/-- 'laws.FnPointReading': WHATEVER THE INPUT: true; the input reads as it did. -/
def fnPointReadingSpec : ChangeSpec := { name := "fnPointReading", fn := fun _ => fun
  | [d] => { results := [.lit (.bool true)], args := [d] }
  | _ => none }
def fnPointReadingRow : OpenClaim := { program := "ytheefkhhafefoaa", sum := "927ac5de8e5884d9b196214641c865d8f6b94a85de50ffdc41a0654333d47452", func := "loop.example/g00516/laws.FnPointReading", spec := "fnPointReading", unfollowed := true, recurses := true, apart := false }
def FnPointReadingSaid : Prop := fnPointReadingRow.holds Try.pinned (OpenSpec.ofChange fnPointReadingSpec)

/-- ITS FALSE NEIGHBOUR: 'it returns false'. Refute it at one input. -/
def fnPointReadingWrong : ChangeSpec := { name := "fnPointReading", fn := fun _ => fun
  | [d] => { results := [.lit (.bool false)], args := [d] }
  | _ => none }
def FnPointReadingWrongFalsely : Prop := fnPointReadingRow.holds Try.pinned (OpenSpec.ofChange fnPointReadingWrong)

/-- 'laws.FnExactEvaluateNode': WHATEVER THE INPUT: true; the input reads as it did. -/
def fnExactEvaluateNodeSpec : ChangeSpec := { name := "fnExactEvaluateNode", fn := fun _ => fun
  | [d1, d2, d3, d4] => { results := [.lit (.bool true)], args := [d1, d2, d3, d4] }
  | _ => none }
def fnExactEvaluateNodeRow : OpenClaim := { program := "ytheefkhhafefoaa", sum := "927ac5de8e5884d9b196214641c865d8f6b94a85de50ffdc41a0654333d47452", func := "loop.example/g00516/laws.FnExactEvaluateNode", spec := "fnExactEvaluateNode", apart := false }
def FnExactEvaluateNodeSaid : Prop := fnExactEvaluateNodeRow.holds Try.pinned (OpenSpec.ofChange fnExactEvaluateNodeSpec)

/-- ITS FALSE NEIGHBOUR: 'it returns false'. Refute it at one input. -/
def fnExactEvaluateNodeWrong : ChangeSpec := { name := "fnExactEvaluateNode", fn := fun _ => fun
  | [d1, d2, d3, d4] => { results := [.lit (.bool false)], args := [d1, d2, d3, d4] }
  | _ => none }
def FnExactEvaluateNodeWrongFalsely : Prop := fnExactEvaluateNodeRow.holds Try.pinned (OpenSpec.ofChange fnExactEvaluateNodeWrong)

/-- 'laws.FnExactMakePointKeys': WHATEVER THE INPUT: true; the input reads as it did. -/
def fnExactMakePointKeysSpec : ChangeSpec := { name := "fnExactMakePointKeys", fn := fun _ => fun
  | [d1, d2, d3, d4] => { results := [.lit (.bool true)], args := [d1, d2, d3, d4] }
  | _ => none }
def fnExactMakePointKeysRow : OpenClaim := { program := "ytheefkhhafefoaa", sum := "927ac5de8e5884d9b196214641c865d8f6b94a85de50ffdc41a0654333d47452", func := "loop.example/g00516/laws.FnExactMakePointKeys", spec := "fnExactMakePointKeys", apart := false }
def FnExactMakePointKeysSaid : Prop := fnExactMakePointKeysRow.holds Try.pinned (OpenSpec.ofChange fnExactMakePointKeysSpec)

/-- ITS FALSE NEIGHBOUR: 'it returns false'. Refute it at one input. -/
def fnExactMakePointKeysWrong : ChangeSpec := { name := "fnExactMakePointKeys", fn := fun _ => fun
  | [d1, d2, d3, d4] => { results := [.lit (.bool false)], args := [d1, d2, d3, d4] }
  | _ => none }
def FnExactMakePointKeysWrongFalsely : Prop := fnExactMakePointKeysRow.holds Try.pinned (OpenSpec.ofChange fnExactMakePointKeysWrong)

/-- 'laws.FnExactIsValidPointKey': WHATEVER THE INPUT: true; the input reads as it did. -/
def fnExactIsValidPointKeySpec : ChangeSpec := { name := "fnExactIsValidPointKey", fn := fun _ => fun
  | [d] => { results := [.lit (.bool true)], args := [d] }
  | _ => none }
def fnExactIsValidPointKeyRow : OpenClaim := { program := "ytheefkhhafefoaa", sum := "927ac5de8e5884d9b196214641c865d8f6b94a85de50ffdc41a0654333d47452", func := "loop.example/g00516/laws.FnExactIsValidPointKey", spec := "fnExactIsValidPointKey", apart := false }
def FnExactIsValidPointKeySaid : Prop := fnExactIsValidPointKeyRow.holds Try.pinned (OpenSpec.ofChange fnExactIsValidPointKeySpec)

/-- ITS FALSE NEIGHBOUR: 'it returns false'. Refute it at one input. -/
def fnExactIsValidPointKeyWrong : ChangeSpec := { name := "fnExactIsValidPointKey", fn := fun _ => fun
  | [d] => { results := [.lit (.bool false)], args := [d] }
  | _ => none }
def FnExactIsValidPointKeyWrongFalsely : Prop := fnExactIsValidPointKeyRow.holds Try.pinned (OpenSpec.ofChange fnExactIsValidPointKeyWrong)

/-- 'laws.FnExactEvaluatePoint': WHATEVER THE INPUT: true; the input reads as it did. -/
def fnExactEvaluatePointSpec : ChangeSpec := { name := "fnExactEvaluatePoint", fn := fun _ => fun
  | [d1, d2] => { results := [.lit (.bool true)], args := [d1, d2] }
  | _ => none }
def fnExactEvaluatePointRow : OpenClaim := { program := "ytheefkhhafefoaa", sum := "927ac5de8e5884d9b196214641c865d8f6b94a85de50ffdc41a0654333d47452", func := "loop.example/g00516/laws.FnExactEvaluatePoint", spec := "fnExactEvaluatePoint", apart := false }
def FnExactEvaluatePointSaid : Prop := fnExactEvaluatePointRow.holds Try.pinned (OpenSpec.ofChange fnExactEvaluatePointSpec)

/-- ITS FALSE NEIGHBOUR: 'it returns false'. Refute it at one input. -/
def fnExactEvaluatePointWrong : ChangeSpec := { name := "fnExactEvaluatePoint", fn := fun _ => fun
  | [d1, d2] => { results := [.lit (.bool false)], args := [d1, d2] }
  | _ => none }
def FnExactEvaluatePointWrongFalsely : Prop := fnExactEvaluatePointRow.holds Try.pinned (OpenSpec.ofChange fnExactEvaluatePointWrong)

/-- 'laws.FnExactEvaluateAll': WHATEVER THE INPUT: true; the input reads as it did. -/
def fnExactEvaluateAllSpec : ChangeSpec := { name := "fnExactEvaluateAll", fn := fun _ => fun
  | [d] => { results := [.lit (.bool true)], args := [d] }
  | _ => none }
def fnExactEvaluateAllRow : OpenClaim := { program := "ytheefkhhafefoaa", sum := "927ac5de8e5884d9b196214641c865d8f6b94a85de50ffdc41a0654333d47452", func := "loop.example/g00516/laws.FnExactEvaluateAll", spec := "fnExactEvaluateAll", apart := false }
def FnExactEvaluateAllSaid : Prop := fnExactEvaluateAllRow.holds Try.pinned (OpenSpec.ofChange fnExactEvaluateAllSpec)

/-- ITS FALSE NEIGHBOUR: 'it returns false'. Refute it at one input. -/
def fnExactEvaluateAllWrong : ChangeSpec := { name := "fnExactEvaluateAll", fn := fun _ => fun
  | [d] => { results := [.lit (.bool false)], args := [d] }
  | _ => none }
def FnExactEvaluateAllWrongFalsely : Prop := fnExactEvaluateAllRow.holds Try.pinned (OpenSpec.ofChange fnExactEvaluateAllWrong)

/-- 'laws.FnExactEncodePointKey': WHATEVER THE INPUT: true; the input reads as it did. -/
def fnExactEncodePointKeySpec : ChangeSpec := { name := "fnExactEncodePointKey", fn := fun _ => fun
  | [d] => { results := [.lit (.bool true)], args := [d] }
  | _ => none }
def fnExactEncodePointKeyRow : OpenClaim := { program := "ytheefkhhafefoaa", sum := "927ac5de8e5884d9b196214641c865d8f6b94a85de50ffdc41a0654333d47452", func := "loop.example/g00516/laws.FnExactEncodePointKey", spec := "fnExactEncodePointKey", apart := false }
def FnExactEncodePointKeySaid : Prop := fnExactEncodePointKeyRow.holds Try.pinned (OpenSpec.ofChange fnExactEncodePointKeySpec)

/-- ITS FALSE NEIGHBOUR: 'it returns false'. Refute it at one input. -/
def fnExactEncodePointKeyWrong : ChangeSpec := { name := "fnExactEncodePointKey", fn := fun _ => fun
  | [d] => { results := [.lit (.bool false)], args := [d] }
  | _ => none }
def FnExactEncodePointKeyWrongFalsely : Prop := fnExactEncodePointKeyRow.holds Try.pinned (OpenSpec.ofChange fnExactEncodePointKeyWrong)

/-- 'laws.FnExactKeySavings': WHATEVER THE INPUT: true; the input reads as it did. -/
def fnExactKeySavingsSpec : ChangeSpec := { name := "fnExactKeySavings", fn := fun _ => fun
  | [d] => { results := [.lit (.bool true)], args := [d] }
  | _ => none }
def fnExactKeySavingsRow : OpenClaim := { program := "ytheefkhhafefoaa", sum := "927ac5de8e5884d9b196214641c865d8f6b94a85de50ffdc41a0654333d47452", func := "loop.example/g00516/laws.FnExactKeySavings", spec := "fnExactKeySavings", apart := false }
def FnExactKeySavingsSaid : Prop := fnExactKeySavingsRow.holds Try.pinned (OpenSpec.ofChange fnExactKeySavingsSpec)

/-- ITS FALSE NEIGHBOUR: 'it returns false'. Refute it at one input. -/
def fnExactKeySavingsWrong : ChangeSpec := { name := "fnExactKeySavings", fn := fun _ => fun
  | [d] => { results := [.lit (.bool false)], args := [d] }
  | _ => none }
def FnExactKeySavingsWrongFalsely : Prop := fnExactKeySavingsRow.holds Try.pinned (OpenSpec.ofChange fnExactKeySavingsWrong)

/-- 'laws.FnExactEqualPointKeys': WHATEVER THE INPUT: true; the input reads as it did. -/
def fnExactEqualPointKeysSpec : ChangeSpec := { name := "fnExactEqualPointKeys", fn := fun _ => fun
  | [d1, d2] => { results := [.lit (.bool true)], args := [d1, d2] }
  | _ => none }
def fnExactEqualPointKeysRow : OpenClaim := { program := "ytheefkhhafefoaa", sum := "927ac5de8e5884d9b196214641c865d8f6b94a85de50ffdc41a0654333d47452", func := "loop.example/g00516/laws.FnExactEqualPointKeys", spec := "fnExactEqualPointKeys", apart := false }
def FnExactEqualPointKeysSaid : Prop := fnExactEqualPointKeysRow.holds Try.pinned (OpenSpec.ofChange fnExactEqualPointKeysSpec)

/-- ITS FALSE NEIGHBOUR: 'it returns false'. Refute it at one input. -/
def fnExactEqualPointKeysWrong : ChangeSpec := { name := "fnExactEqualPointKeys", fn := fun _ => fun
  | [d1, d2] => { results := [.lit (.bool false)], args := [d1, d2] }
  | _ => none }
def FnExactEqualPointKeysWrongFalsely : Prop := fnExactEqualPointKeysRow.holds Try.pinned (OpenSpec.ofChange fnExactEqualPointKeysWrong)

/- THE SECOND FORM. 'bulk': how many values and letters a reading holds, each counted each time it is reached (what is shared counts as often as it is met; a slice's spare places count too). A statement '..UptoSaid' is the law's where the arguments, and the package variables that the reading takes, are together of bulk at most 1048576: NARROWER than '..Said'. Prove '..Said' where nothing that the law and all that it calls make is longer than what came in: it says more and counts as full. Else prove '..UptoSaid'. A law counts once. -/
mutual
def uptoBulk {H : Type} : DataW H → Nat
  | .lit (.string bytes) => bytes.length + 1
  | .lit _ => 1
  | .nil => 1
  | .ptr d => uptoBulk d + 1
  | .slice elems spare => uptoBulkAll elems + uptoBulkAll spare + 1
  | .agg parts => uptoBulkAll parts + 1
  | .iface _ d => uptoBulk d + 1
  | .map entries => uptoBulkEntries entries + 1
  | .held _ => 1
def uptoBulkAll {H : Type} : List (DataW H) → Nat
  | [] => 0
  | d :: r => uptoBulk d + uptoBulkAll r
def uptoBulkEntries {H : Type} : List (Lit × DataW H) → Nat
  | [] => 0
  | x :: r => uptoBulkEntry x + uptoBulkEntries r
def uptoBulkEntry {H : Type} : Lit × DataW H → Nat
  | (.string bytes, d) => bytes.length + uptoBulk d + 1
  | (_, d) => uptoBulk d + 1
 end
def uptoSmall : (H : Type) → List (DataW H) → Bool := fun _ ds => decide (uptoBulkAll ds ≤ 1048576)
def OpenSpec.upto (s : _root_.Go.ChangeSpec) : _root_.Go.OpenSpec := { _root_.Go.OpenSpec.ofChange s with cond := some uptoSmall }

/-- 'laws.FnPointKeys', WHERE WHAT IT READS IS OF BULK AT MOST 1048576: true; the input reads as it did. -/
def fnPointKeysUptoRow : OpenClaim := { program := "ytheefkhhafefoaa", sum := "927ac5de8e5884d9b196214641c865d8f6b94a85de50ffdc41a0654333d47452", func := "loop.example/g00516/laws.FnPointKeys", spec := "fnPointKeys", apart := false, narrowed := true }
def FnPointKeysUptoSaid : Prop := fnPointKeysUptoRow.holds Try.pinned (OpenSpec.upto fnPointKeysSpec)

/-- 'laws.FnPointReading', WHERE WHAT IT READS IS OF BULK AT MOST 1048576: true; the input reads as it did. -/
def fnPointReadingUptoRow : OpenClaim := { program := "ytheefkhhafefoaa", sum := "927ac5de8e5884d9b196214641c865d8f6b94a85de50ffdc41a0654333d47452", func := "loop.example/g00516/laws.FnPointReading", spec := "fnPointReading", unfollowed := true, recurses := true, apart := false, narrowed := true }
def FnPointReadingUptoSaid : Prop := fnPointReadingUptoRow.holds Try.pinned (OpenSpec.upto fnPointReadingSpec)

/-- 'laws.FnExactEvaluateNode', WHERE WHAT IT READS IS OF BULK AT MOST 1048576: true; the input reads as it did. -/
def fnExactEvaluateNodeUptoRow : OpenClaim := { program := "ytheefkhhafefoaa", sum := "927ac5de8e5884d9b196214641c865d8f6b94a85de50ffdc41a0654333d47452", func := "loop.example/g00516/laws.FnExactEvaluateNode", spec := "fnExactEvaluateNode", apart := false, narrowed := true }
def FnExactEvaluateNodeUptoSaid : Prop := fnExactEvaluateNodeUptoRow.holds Try.pinned (OpenSpec.upto fnExactEvaluateNodeSpec)

/-- 'laws.FnExactMakePointKeys', WHERE WHAT IT READS IS OF BULK AT MOST 1048576: true; the input reads as it did. -/
def fnExactMakePointKeysUptoRow : OpenClaim := { program := "ytheefkhhafefoaa", sum := "927ac5de8e5884d9b196214641c865d8f6b94a85de50ffdc41a0654333d47452", func := "loop.example/g00516/laws.FnExactMakePointKeys", spec := "fnExactMakePointKeys", apart := false, narrowed := true }
def FnExactMakePointKeysUptoSaid : Prop := fnExactMakePointKeysUptoRow.holds Try.pinned (OpenSpec.upto fnExactMakePointKeysSpec)

/-- 'laws.FnExactIsValidPointKey', WHERE WHAT IT READS IS OF BULK AT MOST 1048576: true; the input reads as it did. -/
def fnExactIsValidPointKeyUptoRow : OpenClaim := { program := "ytheefkhhafefoaa", sum := "927ac5de8e5884d9b196214641c865d8f6b94a85de50ffdc41a0654333d47452", func := "loop.example/g00516/laws.FnExactIsValidPointKey", spec := "fnExactIsValidPointKey", apart := false, narrowed := true }
def FnExactIsValidPointKeyUptoSaid : Prop := fnExactIsValidPointKeyUptoRow.holds Try.pinned (OpenSpec.upto fnExactIsValidPointKeySpec)

/-- 'laws.FnExactEvaluatePoint', WHERE WHAT IT READS IS OF BULK AT MOST 1048576: true; the input reads as it did. -/
def fnExactEvaluatePointUptoRow : OpenClaim := { program := "ytheefkhhafefoaa", sum := "927ac5de8e5884d9b196214641c865d8f6b94a85de50ffdc41a0654333d47452", func := "loop.example/g00516/laws.FnExactEvaluatePoint", spec := "fnExactEvaluatePoint", apart := false, narrowed := true }
def FnExactEvaluatePointUptoSaid : Prop := fnExactEvaluatePointUptoRow.holds Try.pinned (OpenSpec.upto fnExactEvaluatePointSpec)

/-- 'laws.FnExactEvaluateAll', WHERE WHAT IT READS IS OF BULK AT MOST 1048576: true; the input reads as it did. -/
def fnExactEvaluateAllUptoRow : OpenClaim := { program := "ytheefkhhafefoaa", sum := "927ac5de8e5884d9b196214641c865d8f6b94a85de50ffdc41a0654333d47452", func := "loop.example/g00516/laws.FnExactEvaluateAll", spec := "fnExactEvaluateAll", apart := false, narrowed := true }
def FnExactEvaluateAllUptoSaid : Prop := fnExactEvaluateAllUptoRow.holds Try.pinned (OpenSpec.upto fnExactEvaluateAllSpec)

/-- 'laws.FnExactEncodePointKey', WHERE WHAT IT READS IS OF BULK AT MOST 1048576: true; the input reads as it did. -/
def fnExactEncodePointKeyUptoRow : OpenClaim := { program := "ytheefkhhafefoaa", sum := "927ac5de8e5884d9b196214641c865d8f6b94a85de50ffdc41a0654333d47452", func := "loop.example/g00516/laws.FnExactEncodePointKey", spec := "fnExactEncodePointKey", apart := false, narrowed := true }
def FnExactEncodePointKeyUptoSaid : Prop := fnExactEncodePointKeyUptoRow.holds Try.pinned (OpenSpec.upto fnExactEncodePointKeySpec)

/-- 'laws.FnExactKeySavings', WHERE WHAT IT READS IS OF BULK AT MOST 1048576: true; the input reads as it did. -/
def fnExactKeySavingsUptoRow : OpenClaim := { program := "ytheefkhhafefoaa", sum := "927ac5de8e5884d9b196214641c865d8f6b94a85de50ffdc41a0654333d47452", func := "loop.example/g00516/laws.FnExactKeySavings", spec := "fnExactKeySavings", apart := false, narrowed := true }
def FnExactKeySavingsUptoSaid : Prop := fnExactKeySavingsUptoRow.holds Try.pinned (OpenSpec.upto fnExactKeySavingsSpec)

/-- 'laws.FnExactEqualPointKeys', WHERE WHAT IT READS IS OF BULK AT MOST 1048576: true; the input reads as it did. -/
def fnExactEqualPointKeysUptoRow : OpenClaim := { program := "ytheefkhhafefoaa", sum := "927ac5de8e5884d9b196214641c865d8f6b94a85de50ffdc41a0654333d47452", func := "loop.example/g00516/laws.FnExactEqualPointKeys", spec := "fnExactEqualPointKeys", apart := false, narrowed := true }
def FnExactEqualPointKeysUptoSaid : Prop := fnExactEqualPointKeysUptoRow.holds Try.pinned (OpenSpec.upto fnExactEqualPointKeysSpec)

end Rows
end Go.Proofs.Ytheefkhhafefoaa
