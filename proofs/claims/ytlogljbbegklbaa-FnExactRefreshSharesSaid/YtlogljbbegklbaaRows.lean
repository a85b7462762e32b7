/-
  No cell of these rows narrows 'for every input' (looked for: loops, veiled, ifaces, maps, wideKeys, modest, calm, conditions, laid).
  DERIVED. THE GIVEN ROWS OF THIS SEAT. 8 by the template 'for every input the law returns true; each argument reads behind the call as it read before'; 0 by the template 'total and deterministic' (their statements: YtlogljbbegklbaaTotals.lean).
  GIVEN WITH THE SEED: the statements are not yours to turn. If you find one false, say at which input.
  Laid BY PROGRAM, IN A SANDBOX (cutbox-rows.mjs): the forced cells as the released guide's own fill.sh prints them over the translation 147ed30c03e32cb7… (all of the seat's roots in one cut). By AI agents, Wed Nov 11 2026. No macro, syntax, notation, axiom, sorry.
-/
import Derived.Test.YtlogljbbegklbaaChecked
import GoSem.Claim
import GoSem.ClaimJoined
import GoSem.ClaimMapViews
import Derived.JoinedTies
import Derived.KernelRfl
namespace Go.Proofs.Ytlogljbbegklbaa
/- THE CELL 'sum', in the pinned program and in every row, IS THE sha256 OF THE DUMP (.gsa) THAT YtlogljbbegklbaaProg.lean LOADS. Nothing in Lean hashes anything: it is a label: what it is worth is what the hold of that sum in a sandbox is worth. -/
noncomputable def Try.pinned : Pinned := { name := "ytlogljbbegklbaa", sum := "147ed30c03e32cb7b4a5c6aca9124d911a177a4e2de02a26799e9d5cbc2fce14", checked := Try.checked }
namespace Rows
def none {H : Type} : Left H := { results := [], args := [] }

/-- 'laws.FnShares': WHATEVER THE INPUT: true; the input reads as it did. -/
def fnSharesSpec : ChangeSpec := { name := "fnShares", fn := fun _ => fun
  | [d] => { results := [.lit (.bool true)], args := [d] }
  | _ => none }
def fnSharesRow : OpenClaim := { program := "ytlogljbbegklbaa", sum := "147ed30c03e32cb7b4a5c6aca9124d911a177a4e2de02a26799e9d5cbc2fce14", func := "loop.example/g00516/laws.FnShares", spec := "fnShares", unfollowed := true, recurses := true, apart := false }
def FnSharesSaid : Prop := fnSharesRow.holds Try.pinned (OpenSpec.ofChange fnSharesSpec)

/-- ITS FALSE NEIGHBOUR: 'it returns false'. Refute it at one input. -/
def fnSharesWrong : ChangeSpec := { name := "fnShares", fn := fun _ => fun
  | [d] => { results := [.lit (.bool false)], args := [d] }
  | _ => none }
def FnSharesWrongFalsely : Prop := fnSharesRow.holds Try.pinned (OpenSpec.ofChange fnSharesWrong)

/-- 'laws.FnNumberShares': WHATEVER THE INPUT: true; the input reads as it did. -/
def fnNumberSharesSpec : ChangeSpec := { name := "fnNumberShares", fn := fun _ => fun
  | [d] => { results := [.lit (.bool true)], args := [d] }
  | _ => none }
def fnNumberSharesRow : OpenClaim := { program := "ytlogljbbegklbaa", sum := "147ed30c03e32cb7b4a5c6aca9124d911a177a4e2de02a26799e9d5cbc2fce14", func := "loop.example/g00516/laws.FnNumberShares", spec := "fnNumberShares", unfollowed := true, recurses := true, apart := false }
def FnNumberSharesSaid : Prop := fnNumberSharesRow.holds Try.pinned (OpenSpec.ofChange fnNumberSharesSpec)

/-- ITS FALSE NEIGHBOUR: 'it returns false'. Refute it at one input. -/
def fnNumberSharesWrong : ChangeSpec := { name := "fnNumberShares", fn := fun _ => fun
  | [d] => { results := [.lit (.bool false)], args := [d] }
  | _ => none }
def FnNumberSharesWrongFalsely : Prop := fnNumberSharesRow.holds Try.pinned (OpenSpec.ofChange fnNumberSharesWrong)

/-- 'laws.FnExactShareBytes': WHATEVER THE INPUT: true; the input reads as it did. -/
def fnExactShareBytesSpec : ChangeSpec := { name := "fnExactShareBytes", fn := fun _ => fun
  | [d1, d2] => { results := [.lit (.bool true)], args := [d1, d2] }
  | _ => none }
def fnExactShareBytesRow : OpenClaim := { program := "ytlogljbbegklbaa", sum := "147ed30c03e32cb7b4a5c6aca9124d911a177a4e2de02a26799e9d5cbc2fce14", func := "loop.example/g00516/laws.FnExactShareBytes", spec := "fnExactShareBytes", unfollowed := true, recurses := true, apart := false }
def FnExactShareBytesSaid : Prop := fnExactShareBytesRow.holds Try.pinned (OpenSpec.ofChange fnExactShareBytesSpec)

/-- ITS FALSE NEIGHBOUR: 'it returns false'. Refute it at one input. -/
def fnExactShareBytesWrong : ChangeSpec := { name := "fnExactShareBytes", fn := fun _ => fun
  | [d1, d2] => { results := [.lit (.bool false)], args := [d1, d2] }
  | _ => none }
def FnExactShareBytesWrongFalsely : Prop := fnExactShareBytesRow.holds Try.pinned (OpenSpec.ofChange fnExactShareBytesWrong)

/-- 'laws.FnExactJoinShares': WHATEVER THE INPUT: true; the input reads as it did. -/
def fnExactJoinSharesSpec : ChangeSpec := { name := "fnExactJoinShares", fn := fun _ => fun
  | [d] => { results := [.lit (.bool true)], args := [d] }
  | _ => none }
def fnExactJoinSharesRow : OpenClaim := { program := "ytlogljbbegklbaa", sum := "147ed30c03e32cb7b4a5c6aca9124d911a177a4e2de02a26799e9d5cbc2fce14", func := "loop.example/g00516/laws.FnExactJoinShares", spec := "fnExactJoinShares", unfollowed := true, recurses := true, apart := false }
def FnExactJoinSharesSaid : Prop := fnExactJoinSharesRow.holds Try.pinned (OpenSpec.ofChange fnExactJoinSharesSpec)

/-- ITS FALSE NEIGHBOUR: 'it returns false'. Refute it at one input. -/
def fnExactJoinSharesWrong : ChangeSpec := { name := "fnExactJoinShares", fn := fun _ => fun
  | [d] => { results := [.lit (.bool false)], args := [d] }
  | _ => none }
def FnExactJoinSharesWrongFalsely : Prop := fnExactJoinSharesRow.holds Try.pinned (OpenSpec.ofChange fnExactJoinSharesWrong)

/-- 'laws.FnExactRefreshShares': WHATEVER THE INPUT: true; the input reads as it did. -/
def fnExactRefreshSharesSpec : ChangeSpec := { name := "fnExactRefreshShares", fn := fun _ => fun
  | [d1, d2] => { results := [.lit (.bool true)], args := [d1, d2] }
  | _ => none }
def fnExactRefreshSharesRow : OpenClaim := { program := "ytlogljbbegklbaa", sum := "147ed30c03e32cb7b4a5c6aca9124d911a177a4e2de02a26799e9d5cbc2fce14", func := "loop.example/g00516/laws.FnExactRefreshShares", spec := "fnExactRefreshShares", unfollowed := true, recurses := true, apart := false }
def FnExactRefreshSharesSaid : Prop := fnExactRefreshSharesRow.holds Try.pinned (OpenSpec.ofChange fnExactRefreshSharesSpec)

/-- ITS FALSE NEIGHBOUR: 'it returns false'. Refute it at one input. -/
def fnExactRefreshSharesWrong : ChangeSpec := { name := "fnExactRefreshShares", fn := fun _ => fun
  | [d1, d2] => { results := [.lit (.bool false)], args := [d1, d2] }
  | _ => none }
def FnExactRefreshSharesWrongFalsely : Prop := fnExactRefreshSharesRow.holds Try.pinned (OpenSpec.ofChange fnExactRefreshSharesWrong)

/-- 'laws.FnExactMissingShare': WHATEVER THE INPUT: true; the input reads as it did. -/
def fnExactMissingShareSpec : ChangeSpec := { name := "fnExactMissingShare", fn := fun _ => fun
  | [d1, d2] => { results := [.lit (.bool true)], args := [d1, d2] }
  | _ => none }
def fnExactMissingShareRow : OpenClaim := { program := "ytlogljbbegklbaa", sum := "147ed30c03e32cb7b4a5c6aca9124d911a177a4e2de02a26799e9d5cbc2fce14", func := "loop.example/g00516/laws.FnExactMissingShare", spec := "fnExactMissingShare", unfollowed := true, recurses := true, apart := false }
def FnExactMissingShareSaid : Prop := fnExactMissingShareRow.holds Try.pinned (OpenSpec.ofChange fnExactMissingShareSpec)

/-- ITS FALSE NEIGHBOUR: 'it returns false'. Refute it at one input. -/
def fnExactMissingShareWrong : ChangeSpec := { name := "fnExactMissingShare", fn := fun _ => fun
  | [d1, d2] => { results := [.lit (.bool false)], args := [d1, d2] }
  | _ => none }
def FnExactMissingShareWrongFalsely : Prop := fnExactMissingShareRow.holds Try.pinned (OpenSpec.ofChange fnExactMissingShareWrong)

/-- 'laws.FnExactShareNumber': WHATEVER THE INPUT: true; the input reads as it did. -/
def fnExactShareNumberSpec : ChangeSpec := { name := "fnExactShareNumber", fn := fun _ => fun
  | [d1, d2] => { results := [.lit (.bool true)], args := [d1, d2] }
  | _ => none }
def fnExactShareNumberRow : OpenClaim := { program := "ytlogljbbegklbaa", sum := "147ed30c03e32cb7b4a5c6aca9124d911a177a4e2de02a26799e9d5cbc2fce14", func := "loop.example/g00516/laws.FnExactShareNumber", spec := "fnExactShareNumber", unfollowed := true, recurses := true, apart := false }
def FnExactShareNumberSaid : Prop := fnExactShareNumberRow.holds Try.pinned (OpenSpec.ofChange fnExactShareNumberSpec)

/-- ITS FALSE NEIGHBOUR: 'it returns false'. Refute it at one input. -/
def fnExactShareNumberWrong : ChangeSpec := { name := "fnExactShareNumber", fn := fun _ => fun
  | [d1, d2] => { results := [.lit (.bool false)], args := [d1, d2] }
  | _ => none }
def FnExactShareNumberWrongFalsely : Prop := fnExactShareNumberRow.holds Try.pinned (OpenSpec.ofChange fnExactShareNumberWrong)

/-- 'laws.FnExactJoinNumber': WHATEVER THE INPUT: true; the input reads as it did. -/
def fnExactJoinNumberSpec : ChangeSpec := { name := "fnExactJoinNumber", fn := fun _ => fun
  | [d] => { results := [.lit (.bool true)], args := [d] }
  | _ => none }
def fnExactJoinNumberRow : OpenClaim := { program := "ytlogljbbegklbaa", sum := "147ed30c03e32cb7b4a5c6aca9124d911a177a4e2de02a26799e9d5cbc2fce14", func := "loop.example/g00516/laws.FnExactJoinNumber", spec := "fnExactJoinNumber", apart := false }
def FnExactJoinNumberSaid : Prop := fnExactJoinNumberRow.holds Try.pinned (OpenSpec.ofChange fnExactJoinNumberSpec)

/-- ITS FALSE NEIGHBOUR: 'it returns false'. Refute it at one input. -/
def fnExactJoinNumberWrong : ChangeSpec := { name := "fnExactJoinNumber", fn := fun _ => fun
  | [d] => { results := [.lit (.bool false)], args := [d] }
  | _ => none }
def FnExactJoinNumberWrongFalsely : Prop := fnExactJoinNumberRow.holds Try.pinned (OpenSpec.ofChange fnExactJoinNumberWrong)

/- THE SECOND FORM. 'bulk': how many values and letters a reading holds, each counted each time it is reached (what is shared counts as often as it is met; a slice's spare places count too). A statement '..UptoSaid' is the law's where the arguments, and the package variables that the reading takes, are together of bulk at most 1048576: NARROWER than '..Said'. Prove '..Said' where nothing that the law and all that it calls make is longer than what came in: it says more and counts as full. Else prove '..UptoSaid'. A law counts once. -/
mutual
def uptoBulk {H : Type} : DataW H → Nat
  | .lit (.string bytes) => bytes.length + 1
  | .lit _ => 1
  | .nil => 1
  | .ptr d => uptoBulk d + 1
  | .slice elems spare => uptoBulkAll elems + uptoBulkAll spare + 1
  | .agg parts => uptoBulkAll parts + 1
  | .iface _ d => uptoBulk d + 1
  | .map entries => uptoBulkEntries entries + 1
  | .held _ => 1
def uptoBulkAll {H : Type} : List (DataW H) → Nat
  | [] => 0
  | d :: r => uptoBulk d + uptoBulkAll r
def uptoBulkEntries {H : Type} : List (Lit × DataW H) → Nat
  | [] => 0
  | x :: r => uptoBulkEntry x + uptoBulkEntries r
def uptoBulkEntry {H : Type} : Lit × DataW H → Nat
  | (.string bytes, d) => bytes.length + uptoBulk d + 1
  | (_, d) => uptoBulk d + 1
 end
def uptoSmall : (H : Type) → List (DataW H) → Bool := fun _ ds => decide (uptoBulkAll ds ≤ 1048576)
def OpenSpec.upto (s : _root_.Go.ChangeSpec) : _root_.Go.OpenSpec := { _root_.Go.OpenSpec.ofChange s with cond := some uptoSmall }

/-- 'laws.FnShares', WHERE WHAT IT READS IS OF BULK AT MOST 1048576: true; the input reads as it did. -/
def fnSharesUptoRow : OpenClaim := { program := "ytlogljbbegklbaa", sum := "147ed30c03e32cb7b4a5c6aca9124d911a177a4e2de02a26799e9d5cbc2fce14", func := "loop.example/g00516/laws.FnShares", spec := "fnShares", unfollowed := true, recurses := true, apart := false, narrowed := true }
def FnSharesUptoSaid : Prop := fnSharesUptoRow.holds Try.pinned (OpenSpec.upto fnSharesSpec)

/-- 'laws.FnNumberShares', WHERE WHAT IT READS IS OF BULK AT MOST 1048576: true; the input reads as it did. -/
def fnNumberSharesUptoRow : OpenClaim := { program := "ytlogljbbegklbaa", sum := "147ed30c03e32cb7b4a5c6aca9124d911a177a4e2de02a26799e9d5cbc2fce14", func := "loop.example/g00516/laws.FnNumberShares", spec := "fnNumberShares", unfollowed := true, recurses := true, apart := false, narrowed := true }
def FnNumberSharesUptoSaid : Prop := fnNumberSharesUptoRow.holds Try.pinned (OpenSpec.upto fnNumberSharesSpec)

/-- 'laws.FnExactShareBytes', WHERE WHAT IT READS IS OF BULK AT MOST 1048576: true; the input reads as it did. -/
def fnExactShareBytesUptoRow : OpenClaim := { program := "ytlogljbbegklbaa", sum := "147ed30c03e32cb7b4a5c6aca9124d911a177a4e2de02a26799e9d5cbc2fce14", func := "loop.example/g00516/laws.FnExactShareBytes", spec := "fnExactShareBytes", unfollowed := true, recurses := true, apart := false, narrowed := true }
def FnExactShareBytesUptoSaid : Prop := fnExactShareBytesUptoRow.holds Try.pinned (OpenSpec.upto fnExactShareBytesSpec)

/-- 'laws.FnExactJoinShares', WHERE WHAT IT READS IS OF BULK AT MOST 1048576: true; the input reads as it did. -/
def fnExactJoinSharesUptoRow : OpenClaim := { program := "ytlogljbbegklbaa", sum := "147ed30c03e32cb7b4a5c6aca9124d911a177a4e2de02a26799e9d5cbc2fce14", func := "loop.example/g00516/laws.FnExactJoinShares", spec := "fnExactJoinShares", unfollowed := true, recurses := true, apart := false, narrowed := true }
def FnExactJoinSharesUptoSaid : Prop := fnExactJoinSharesUptoRow.holds Try.pinned (OpenSpec.upto fnExactJoinSharesSpec)

/-- 'laws.FnExactRefreshShares', WHERE WHAT IT READS IS OF BULK AT MOST 1048576: true; the input reads as it did. -/
def fnExactRefreshSharesUptoRow : OpenClaim := { program := "ytlogljbbegklbaa", sum := "147ed30c03e32cb7b4a5c6aca9124d911a177a4e2de02a26799e9d5cbc2fce14", func := "loop.example/g00516/laws.FnExactRefreshShares", spec := "fnExactRefreshShares", unfollowed := true, recurses := true, apart := false, narrowed := true }
def FnExactRefreshSharesUptoSaid : Prop := fnExactRefreshSharesUptoRow.holds Try.pinned (OpenSpec.upto fnExactRefreshSharesSpec)

/-- 'laws.FnExactMissingShare', WHERE WHAT IT READS IS OF BULK AT MOST 1048576: true; the input reads as it did. -/
def fnExactMissingShareUptoRow : OpenClaim := { program := "ytlogljbbegklbaa", sum := "147ed30c03e32cb7b4a5c6aca9124d911a177a4e2de02a26799e9d5cbc2fce14", func := "loop.example/g00516/laws.FnExactMissingShare", spec := "fnExactMissingShare", unfollowed := true, recurses := true, apart := false, narrowed := true }
def FnExactMissingShareUptoSaid : Prop := fnExactMissingShareUptoRow.holds Try.pinned (OpenSpec.upto fnExactMissingShareSpec)

/-- 'laws.FnExactShareNumber', WHERE WHAT IT READS IS OF BULK AT MOST 1048576: true; the input reads as it did. -/
def fnExactShareNumberUptoRow : OpenClaim := { program := "ytlogljbbegklbaa", sum := "147ed30c03e32cb7b4a5c6aca9124d911a177a4e2de02a26799e9d5cbc2fce14", func := "loop.example/g00516/laws.FnExactShareNumber", spec := "fnExactShareNumber", unfollowed := true, recurses := true, apart := false, narrowed := true }
def FnExactShareNumberUptoSaid : Prop := fnExactShareNumberUptoRow.holds Try.pinned (OpenSpec.upto fnExactShareNumberSpec)

/-- 'laws.FnExactJoinNumber', WHERE WHAT IT READS IS OF BULK AT MOST 1048576: true; the input reads as it did. -/
def fnExactJoinNumberUptoRow : OpenClaim := { program := "ytlogljbbegklbaa", sum := "147ed30c03e32cb7b4a5c6aca9124d911a177a4e2de02a26799e9d5cbc2fce14", func := "loop.example/g00516/laws.FnExactJoinNumber", spec := "fnExactJoinNumber", apart := false, narrowed := true }
def FnExactJoinNumberUptoSaid : Prop := fnExactJoinNumberUptoRow.holds Try.pinned (OpenSpec.upto fnExactJoinNumberSpec)

end Rows
end Go.Proofs.Ytlogljbbegklbaa
