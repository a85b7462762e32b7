/-
  No cell of these rows narrows 'for every input' (looked for: loops, veiled, ifaces, maps, wideKeys, modest, calm, conditions, laid).
  DERIVED. THE GIVEN ROWS OF THIS SEAT. 10 by the template 'for every input the law returns true; each argument reads behind the call as it read before'; 0 by the template 'total and deterministic' (their statements: YtdeahjinnnhfkaaTotals.lean).
  GIVEN WITH THE SEED: the statements are not yours to turn. If you find one false, say at which input.
  Laid BY PROGRAM, IN A SANDBOX (cutbox-rows.mjs): the forced cells as the released guide's own fill.sh prints them over the translation 040a166266b52bd4… (all of the seat's roots in one cut). By AI agents, Wed Nov 11 2026. No macro, syntax, notation, axiom, sorry.
-/
import Derived.Test.YtdeahjinnnhfkaaChecked
import GoSem.Claim
import GoSem.ClaimJoined
import GoSem.ClaimMapViews
import Derived.JoinedTies
import Derived.KernelRfl
namespace Go.Proofs.Ytdeahjinnnhfkaa
/- THE CELL 'sum', in the pinned program and in every row, IS THE sha256 OF THE DUMP (.gsa) THAT YtdeahjinnnhfkaaProg.lean LOADS. Nothing in Lean hashes anything: it is a label: what it is worth is what the hold of that sum in a sandbox is worth. -/
noncomputable def Try.pinned : Pinned := { name := "ytdeahjinnnhfkaa", sum := "040a166266b52bd4044dedb54340f991520adffc18a98d3dba097d81d1ae7f96", checked := Try.checked }
namespace Rows
def none {H : Type} : Left H := { results := [], args := [] }

/-- 'laws.FnUnitSelections': WHATEVER THE INPUT: true; the input reads as it did. -/
def fnUnitSelectionsSpec : ChangeSpec := { name := "fnUnitSelections", fn := fun _ => fun
  | [d] => { results := [.lit (.bool true)], args := [d] }
  | _ => none }
def fnUnitSelectionsRow : OpenClaim := { program := "ytdeahjinnnhfkaa", sum := "040a166266b52bd4044dedb54340f991520adffc18a98d3dba097d81d1ae7f96", func := "loop.example/g00516/laws.FnUnitSelections", spec := "fnUnitSelections", unfollowed := true, recurses := true, apart := false }
def FnUnitSelectionsSaid : Prop := fnUnitSelectionsRow.holds Try.pinned (OpenSpec.ofChange fnUnitSelectionsSpec)

/-- ITS FALSE NEIGHBOUR: 'it returns false'. Refute it at one input. -/
def fnUnitSelectionsWrong : ChangeSpec := { name := "fnUnitSelections", fn := fun _ => fun
  | [d] => { results := [.lit (.bool false)], args := [d] }
  | _ => none }
def FnUnitSelectionsWrongFalsely : Prop := fnUnitSelectionsRow.holds Try.pinned (OpenSpec.ofChange fnUnitSelectionsWrong)

/-- 'laws.FnDatabases': WHATEVER THE INPUT: true; the input reads as it did. -/
def fnDatabasesSpec : ChangeSpec := { name := "fnDatabases", fn := fun _ => fun
  | [d] => { results := [.lit (.bool true)], args := [d] }
  | _ => none }
def fnDatabasesRow : OpenClaim := { program := "ytdeahjinnnhfkaa", sum := "040a166266b52bd4044dedb54340f991520adffc18a98d3dba097d81d1ae7f96", func := "loop.example/g00516/laws.FnDatabases", spec := "fnDatabases", unfollowed := true, recurses := true, apart := false }
def FnDatabasesSaid : Prop := fnDatabasesRow.holds Try.pinned (OpenSpec.ofChange fnDatabasesSpec)

/-- ITS FALSE NEIGHBOUR: 'it returns false'. Refute it at one input. -/
def fnDatabasesWrong : ChangeSpec := { name := "fnDatabases", fn := fun _ => fun
  | [d] => { results := [.lit (.bool false)], args := [d] }
  | _ => none }
def FnDatabasesWrongFalsely : Prop := fnDatabasesRow.holds Try.pinned (OpenSpec.ofChange fnDatabasesWrong)

/-- 'laws.FnExactNewDatabase': WHATEVER THE INPUT: true; the input reads as it did. -/
def fnExactNewDatabaseSpec : ChangeSpec := { name := "fnExactNewDatabase", fn := fun _ => fun
  | [d] => { results := [.lit (.bool true)], args := [d] }
  | _ => none }
def fnExactNewDatabaseRow : OpenClaim := { program := "ytdeahjinnnhfkaa", sum := "040a166266b52bd4044dedb54340f991520adffc18a98d3dba097d81d1ae7f96", func := "loop.example/g00516/laws.FnExactNewDatabase", spec := "fnExactNewDatabase", apart := false }
def FnExactNewDatabaseSaid : Prop := fnExactNewDatabaseRow.holds Try.pinned (OpenSpec.ofChange fnExactNewDatabaseSpec)

/-- ITS FALSE NEIGHBOUR: 'it returns false'. Refute it at one input. -/
def fnExactNewDatabaseWrong : ChangeSpec := { name := "fnExactNewDatabase", fn := fun _ => fun
  | [d] => { results := [.lit (.bool false)], args := [d] }
  | _ => none }
def FnExactNewDatabaseWrongFalsely : Prop := fnExactNewDatabaseRow.holds Try.pinned (OpenSpec.ofChange fnExactNewDatabaseWrong)

/-- 'laws.FnExactIsValidDatabase': WHATEVER THE INPUT: true; the input reads as it did. -/
def fnExactIsValidDatabaseSpec : ChangeSpec := { name := "fnExactIsValidDatabase", fn := fun _ => fun
  | [d] => { results := [.lit (.bool true)], args := [d] }
  | _ => none }
def fnExactIsValidDatabaseRow : OpenClaim := { program := "ytdeahjinnnhfkaa", sum := "040a166266b52bd4044dedb54340f991520adffc18a98d3dba097d81d1ae7f96", func := "loop.example/g00516/laws.FnExactIsValidDatabase", spec := "fnExactIsValidDatabase", apart := false }
def FnExactIsValidDatabaseSaid : Prop := fnExactIsValidDatabaseRow.holds Try.pinned (OpenSpec.ofChange fnExactIsValidDatabaseSpec)

/-- ITS FALSE NEIGHBOUR: 'it returns false'. Refute it at one input. -/
def fnExactIsValidDatabaseWrong : ChangeSpec := { name := "fnExactIsValidDatabase", fn := fun _ => fun
  | [d] => { results := [.lit (.bool false)], args := [d] }
  | _ => none }
def FnExactIsValidDatabaseWrongFalsely : Prop := fnExactIsValidDatabaseRow.holds Try.pinned (OpenSpec.ofChange fnExactIsValidDatabaseWrong)

/-- 'laws.FnExactReadRow': WHATEVER THE INPUT: true; the input reads as it did. -/
def fnExactReadRowSpec : ChangeSpec := { name := "fnExactReadRow", fn := fun _ => fun
  | [d1, d2] => { results := [.lit (.bool true)], args := [d1, d2] }
  | _ => none }
def fnExactReadRowRow : OpenClaim := { program := "ytdeahjinnnhfkaa", sum := "040a166266b52bd4044dedb54340f991520adffc18a98d3dba097d81d1ae7f96", func := "loop.example/g00516/laws.FnExactReadRow", spec := "fnExactReadRow", apart := false }
def FnExactReadRowSaid : Prop := fnExactReadRowRow.holds Try.pinned (OpenSpec.ofChange fnExactReadRowSpec)

/-- ITS FALSE NEIGHBOUR: 'it returns false'. Refute it at one input. -/
def fnExactReadRowWrong : ChangeSpec := { name := "fnExactReadRow", fn := fun _ => fun
  | [d1, d2] => { results := [.lit (.bool false)], args := [d1, d2] }
  | _ => none }
def FnExactReadRowWrongFalsely : Prop := fnExactReadRowRow.holds Try.pinned (OpenSpec.ofChange fnExactReadRowWrong)

/-- 'laws.FnExactReplaceRow': WHATEVER THE INPUT: true; the input reads as it did. -/
def fnExactReplaceRowSpec : ChangeSpec := { name := "fnExactReplaceRow", fn := fun _ => fun
  | [d1, d2, d3] => { results := [.lit (.bool true)], args := [d1, d2, d3] }
  | _ => none }
def fnExactReplaceRowRow : OpenClaim := { program := "ytdeahjinnnhfkaa", sum := "040a166266b52bd4044dedb54340f991520adffc18a98d3dba097d81d1ae7f96", func := "loop.example/g00516/laws.FnExactReplaceRow", spec := "fnExactReplaceRow", apart := false }
def FnExactReplaceRowSaid : Prop := fnExactReplaceRowRow.holds Try.pinned (OpenSpec.ofChange fnExactReplaceRowSpec)

/-- ITS FALSE NEIGHBOUR: 'it returns false'. Refute it at one input. -/
def fnExactReplaceRowWrong : ChangeSpec := { name := "fnExactReplaceRow", fn := fun _ => fun
  | [d1, d2, d3] => { results := [.lit (.bool false)], args := [d1, d2, d3] }
  | _ => none }
def FnExactReplaceRowWrongFalsely : Prop := fnExactReplaceRowRow.holds Try.pinned (OpenSpec.ofChange fnExactReplaceRowWrong)

/-- 'laws.FnExactXorRow': WHATEVER THE INPUT: true; the input reads as it did. -/
def fnExactXorRowSpec : ChangeSpec := { name := "fnExactXorRow", fn := fun _ => fun
  | [d1, d2, d3] => { results := [.lit (.bool true)], args := [d1, d2, d3] }
  | _ => none }
def fnExactXorRowRow : OpenClaim := { program := "ytdeahjinnnhfkaa", sum := "040a166266b52bd4044dedb54340f991520adffc18a98d3dba097d81d1ae7f96", func := "loop.example/g00516/laws.FnExactXorRow", spec := "fnExactXorRow", unfollowed := true, recurses := true, apart := false }
def FnExactXorRowSaid : Prop := fnExactXorRowRow.holds Try.pinned (OpenSpec.ofChange fnExactXorRowSpec)

/-- ITS FALSE NEIGHBOUR: 'it returns false'. Refute it at one input. -/
def fnExactXorRowWrong : ChangeSpec := { name := "fnExactXorRow", fn := fun _ => fun
  | [d1, d2, d3] => { results := [.lit (.bool false)], args := [d1, d2, d3] }
  | _ => none }
def FnExactXorRowWrongFalsely : Prop := fnExactXorRowRow.holds Try.pinned (OpenSpec.ofChange fnExactXorRowWrong)

/-- 'laws.FnExactXorDatabases': WHATEVER THE INPUT: true; the input reads as it did. -/
def fnExactXorDatabasesSpec : ChangeSpec := { name := "fnExactXorDatabases", fn := fun _ => fun
  | [d1, d2] => { results := [.lit (.bool true)], args := [d1, d2] }
  | _ => none }
def fnExactXorDatabasesRow : OpenClaim := { program := "ytdeahjinnnhfkaa", sum := "040a166266b52bd4044dedb54340f991520adffc18a98d3dba097d81d1ae7f96", func := "loop.example/g00516/laws.FnExactXorDatabases", spec := "fnExactXorDatabases", unfollowed := true, recurses := true, apart := false }
def FnExactXorDatabasesSaid : Prop := fnExactXorDatabasesRow.holds Try.pinned (OpenSpec.ofChange fnExactXorDatabasesSpec)

/-- ITS FALSE NEIGHBOUR: 'it returns false'. Refute it at one input. -/
def fnExactXorDatabasesWrong : ChangeSpec := { name := "fnExactXorDatabases", fn := fun _ => fun
  | [d1, d2] => { results := [.lit (.bool false)], args := [d1, d2] }
  | _ => none }
def FnExactXorDatabasesWrongFalsely : Prop := fnExactXorDatabasesRow.holds Try.pinned (OpenSpec.ofChange fnExactXorDatabasesWrong)

/-- 'laws.FnExactDatabaseDigest': WHATEVER THE INPUT: true; the input reads as it did. -/
def fnExactDatabaseDigestSpec : ChangeSpec := { name := "fnExactDatabaseDigest", fn := fun _ => fun
  | [d] => { results := [.lit (.bool true)], args := [d] }
  | _ => none }
def fnExactDatabaseDigestRow : OpenClaim := { program := "ytdeahjinnnhfkaa", sum := "040a166266b52bd4044dedb54340f991520adffc18a98d3dba097d81d1ae7f96", func := "loop.example/g00516/laws.FnExactDatabaseDigest", spec := "fnExactDatabaseDigest", apart := false }
def FnExactDatabaseDigestSaid : Prop := fnExactDatabaseDigestRow.holds Try.pinned (OpenSpec.ofChange fnExactDatabaseDigestSpec)

/-- ITS FALSE NEIGHBOUR: 'it returns false'. Refute it at one input. -/
def fnExactDatabaseDigestWrong : ChangeSpec := { name := "fnExactDatabaseDigest", fn := fun _ => fun
  | [d] => { results := [.lit (.bool false)], args := [d] }
  | _ => none }
def FnExactDatabaseDigestWrongFalsely : Prop := fnExactDatabaseDigestRow.holds Try.pinned (OpenSpec.ofChange fnExactDatabaseDigestWrong)

/-- 'laws.FnExactEqualDatabases': WHATEVER THE INPUT: true; the input reads as it did. -/
def fnExactEqualDatabasesSpec : ChangeSpec := { name := "fnExactEqualDatabases", fn := fun _ => fun
  | [d1, d2] => { results := [.lit (.bool true)], args := [d1, d2] }
  | _ => none }
def fnExactEqualDatabasesRow : OpenClaim := { program := "ytdeahjinnnhfkaa", sum := "040a166266b52bd4044dedb54340f991520adffc18a98d3dba097d81d1ae7f96", func := "loop.example/g00516/laws.FnExactEqualDatabases", spec := "fnExactEqualDatabases", unfollowed := true, recurses := true, apart := false }
def FnExactEqualDatabasesSaid : Prop := fnExactEqualDatabasesRow.holds Try.pinned (OpenSpec.ofChange fnExactEqualDatabasesSpec)

/-- ITS FALSE NEIGHBOUR: 'it returns false'. Refute it at one input. -/
def fnExactEqualDatabasesWrong : ChangeSpec := { name := "fnExactEqualDatabases", fn := fun _ => fun
  | [d1, d2] => { results := [.lit (.bool false)], args := [d1, d2] }
  | _ => none }
def FnExactEqualDatabasesWrongFalsely : Prop := fnExactEqualDatabasesRow.holds Try.pinned (OpenSpec.ofChange fnExactEqualDatabasesWrong)

/- THE SECOND FORM. 'bulk': how many values and letters a reading holds, each counted each time it is reached (what is shared counts as often as it is met; a slice's spare places count too). A statement '..UptoSaid' is the law's where the arguments, and the package variables that the reading takes, are together of bulk at most 1048576: NARROWER than '..Said'. Prove '..Said' where nothing that the law and all that it calls make is longer than what came in: it says more and counts as full. Else prove '..UptoSaid'. A law counts once. -/
mutual
def uptoBulk {H : Type} : DataW H → Nat
  | .lit (.string bytes) => bytes.length + 1
  | .lit _ => 1
  | .nil => 1
  | .ptr d => uptoBulk d + 1
  | .slice elems spare => uptoBulkAll elems + uptoBulkAll spare + 1
  | .agg parts => uptoBulkAll parts + 1
  | .iface _ d => uptoBulk d + 1
  | .map entries => uptoBulkEntries entries + 1
  | .held _ => 1
def uptoBulkAll {H : Type} : List (DataW H) → Nat
  | [] => 0
  | d :: r => uptoBulk d + uptoBulkAll r
def uptoBulkEntries {H : Type} : List (Lit × DataW H) → Nat
  | [] => 0
  | x :: r => uptoBulkEntry x + uptoBulkEntries r
def uptoBulkEntry {H : Type} : Lit × DataW H → Nat
  | (.string bytes, d) => bytes.length + uptoBulk d + 1
  | (_, d) => uptoBulk d + 1
 end
def uptoSmall : (H : Type) → List (DataW H) → Bool := fun _ ds => decide (uptoBulkAll ds ≤ 1048576)
def OpenSpec.upto (s : _root_.Go.ChangeSpec) : _root_.Go.OpenSpec := { _root_.Go.OpenSpec.ofChange s with cond := some uptoSmall }

/-- 'laws.FnUnitSelections', WHERE WHAT IT READS IS OF BULK AT MOST 1048576: true; the input reads as it did. -/
def fnUnitSelectionsUptoRow : OpenClaim := { program := "ytdeahjinnnhfkaa", sum := "040a166266b52bd4044dedb54340f991520adffc18a98d3dba097d81d1ae7f96", func := "loop.example/g00516/laws.FnUnitSelections", spec := "fnUnitSelections", unfollowed := true, recurses := true, apart := false, narrowed := true }
def FnUnitSelectionsUptoSaid : Prop := fnUnitSelectionsUptoRow.holds Try.pinned (OpenSpec.upto fnUnitSelectionsSpec)

/-- 'laws.FnDatabases', WHERE WHAT IT READS IS OF BULK AT MOST 1048576: true; the input reads as it did. -/
def fnDatabasesUptoRow : OpenClaim := { program := "ytdeahjinnnhfkaa", sum := "040a166266b52bd4044dedb54340f991520adffc18a98d3dba097d81d1ae7f96", func := "loop.example/g00516/laws.FnDatabases", spec := "fnDatabases", unfollowed := true, recurses := true, apart := false, narrowed := true }
def FnDatabasesUptoSaid : Prop := fnDatabasesUptoRow.holds Try.pinned (OpenSpec.upto fnDatabasesSpec)

/-- 'laws.FnExactNewDatabase', WHERE WHAT IT READS IS OF BULK AT MOST 1048576: true; the input reads as it did. -/
def fnExactNewDatabaseUptoRow : OpenClaim := { program := "ytdeahjinnnhfkaa", sum := "040a166266b52bd4044dedb54340f991520adffc18a98d3dba097d81d1ae7f96", func := "loop.example/g00516/laws.FnExactNewDatabase", spec := "fnExactNewDatabase", apart := false, narrowed := true }
def FnExactNewDatabaseUptoSaid : Prop := fnExactNewDatabaseUptoRow.holds Try.pinned (OpenSpec.upto fnExactNewDatabaseSpec)

/-- 'laws.FnExactIsValidDatabase', WHERE WHAT IT READS IS OF BULK AT MOST 1048576: true; the input reads as it did. -/
def fnExactIsValidDatabaseUptoRow : OpenClaim := { program := "ytdeahjinnnhfkaa", sum := "040a166266b52bd4044dedb54340f991520adffc18a98d3dba097d81d1ae7f96", func := "loop.example/g00516/laws.FnExactIsValidDatabase", spec := "fnExactIsValidDatabase", apart := false, narrowed := true }
def FnExactIsValidDatabaseUptoSaid : Prop := fnExactIsValidDatabaseUptoRow.holds Try.pinned (OpenSpec.upto fnExactIsValidDatabaseSpec)

/-- 'laws.FnExactReadRow', WHERE WHAT IT READS IS OF BULK AT MOST 1048576: true; the input reads as it did. -/
def fnExactReadRowUptoRow : OpenClaim := { program := "ytdeahjinnnhfkaa", sum := "040a166266b52bd4044dedb54340f991520adffc18a98d3dba097d81d1ae7f96", func := "loop.example/g00516/laws.FnExactReadRow", spec := "fnExactReadRow", apart := false, narrowed := true }
def FnExactReadRowUptoSaid : Prop := fnExactReadRowUptoRow.holds Try.pinned (OpenSpec.upto fnExactReadRowSpec)

/-- 'laws.FnExactReplaceRow', WHERE WHAT IT READS IS OF BULK AT MOST 1048576: true; the input reads as it did. -/
def fnExactReplaceRowUptoRow : OpenClaim := { program := "ytdeahjinnnhfkaa", sum := "040a166266b52bd4044dedb54340f991520adffc18a98d3dba097d81d1ae7f96", func := "loop.example/g00516/laws.FnExactReplaceRow", spec := "fnExactReplaceRow", apart := false, narrowed := true }
def FnExactReplaceRowUptoSaid : Prop := fnExactReplaceRowUptoRow.holds Try.pinned (OpenSpec.upto fnExactReplaceRowSpec)

/-- 'laws.FnExactXorRow', WHERE WHAT IT READS IS OF BULK AT MOST 1048576: true; the input reads as it did. -/
def fnExactXorRowUptoRow : OpenClaim := { program := "ytdeahjinnnhfkaa", sum := "040a166266b52bd4044dedb54340f991520adffc18a98d3dba097d81d1ae7f96", func := "loop.example/g00516/laws.FnExactXorRow", spec := "fnExactXorRow", unfollowed := true, recurses := true, apart := false, narrowed := true }
def FnExactXorRowUptoSaid : Prop := fnExactXorRowUptoRow.holds Try.pinned (OpenSpec.upto fnExactXorRowSpec)

/-- 'laws.FnExactXorDatabases', WHERE WHAT IT READS IS OF BULK AT MOST 1048576: true; the input reads as it did. -/
def fnExactXorDatabasesUptoRow : OpenClaim := { program := "ytdeahjinnnhfkaa", sum := "040a166266b52bd4044dedb54340f991520adffc18a98d3dba097d81d1ae7f96", func := "loop.example/g00516/laws.FnExactXorDatabases", spec := "fnExactXorDatabases", unfollowed := true, recurses := true, apart := false, narrowed := true }
def FnExactXorDatabasesUptoSaid : Prop := fnExactXorDatabasesUptoRow.holds Try.pinned (OpenSpec.upto fnExactXorDatabasesSpec)

/-- 'laws.FnExactDatabaseDigest', WHERE WHAT IT READS IS OF BULK AT MOST 1048576: true; the input reads as it did. -/
def fnExactDatabaseDigestUptoRow : OpenClaim := { program := "ytdeahjinnnhfkaa", sum := "040a166266b52bd4044dedb54340f991520adffc18a98d3dba097d81d1ae7f96", func := "loop.example/g00516/laws.FnExactDatabaseDigest", spec := "fnExactDatabaseDigest", apart := false, narrowed := true }
def FnExactDatabaseDigestUptoSaid : Prop := fnExactDatabaseDigestUptoRow.holds Try.pinned (OpenSpec.upto fnExactDatabaseDigestSpec)

/-- 'laws.FnExactEqualDatabases', WHERE WHAT IT READS IS OF BULK AT MOST 1048576: true; the input reads as it did. -/
def fnExactEqualDatabasesUptoRow : OpenClaim := { program := "ytdeahjinnnhfkaa", sum := "040a166266b52bd4044dedb54340f991520adffc18a98d3dba097d81d1ae7f96", func := "loop.example/g00516/laws.FnExactEqualDatabases", spec := "fnExactEqualDatabases", unfollowed := true, recurses := true, apart := false, narrowed := true }
def FnExactEqualDatabasesUptoSaid : Prop := fnExactEqualDatabasesUptoRow.holds Try.pinned (OpenSpec.upto fnExactEqualDatabasesSpec)

end Rows
end Go.Proofs.Ytdeahjinnnhfkaa
