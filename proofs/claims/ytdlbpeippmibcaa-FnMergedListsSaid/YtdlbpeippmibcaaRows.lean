/-
  No cell of these rows narrows 'for every input' (looked for: loops, veiled, ifaces, maps, wideKeys, modest, calm, conditions, laid).
  DERIVED. THE GIVEN ROWS OF THIS SEAT. 10 by the template 'for every input the law returns true; each argument reads behind the call as it read before'; 0 by the template 'total and deterministic' (their statements: YtdlbpeippmibcaaTotals.lean).
  GIVEN WITH THE SEED: the statements are not yours to turn. If you find one false, say at which input.
  Laid BY PROGRAM, IN A SANDBOX (cutbox-rows.mjs): the forced cells as the released guide's own fill.sh prints them over the translation 77f7d0e5a0211ff6… (all of the seat's roots in one cut). By AI agents, Wed Nov 11 2026. No macro, syntax, notation, axiom, sorry.
-/
import Derived.Test.YtdlbpeippmibcaaChecked
import GoSem.Claim
import GoSem.ClaimJoined
import GoSem.ClaimMapViews
import Derived.JoinedTies
import Derived.KernelRfl
namespace Go.Proofs.Ytdlbpeippmibcaa
/- THE CELL 'sum', in the pinned program and in every row, IS THE sha256 OF THE DUMP (.gsa) THAT YtdlbpeippmibcaaProg.lean LOADS. Nothing in Lean hashes anything: it is a label: what it is worth is what the hold of that sum in a sandbox is worth. -/
noncomputable def Try.pinned : Pinned := { name := "ytdlbpeippmibcaa", sum := "77f7d0e5a0211ff62d1d9e8f492f97f062dd3e1d2359f9775cd1a0899724e6d3", checked := Try.checked }
namespace Rows
def none {H : Type} : Left H := { results := [], args := [] }

/-- 'laws.FnSpending': WHATEVER THE INPUT: true; the input reads as it did. -/
def fnSpendingSpec : ChangeSpec := { name := "fnSpending", fn := fun _ => fun
  | [d] => { results := [.lit (.bool true)], args := [d] }
  | _ => none }
def fnSpendingRow : OpenClaim := { program := "ytdlbpeippmibcaa", sum := "77f7d0e5a0211ff62d1d9e8f492f97f062dd3e1d2359f9775cd1a0899724e6d3", func := "loop.example/g00516/laws.FnSpending", spec := "fnSpending", recurses := true, apart := false }
def FnSpendingSaid : Prop := fnSpendingRow.holds Try.pinned (OpenSpec.ofChange fnSpendingSpec)

/-- ITS FALSE NEIGHBOUR: 'it returns false'. Refute it at one input. -/
def fnSpendingWrong : ChangeSpec := { name := "fnSpending", fn := fun _ => fun
  | [d] => { results := [.lit (.bool false)], args := [d] }
  | _ => none }
def FnSpendingWrongFalsely : Prop := fnSpendingRow.holds Try.pinned (OpenSpec.ofChange fnSpendingWrong)

/-- 'laws.FnMergedLists': WHATEVER THE INPUT: true; the input reads as it did. -/
def fnMergedListsSpec : ChangeSpec := { name := "fnMergedLists", fn := fun _ => fun
  | [d] => { results := [.lit (.bool true)], args := [d] }
  | _ => none }
def fnMergedListsRow : OpenClaim := { program := "ytdlbpeippmibcaa", sum := "77f7d0e5a0211ff62d1d9e8f492f97f062dd3e1d2359f9775cd1a0899724e6d3", func := "loop.example/g00516/laws.FnMergedLists", spec := "fnMergedLists", recurses := true, apart := false }
def FnMergedListsSaid : Prop := fnMergedListsRow.holds Try.pinned (OpenSpec.ofChange fnMergedListsSpec)

/-- ITS FALSE NEIGHBOUR: 'it returns false'. Refute it at one input. -/
def fnMergedListsWrong : ChangeSpec := { name := "fnMergedLists", fn := fun _ => fun
  | [d] => { results := [.lit (.bool false)], args := [d] }
  | _ => none }
def FnMergedListsWrongFalsely : Prop := fnMergedListsRow.holds Try.pinned (OpenSpec.ofChange fnMergedListsWrong)

/-- 'laws.FnExactNewSpentList': WHATEVER THE INPUT: true; the input reads as it did. -/
def fnExactNewSpentListSpec : ChangeSpec := { name := "fnExactNewSpentList", fn := fun _ => fun
  | [d] => { results := [.lit (.bool true)], args := [d] }
  | _ => none }
def fnExactNewSpentListRow : OpenClaim := { program := "ytdlbpeippmibcaa", sum := "77f7d0e5a0211ff62d1d9e8f492f97f062dd3e1d2359f9775cd1a0899724e6d3", func := "loop.example/g00516/laws.FnExactNewSpentList", spec := "fnExactNewSpentList", apart := false }
def FnExactNewSpentListSaid : Prop := fnExactNewSpentListRow.holds Try.pinned (OpenSpec.ofChange fnExactNewSpentListSpec)

/-- ITS FALSE NEIGHBOUR: 'it returns false'. Refute it at one input. -/
def fnExactNewSpentListWrong : ChangeSpec := { name := "fnExactNewSpentList", fn := fun _ => fun
  | [d] => { results := [.lit (.bool false)], args := [d] }
  | _ => none }
def FnExactNewSpentListWrongFalsely : Prop := fnExactNewSpentListRow.holds Try.pinned (OpenSpec.ofChange fnExactNewSpentListWrong)

/-- 'laws.FnExactIsValidSpentList': WHATEVER THE INPUT: true; the input reads as it did. -/
def fnExactIsValidSpentListSpec : ChangeSpec := { name := "fnExactIsValidSpentList", fn := fun _ => fun
  | [d] => { results := [.lit (.bool true)], args := [d] }
  | _ => none }
def fnExactIsValidSpentListRow : OpenClaim := { program := "ytdlbpeippmibcaa", sum := "77f7d0e5a0211ff62d1d9e8f492f97f062dd3e1d2359f9775cd1a0899724e6d3", func := "loop.example/g00516/laws.FnExactIsValidSpentList", spec := "fnExactIsValidSpentList", apart := false }
def FnExactIsValidSpentListSaid : Prop := fnExactIsValidSpentListRow.holds Try.pinned (OpenSpec.ofChange fnExactIsValidSpentListSpec)

/-- ITS FALSE NEIGHBOUR: 'it returns false'. Refute it at one input. -/
def fnExactIsValidSpentListWrong : ChangeSpec := { name := "fnExactIsValidSpentList", fn := fun _ => fun
  | [d] => { results := [.lit (.bool false)], args := [d] }
  | _ => none }
def FnExactIsValidSpentListWrongFalsely : Prop := fnExactIsValidSpentListRow.holds Try.pinned (OpenSpec.ofChange fnExactIsValidSpentListWrong)

/-- 'laws.FnExactSpendToken': WHATEVER THE INPUT: true; the input reads as it did. -/
def fnExactSpendTokenSpec : ChangeSpec := { name := "fnExactSpendToken", fn := fun _ => fun
  | [d1, d2, d3] => { results := [.lit (.bool true)], args := [d1, d2, d3] }
  | _ => none }
def fnExactSpendTokenRow : OpenClaim := { program := "ytdlbpeippmibcaa", sum := "77f7d0e5a0211ff62d1d9e8f492f97f062dd3e1d2359f9775cd1a0899724e6d3", func := "loop.example/g00516/laws.FnExactSpendToken", spec := "fnExactSpendToken", recurses := true, apart := false }
def FnExactSpendTokenSaid : Prop := fnExactSpendTokenRow.holds Try.pinned (OpenSpec.ofChange fnExactSpendTokenSpec)

/-- ITS FALSE NEIGHBOUR: 'it returns false'. Refute it at one input. -/
def fnExactSpendTokenWrong : ChangeSpec := { name := "fnExactSpendToken", fn := fun _ => fun
  | [d1, d2, d3] => { results := [.lit (.bool false)], args := [d1, d2, d3] }
  | _ => none }
def FnExactSpendTokenWrongFalsely : Prop := fnExactSpendTokenRow.holds Try.pinned (OpenSpec.ofChange fnExactSpendTokenWrong)

/-- 'laws.FnExactIsSpent': WHATEVER THE INPUT: true; the input reads as it did. -/
def fnExactIsSpentSpec : ChangeSpec := { name := "fnExactIsSpent", fn := fun _ => fun
  | [d1, d2] => { results := [.lit (.bool true)], args := [d1, d2] }
  | _ => none }
def fnExactIsSpentRow : OpenClaim := { program := "ytdlbpeippmibcaa", sum := "77f7d0e5a0211ff62d1d9e8f492f97f062dd3e1d2359f9775cd1a0899724e6d3", func := "loop.example/g00516/laws.FnExactIsSpent", spec := "fnExactIsSpent", apart := false }
def FnExactIsSpentSaid : Prop := fnExactIsSpentRow.holds Try.pinned (OpenSpec.ofChange fnExactIsSpentSpec)

/-- ITS FALSE NEIGHBOUR: 'it returns false'. Refute it at one input. -/
def fnExactIsSpentWrong : ChangeSpec := { name := "fnExactIsSpent", fn := fun _ => fun
  | [d1, d2] => { results := [.lit (.bool false)], args := [d1, d2] }
  | _ => none }
def FnExactIsSpentWrongFalsely : Prop := fnExactIsSpentRow.holds Try.pinned (OpenSpec.ofChange fnExactIsSpentWrong)

/-- 'laws.FnExactEpochSecret': WHATEVER THE INPUT: true; the input reads as it did. -/
def fnExactEpochSecretSpec : ChangeSpec := { name := "fnExactEpochSecret", fn := fun _ => fun
  | [d1, d2] => { results := [.lit (.bool true)], args := [d1, d2] }
  | _ => none }
def fnExactEpochSecretRow : OpenClaim := { program := "ytdlbpeippmibcaa", sum := "77f7d0e5a0211ff62d1d9e8f492f97f062dd3e1d2359f9775cd1a0899724e6d3", func := "loop.example/g00516/laws.FnExactEpochSecret", spec := "fnExactEpochSecret", apart := false }
def FnExactEpochSecretSaid : Prop := fnExactEpochSecretRow.holds Try.pinned (OpenSpec.ofChange fnExactEpochSecretSpec)

/-- ITS FALSE NEIGHBOUR: 'it returns false'. Refute it at one input. -/
def fnExactEpochSecretWrong : ChangeSpec := { name := "fnExactEpochSecret", fn := fun _ => fun
  | [d1, d2] => { results := [.lit (.bool false)], args := [d1, d2] }
  | _ => none }
def FnExactEpochSecretWrongFalsely : Prop := fnExactEpochSecretRow.holds Try.pinned (OpenSpec.ofChange fnExactEpochSecretWrong)

/-- 'laws.FnExactMergeSpent': WHATEVER THE INPUT: true; the input reads as it did. -/
def fnExactMergeSpentSpec : ChangeSpec := { name := "fnExactMergeSpent", fn := fun _ => fun
  | [d1, d2] => { results := [.lit (.bool true)], args := [d1, d2] }
  | _ => none }
def fnExactMergeSpentRow : OpenClaim := { program := "ytdlbpeippmibcaa", sum := "77f7d0e5a0211ff62d1d9e8f492f97f062dd3e1d2359f9775cd1a0899724e6d3", func := "loop.example/g00516/laws.FnExactMergeSpent", spec := "fnExactMergeSpent", recurses := true, apart := false }
def FnExactMergeSpentSaid : Prop := fnExactMergeSpentRow.holds Try.pinned (OpenSpec.ofChange fnExactMergeSpentSpec)

/-- ITS FALSE NEIGHBOUR: 'it returns false'. Refute it at one input. -/
def fnExactMergeSpentWrong : ChangeSpec := { name := "fnExactMergeSpent", fn := fun _ => fun
  | [d1, d2] => { results := [.lit (.bool false)], args := [d1, d2] }
  | _ => none }
def FnExactMergeSpentWrongFalsely : Prop := fnExactMergeSpentRow.holds Try.pinned (OpenSpec.ofChange fnExactMergeSpentWrong)

/-- 'laws.FnExactBudgetLeft': WHATEVER THE INPUT: true; the input reads as it did. -/
def fnExactBudgetLeftSpec : ChangeSpec := { name := "fnExactBudgetLeft", fn := fun _ => fun
  | [d1, d2] => { results := [.lit (.bool true)], args := [d1, d2] }
  | _ => none }
def fnExactBudgetLeftRow : OpenClaim := { program := "ytdlbpeippmibcaa", sum := "77f7d0e5a0211ff62d1d9e8f492f97f062dd3e1d2359f9775cd1a0899724e6d3", func := "loop.example/g00516/laws.FnExactBudgetLeft", spec := "fnExactBudgetLeft", apart := false }
def FnExactBudgetLeftSaid : Prop := fnExactBudgetLeftRow.holds Try.pinned (OpenSpec.ofChange fnExactBudgetLeftSpec)

/-- ITS FALSE NEIGHBOUR: 'it returns false'. Refute it at one input. -/
def fnExactBudgetLeftWrong : ChangeSpec := { name := "fnExactBudgetLeft", fn := fun _ => fun
  | [d1, d2] => { results := [.lit (.bool false)], args := [d1, d2] }
  | _ => none }
def FnExactBudgetLeftWrongFalsely : Prop := fnExactBudgetLeftRow.holds Try.pinned (OpenSpec.ofChange fnExactBudgetLeftWrong)

/-- 'laws.FnExactEqualSpentLists': WHATEVER THE INPUT: true; the input reads as it did. -/
def fnExactEqualSpentListsSpec : ChangeSpec := { name := "fnExactEqualSpentLists", fn := fun _ => fun
  | [d1, d2] => { results := [.lit (.bool true)], args := [d1, d2] }
  | _ => none }
def fnExactEqualSpentListsRow : OpenClaim := { program := "ytdlbpeippmibcaa", sum := "77f7d0e5a0211ff62d1d9e8f492f97f062dd3e1d2359f9775cd1a0899724e6d3", func := "loop.example/g00516/laws.FnExactEqualSpentLists", spec := "fnExactEqualSpentLists", apart := false }
def FnExactEqualSpentListsSaid : Prop := fnExactEqualSpentListsRow.holds Try.pinned (OpenSpec.ofChange fnExactEqualSpentListsSpec)

/-- ITS FALSE NEIGHBOUR: 'it returns false'. Refute it at one input. -/
def fnExactEqualSpentListsWrong : ChangeSpec := { name := "fnExactEqualSpentLists", fn := fun _ => fun
  | [d1, d2] => { results := [.lit (.bool false)], args := [d1, d2] }
  | _ => none }
def FnExactEqualSpentListsWrongFalsely : Prop := fnExactEqualSpentListsRow.holds Try.pinned (OpenSpec.ofChange fnExactEqualSpentListsWrong)

/- THE SECOND FORM. 'bulk': how many values and letters a reading holds, each counted each time it is reached (what is shared counts as often as it is met; a slice's spare places count too). A statement '..UptoSaid' is the law's where the arguments, and the package variables that the reading takes, are together of bulk at most 1048576: NARROWER than '..Said'. Prove '..Said' where nothing that the law and all that it calls make is longer than what came in: it says more and counts as full. Else prove '..UptoSaid'. A law counts once. -/
mutual
def uptoBulk {H : Type} : DataW H → Nat
  | .lit (.string bytes) => bytes.length + 1
  | .lit _ => 1
  | .nil => 1
  | .ptr d => uptoBulk d + 1
  | .slice elems spare => uptoBulkAll elems + uptoBulkAll spare + 1
  | .agg parts => uptoBulkAll parts + 1
  | .iface _ d => uptoBulk d + 1
  | .map entries => uptoBulkEntries entries + 1
  | .held _ => 1
def uptoBulkAll {H : Type} : List (DataW H) → Nat
  | [] => 0
  | d :: r => uptoBulk d + uptoBulkAll r
def uptoBulkEntries {H : Type} : List (Lit × DataW H) → Nat
  | [] => 0
  | x :: r => uptoBulkEntry x + uptoBulkEntries r
def uptoBulkEntry {H : Type} : Lit × DataW H → Nat
  | (.string bytes, d) => bytes.length + uptoBulk d + 1
  | (_, d) => uptoBulk d + 1
 end
def uptoSmall : (H : Type) → List (DataW H) → Bool := fun _ ds => decide (uptoBulkAll ds ≤ 1048576)
def OpenSpec.upto (s : _root_.Go.ChangeSpec) : _root_.Go.OpenSpec := { _root_.Go.OpenSpec.ofChange s with cond := some uptoSmall }

/-- 'laws.FnSpending', WHERE WHAT IT READS IS OF BULK AT MOST 1048576: true; the input reads as it did. -/
def fnSpendingUptoRow : OpenClaim := { program := "ytdlbpeippmibcaa", sum := "77f7d0e5a0211ff62d1d9e8f492f97f062dd3e1d2359f9775cd1a0899724e6d3", func := "loop.example/g00516/laws.FnSpending", spec := "fnSpending", recurses := true, apart := false, narrowed := true }
def FnSpendingUptoSaid : Prop := fnSpendingUptoRow.holds Try.pinned (OpenSpec.upto fnSpendingSpec)

/-- 'laws.FnMergedLists', WHERE WHAT IT READS IS OF BULK AT MOST 1048576: true; the input reads as it did. -/
def fnMergedListsUptoRow : OpenClaim := { program := "ytdlbpeippmibcaa", sum := "77f7d0e5a0211ff62d1d9e8f492f97f062dd3e1d2359f9775cd1a0899724e6d3", func := "loop.example/g00516/laws.FnMergedLists", spec := "fnMergedLists", recurses := true, apart := false, narrowed := true }
def FnMergedListsUptoSaid : Prop := fnMergedListsUptoRow.holds Try.pinned (OpenSpec.upto fnMergedListsSpec)

/-- 'laws.FnExactNewSpentList', WHERE WHAT IT READS IS OF BULK AT MOST 1048576: true; the input reads as it did. -/
def fnExactNewSpentListUptoRow : OpenClaim := { program := "ytdlbpeippmibcaa", sum := "77f7d0e5a0211ff62d1d9e8f492f97f062dd3e1d2359f9775cd1a0899724e6d3", func := "loop.example/g00516/laws.FnExactNewSpentList", spec := "fnExactNewSpentList", apart := false, narrowed := true }
def FnExactNewSpentListUptoSaid : Prop := fnExactNewSpentListUptoRow.holds Try.pinned (OpenSpec.upto fnExactNewSpentListSpec)

/-- 'laws.FnExactIsValidSpentList', WHERE WHAT IT READS IS OF BULK AT MOST 1048576: true; the input reads as it did. -/
def fnExactIsValidSpentListUptoRow : OpenClaim := { program := "ytdlbpeippmibcaa", sum := "77f7d0e5a0211ff62d1d9e8f492f97f062dd3e1d2359f9775cd1a0899724e6d3", func := "loop.example/g00516/laws.FnExactIsValidSpentList", spec := "fnExactIsValidSpentList", apart := false, narrowed := true }
def FnExactIsValidSpentListUptoSaid : Prop := fnExactIsValidSpentListUptoRow.holds Try.pinned (OpenSpec.upto fnExactIsValidSpentListSpec)

/-- 'laws.FnExactSpendToken', WHERE WHAT IT READS IS OF BULK AT MOST 1048576: true; the input reads as it did. -/
def fnExactSpendTokenUptoRow : OpenClaim := { program := "ytdlbpeippmibcaa", sum := "77f7d0e5a0211ff62d1d9e8f492f97f062dd3e1d2359f9775cd1a0899724e6d3", func := "loop.example/g00516/laws.FnExactSpendToken", spec := "fnExactSpendToken", recurses := true, apart := false, narrowed := true }
def FnExactSpendTokenUptoSaid : Prop := fnExactSpendTokenUptoRow.holds Try.pinned (OpenSpec.upto fnExactSpendTokenSpec)

/-- 'laws.FnExactIsSpent', WHERE WHAT IT READS IS OF BULK AT MOST 1048576: true; the input reads as it did. -/
def fnExactIsSpentUptoRow : OpenClaim := { program := "ytdlbpeippmibcaa", sum := "77f7d0e5a0211ff62d1d9e8f492f97f062dd3e1d2359f9775cd1a0899724e6d3", func := "loop.example/g00516/laws.FnExactIsSpent", spec := "fnExactIsSpent", apart := false, narrowed := true }
def FnExactIsSpentUptoSaid : Prop := fnExactIsSpentUptoRow.holds Try.pinned (OpenSpec.upto fnExactIsSpentSpec)

/-- 'laws.FnExactEpochSecret', WHERE WHAT IT READS IS OF BULK AT MOST 1048576: true; the input reads as it did. -/
def fnExactEpochSecretUptoRow : OpenClaim := { program := "ytdlbpeippmibcaa", sum := "77f7d0e5a0211ff62d1d9e8f492f97f062dd3e1d2359f9775cd1a0899724e6d3", func := "loop.example/g00516/laws.FnExactEpochSecret", spec := "fnExactEpochSecret", apart := false, narrowed := true }
def FnExactEpochSecretUptoSaid : Prop := fnExactEpochSecretUptoRow.holds Try.pinned (OpenSpec.upto fnExactEpochSecretSpec)

/-- 'laws.FnExactMergeSpent', WHERE WHAT IT READS IS OF BULK AT MOST 1048576: true; the input reads as it did. -/
def fnExactMergeSpentUptoRow : OpenClaim := { program := "ytdlbpeippmibcaa", sum := "77f7d0e5a0211ff62d1d9e8f492f97f062dd3e1d2359f9775cd1a0899724e6d3", func := "loop.example/g00516/laws.FnExactMergeSpent", spec := "fnExactMergeSpent", recurses := true, apart := false, narrowed := true }
def FnExactMergeSpentUptoSaid : Prop := fnExactMergeSpentUptoRow.holds Try.pinned (OpenSpec.upto fnExactMergeSpentSpec)

/-- 'laws.FnExactBudgetLeft', WHERE WHAT IT READS IS OF BULK AT MOST 1048576: true; the input reads as it did. -/
def fnExactBudgetLeftUptoRow : OpenClaim := { program := "ytdlbpeippmibcaa", sum := "77f7d0e5a0211ff62d1d9e8f492f97f062dd3e1d2359f9775cd1a0899724e6d3", func := "loop.example/g00516/laws.FnExactBudgetLeft", spec := "fnExactBudgetLeft", apart := false, narrowed := true }
def FnExactBudgetLeftUptoSaid : Prop := fnExactBudgetLeftUptoRow.holds Try.pinned (OpenSpec.upto fnExactBudgetLeftSpec)

/-- 'laws.FnExactEqualSpentLists', WHERE WHAT IT READS IS OF BULK AT MOST 1048576: true; the input reads as it did. -/
def fnExactEqualSpentListsUptoRow : OpenClaim := { program := "ytdlbpeippmibcaa", sum := "77f7d0e5a0211ff62d1d9e8f492f97f062dd3e1d2359f9775cd1a0899724e6d3", func := "loop.example/g00516/laws.FnExactEqualSpentLists", spec := "fnExactEqualSpentLists", apart := false, narrowed := true }
def FnExactEqualSpentListsUptoSaid : Prop := fnExactEqualSpentListsUptoRow.holds Try.pinned (OpenSpec.upto fnExactEqualSpentListsSpec)

end Rows
end Go.Proofs.Ytdlbpeippmibcaa
