/-
  No cell of these rows narrows 'for every input' (looked for: loops, veiled, ifaces, maps, wideKeys, modest, calm, conditions, laid).
  DERIVED. THE GIVEN ROWS OF THIS SEAT. 4 by the template 'for every input the law returns true; each argument reads behind the call as it read before'; 0 by the template 'total and deterministic' (their statements: YtbimihljaalllaaTotals.lean).
  GIVEN WITH THE SEED: the statements are not yours to turn. If you find one false, say at which input.
  Laid BY PROGRAM, IN A SANDBOX (cutbox-rows.mjs): the forced cells as the released guide's own fill.sh prints them over the translation 0826ab8a34fcf90b… (all of the seat's roots in one cut). By AI agents, Wed Nov 11 2026. No macro, syntax, notation, axiom, sorry.
-/
import Derived.Test.YtbimihljaalllaaChecked
import GoSem.Claim
import GoSem.ClaimJoined
import GoSem.ClaimMapViews
import Derived.JoinedTies
import Derived.KernelRfl
namespace Go.Proofs.Ytbimihljaalllaa
/- THE CELL 'sum', in the pinned program and in every row, IS THE sha256 OF THE DUMP (.gsa) THAT YtbimihljaalllaaProg.lean LOADS. Nothing in Lean hashes anything: it is a label: what it is worth is what the hold of that sum in a sandbox is worth. -/
noncomputable def Try.pinned : Pinned := { name := "ytbimihljaalllaa", sum := "0826ab8a34fcf90bad4e4461564551ccc254ec4e7a2ccea251db6b95fcb8ea0a", checked := Try.checked }
namespace Rows
def none {H : Type} : Left H := { results := [], args := [] }

/-- 'laws.FnExactSealCell': WHATEVER THE INPUT: true; the input reads as it did. -/
def fnExactSealCellSpec : ChangeSpec := { name := "fnExactSealCell", fn := fun _ => fun
  | [d1, d2, d3] => { results := [.lit (.bool true)], args := [d1, d2, d3] }
  | _ => none }
def fnExactSealCellRow : OpenClaim := { program := "ytbimihljaalllaa", sum := "0826ab8a34fcf90bad4e4461564551ccc254ec4e7a2ccea251db6b95fcb8ea0a", func := "loop.example/g00516/laws.FnExactSealCell", spec := "fnExactSealCell", unfollowed := true, recurses := true, apart := false }
def FnExactSealCellSaid : Prop := fnExactSealCellRow.holds Try.pinned (OpenSpec.ofChange fnExactSealCellSpec)

/-- ITS FALSE NEIGHBOUR: 'it returns false'. Refute it at one input. -/
def fnExactSealCellWrong : ChangeSpec := { name := "fnExactSealCell", fn := fun _ => fun
  | [d1, d2, d3] => { results := [.lit (.bool false)], args := [d1, d2, d3] }
  | _ => none }
def FnExactSealCellWrongFalsely : Prop := fnExactSealCellRow.holds Try.pinned (OpenSpec.ofChange fnExactSealCellWrong)

/-- 'laws.FnExactMailboxRow': WHATEVER THE INPUT: true; the input reads as it did. -/
def fnExactMailboxRowSpec : ChangeSpec := { name := "fnExactMailboxRow", fn := fun _ => fun
  | [d1, d2, d3, d4] => { results := [.lit (.bool true)], args := [d1, d2, d3, d4] }
  | _ => none }
def fnExactMailboxRowRow : OpenClaim := { program := "ytbimihljaalllaa", sum := "0826ab8a34fcf90bad4e4461564551ccc254ec4e7a2ccea251db6b95fcb8ea0a", func := "loop.example/g00516/laws.FnExactMailboxRow", spec := "fnExactMailboxRow", apart := false }
def FnExactMailboxRowSaid : Prop := fnExactMailboxRowRow.holds Try.pinned (OpenSpec.ofChange fnExactMailboxRowSpec)

/-- ITS FALSE NEIGHBOUR: 'it returns false'. Refute it at one input. -/
def fnExactMailboxRowWrong : ChangeSpec := { name := "fnExactMailboxRow", fn := fun _ => fun
  | [d1, d2, d3, d4] => { results := [.lit (.bool false)], args := [d1, d2, d3, d4] }
  | _ => none }
def FnExactMailboxRowWrongFalsely : Prop := fnExactMailboxRowRow.holds Try.pinned (OpenSpec.ofChange fnExactMailboxRowWrong)

/-- 'laws.FnExactSendToMailbox': WHATEVER THE INPUT: true; the input reads as it did. -/
def fnExactSendToMailboxSpec : ChangeSpec := { name := "fnExactSendToMailbox", fn := fun _ => fun
  | [d1, d2, d3] => { results := [.lit (.bool true)], args := [d1, d2, d3] }
  | _ => none }
def fnExactSendToMailboxRow : OpenClaim := { program := "ytbimihljaalllaa", sum := "0826ab8a34fcf90bad4e4461564551ccc254ec4e7a2ccea251db6b95fcb8ea0a", func := "loop.example/g00516/laws.FnExactSendToMailbox", spec := "fnExactSendToMailbox", unfollowed := true, recurses := true, apart := false }
def FnExactSendToMailboxSaid : Prop := fnExactSendToMailboxRow.holds Try.pinned (OpenSpec.ofChange fnExactSendToMailboxSpec)

/-- ITS FALSE NEIGHBOUR: 'it returns false'. Refute it at one input. -/
def fnExactSendToMailboxWrong : ChangeSpec := { name := "fnExactSendToMailbox", fn := fun _ => fun
  | [d1, d2, d3] => { results := [.lit (.bool false)], args := [d1, d2, d3] }
  | _ => none }
def FnExactSendToMailboxWrongFalsely : Prop := fnExactSendToMailboxRow.holds Try.pinned (OpenSpec.ofChange fnExactSendToMailboxWrong)

/-- 'laws.FnExactFreeRound': WHATEVER THE INPUT: true; the input reads as it did. -/
def fnExactFreeRoundSpec : ChangeSpec := { name := "fnExactFreeRound", fn := fun _ => fun
  | [d1, d2, d3] => { results := [.lit (.bool true)], args := [d1, d2, d3] }
  | _ => none }
def fnExactFreeRoundRow : OpenClaim := { program := "ytbimihljaalllaa", sum := "0826ab8a34fcf90bad4e4461564551ccc254ec4e7a2ccea251db6b95fcb8ea0a", func := "loop.example/g00516/laws.FnExactFreeRound", spec := "fnExactFreeRound", unfollowed := true, recurses := true, apart := false }
def FnExactFreeRoundSaid : Prop := fnExactFreeRoundRow.holds Try.pinned (OpenSpec.ofChange fnExactFreeRoundSpec)

/-- ITS FALSE NEIGHBOUR: 'it returns false'. Refute it at one input. -/
def fnExactFreeRoundWrong : ChangeSpec := { name := "fnExactFreeRound", fn := fun _ => fun
  | [d1, d2, d3] => { results := [.lit (.bool false)], args := [d1, d2, d3] }
  | _ => none }
def FnExactFreeRoundWrongFalsely : Prop := fnExactFreeRoundRow.holds Try.pinned (OpenSpec.ofChange fnExactFreeRoundWrong)

/- THE SECOND FORM. 'bulk': how many values and letters a reading holds, each counted each time it is reached (what is shared counts as often as it is met; a slice's spare places count too). A statement '..UptoSaid' is the law's where the arguments, and the package variables that the reading takes, are together of bulk at most 1048576: NARROWER than '..Said'. Prove '..Said' where nothing that the law and all that it calls make is longer than what came in: it says more and counts as full. Else prove '..UptoSaid'. A law counts once. -/
mutual
def uptoBulk {H : Type} : DataW H → Nat
  | .lit (.string bytes) => bytes.length + 1
  | .lit _ => 1
  | .nil => 1
  | .ptr d => uptoBulk d + 1
  | .slice elems spare => uptoBulkAll elems + uptoBulkAll spare + 1
  | .agg parts => uptoBulkAll parts + 1
  | .iface _ d => uptoBulk d + 1
  | .map entries => uptoBulkEntries entries + 1
  | .held _ => 1
def uptoBulkAll {H : Type} : List (DataW H) → Nat
  | [] => 0
  | d :: r => uptoBulk d + uptoBulkAll r
def uptoBulkEntries {H : Type} : List (Lit × DataW H) → Nat
  | [] => 0
  | x :: r => uptoBulkEntry x + uptoBulkEntries r
def uptoBulkEntry {H : Type} : Lit × DataW H → Nat
  | (.string bytes, d) => bytes.length + uptoBulk d + 1
  | (_, d) => uptoBulk d + 1
 end
def uptoSmall : (H : Type) → List (DataW H) → Bool := fun _ ds => decide (uptoBulkAll ds ≤ 1048576)
def OpenSpec.upto (s : _root_.Go.ChangeSpec) : _root_.Go.OpenSpec := { _root_.Go.OpenSpec.ofChange s with cond := some uptoSmall }

/-- 'laws.FnExactSealCell', WHERE WHAT IT READS IS OF BULK AT MOST 1048576: true; the input reads as it did. -/
def fnExactSealCellUptoRow : OpenClaim := { program := "ytbimihljaalllaa", sum := "0826ab8a34fcf90bad4e4461564551ccc254ec4e7a2ccea251db6b95fcb8ea0a", func := "loop.example/g00516/laws.FnExactSealCell", spec := "fnExactSealCell", unfollowed := true, recurses := true, apart := false, narrowed := true }
def FnExactSealCellUptoSaid : Prop := fnExactSealCellUptoRow.holds Try.pinned (OpenSpec.upto fnExactSealCellSpec)

/-- 'laws.FnExactMailboxRow', WHERE WHAT IT READS IS OF BULK AT MOST 1048576: true; the input reads as it did. -/
def fnExactMailboxRowUptoRow : OpenClaim := { program := "ytbimihljaalllaa", sum := "0826ab8a34fcf90bad4e4461564551ccc254ec4e7a2ccea251db6b95fcb8ea0a", func := "loop.example/g00516/laws.FnExactMailboxRow", spec := "fnExactMailboxRow", apart := false, narrowed := true }
def FnExactMailboxRowUptoSaid : Prop := fnExactMailboxRowUptoRow.holds Try.pinned (OpenSpec.upto fnExactMailboxRowSpec)

/-- 'laws.FnExactSendToMailbox', WHERE WHAT IT READS IS OF BULK AT MOST 1048576: true; the input reads as it did. -/
def fnExactSendToMailboxUptoRow : OpenClaim := { program := "ytbimihljaalllaa", sum := "0826ab8a34fcf90bad4e4461564551ccc254ec4e7a2ccea251db6b95fcb8ea0a", func := "loop.example/g00516/laws.FnExactSendToMailbox", spec := "fnExactSendToMailbox", unfollowed := true, recurses := true, apart := false, narrowed := true }
def FnExactSendToMailboxUptoSaid : Prop := fnExactSendToMailboxUptoRow.holds Try.pinned (OpenSpec.upto fnExactSendToMailboxSpec)

/-- 'laws.FnExactFreeRound', WHERE WHAT IT READS IS OF BULK AT MOST 1048576: true; the input reads as it did. -/
def fnExactFreeRoundUptoRow : OpenClaim := { program := "ytbimihljaalllaa", sum := "0826ab8a34fcf90bad4e4461564551ccc254ec4e7a2ccea251db6b95fcb8ea0a", func := "loop.example/g00516/laws.FnExactFreeRound", spec := "fnExactFreeRound", unfollowed := true, recurses := true, apart := false, narrowed := true }
def FnExactFreeRoundUptoSaid : Prop := fnExactFreeRoundUptoRow.holds Try.pinned (OpenSpec.upto fnExactFreeRoundSpec)

end Rows
end Go.Proofs.Ytbimihljaalllaa
