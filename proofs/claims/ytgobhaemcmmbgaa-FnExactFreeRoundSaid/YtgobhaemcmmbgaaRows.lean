/-
  No cell of these rows narrows 'for every input' (looked for: loops, veiled, ifaces, maps, wideKeys, modest, calm, conditions, laid).
  DERIVED. THE GIVEN ROWS OF THIS SEAT. 6 by the template 'for every input the law returns true; each argument reads behind the call as it read before'; 0 by the template 'total and deterministic' (their statements: YtgobhaemcmmbgaaTotals.lean).
  GIVEN WITH THE SEED: the statements are not yours to turn. If you find one false, say at which input.
  Laid BY PROGRAM, IN A SANDBOX (cutbox-rows.mjs): the forced cells as the released guide's own fill.sh prints them over the translation 87edbc753671d654… (all of the seat's roots in one cut). By AI agents, Wed Nov 11 2026. No macro, syntax, notation, axiom, sorry.
-/
import Derived.Test.YtgobhaemcmmbgaaChecked
import GoSem.Claim
import GoSem.ClaimJoined
import GoSem.ClaimMapViews
import Derived.JoinedTies
import Derived.KernelRfl
namespace Go.Proofs.Ytgobhaemcmmbgaa
/- THE CELL 'sum', in the pinned program and in every row, IS THE sha256 OF THE DUMP (.gsa) THAT YtgobhaemcmmbgaaProg.lean LOADS. Nothing in Lean hashes anything: it is a label: what it is worth is what the hold of that sum in a sandbox is worth. -/
noncomputable def Try.pinned : Pinned := { name := "ytgobhaemcmmbgaa", sum := "87edbc753671d6541e1dcc9ed72671e896968df68ff7511f95b5020f640a0422", checked := Try.checked }
namespace Rows
def none {H : Type} : Left H := { results := [], args := [] }

/-- 'laws.FnExactMailboxRow': WHATEVER THE INPUT: true; the input reads as it did. -/
def fnExactMailboxRowSpec : ChangeSpec := { name := "fnExactMailboxRow", fn := fun _ => fun
  | [d1, d2, d3, d4] => { results := [.lit (.bool true)], args := [d1, d2, d3, d4] }
  | _ => none }
def fnExactMailboxRowRow : OpenClaim := { program := "ytgobhaemcmmbgaa", sum := "87edbc753671d6541e1dcc9ed72671e896968df68ff7511f95b5020f640a0422", func := "loop.example/g00516/laws.FnExactMailboxRow", spec := "fnExactMailboxRow", apart := false }
def FnExactMailboxRowSaid : Prop := fnExactMailboxRowRow.holds Try.pinned (OpenSpec.ofChange fnExactMailboxRowSpec)

/-- ITS FALSE NEIGHBOUR: 'it returns false'. Refute it at one input. -/
def fnExactMailboxRowWrong : ChangeSpec := { name := "fnExactMailboxRow", fn := fun _ => fun
  | [d1, d2, d3, d4] => { results := [.lit (.bool false)], args := [d1, d2, d3, d4] }
  | _ => none }
def FnExactMailboxRowWrongFalsely : Prop := fnExactMailboxRowRow.holds Try.pinned (OpenSpec.ofChange fnExactMailboxRowWrong)

/-- 'laws.FnExactIsValidMailbox': WHATEVER THE INPUT: true; the input reads as it did. -/
def fnExactIsValidMailboxSpec : ChangeSpec := { name := "fnExactIsValidMailbox", fn := fun _ => fun
  | [d] => { results := [.lit (.bool true)], args := [d] }
  | _ => none }
def fnExactIsValidMailboxRow : OpenClaim := { program := "ytgobhaemcmmbgaa", sum := "87edbc753671d6541e1dcc9ed72671e896968df68ff7511f95b5020f640a0422", func := "loop.example/g00516/laws.FnExactIsValidMailbox", spec := "fnExactIsValidMailbox", apart := false }
def FnExactIsValidMailboxSaid : Prop := fnExactIsValidMailboxRow.holds Try.pinned (OpenSpec.ofChange fnExactIsValidMailboxSpec)

/-- ITS FALSE NEIGHBOUR: 'it returns false'. Refute it at one input. -/
def fnExactIsValidMailboxWrong : ChangeSpec := { name := "fnExactIsValidMailbox", fn := fun _ => fun
  | [d] => { results := [.lit (.bool false)], args := [d] }
  | _ => none }
def FnExactIsValidMailboxWrongFalsely : Prop := fnExactIsValidMailboxRow.holds Try.pinned (OpenSpec.ofChange fnExactIsValidMailboxWrong)

/-- 'laws.FnExactSendToMailbox': WHATEVER THE INPUT: true; the input reads as it did. -/
def fnExactSendToMailboxSpec : ChangeSpec := { name := "fnExactSendToMailbox", fn := fun _ => fun
  | [d1, d2, d3] => { results := [.lit (.bool true)], args := [d1, d2, d3] }
  | _ => none }
def fnExactSendToMailboxRow : OpenClaim := { program := "ytgobhaemcmmbgaa", sum := "87edbc753671d6541e1dcc9ed72671e896968df68ff7511f95b5020f640a0422", func := "loop.example/g00516/laws.FnExactSendToMailbox", spec := "fnExactSendToMailbox", unfollowed := true, recurses := true, apart := false }
def FnExactSendToMailboxSaid : Prop := fnExactSendToMailboxRow.holds Try.pinned (OpenSpec.ofChange fnExactSendToMailboxSpec)

/-- ITS FALSE NEIGHBOUR: 'it returns false'. Refute it at one input. -/
def fnExactSendToMailboxWrong : ChangeSpec := { name := "fnExactSendToMailbox", fn := fun _ => fun
  | [d1, d2, d3] => { results := [.lit (.bool false)], args := [d1, d2, d3] }
  | _ => none }
def FnExactSendToMailboxWrongFalsely : Prop := fnExactSendToMailboxRow.holds Try.pinned (OpenSpec.ofChange fnExactSendToMailboxWrong)

/-- 'laws.FnExactDirectionKey': WHATEVER THE INPUT: true; the input reads as it did. -/
def fnExactDirectionKeySpec : ChangeSpec := { name := "fnExactDirectionKey", fn := fun _ => fun
  | [d1, d2] => { results := [.lit (.bool true)], args := [d1, d2] }
  | _ => none }
def fnExactDirectionKeyRow : OpenClaim := { program := "ytgobhaemcmmbgaa", sum := "87edbc753671d6541e1dcc9ed72671e896968df68ff7511f95b5020f640a0422", func := "loop.example/g00516/laws.FnExactDirectionKey", spec := "fnExactDirectionKey", unfollowed := true, recurses := true, apart := false }
def FnExactDirectionKeySaid : Prop := fnExactDirectionKeyRow.holds Try.pinned (OpenSpec.ofChange fnExactDirectionKeySpec)

/-- ITS FALSE NEIGHBOUR: 'it returns false'. Refute it at one input. -/
def fnExactDirectionKeyWrong : ChangeSpec := { name := "fnExactDirectionKey", fn := fun _ => fun
  | [d1, d2] => { results := [.lit (.bool false)], args := [d1, d2] }
  | _ => none }
def FnExactDirectionKeyWrongFalsely : Prop := fnExactDirectionKeyRow.holds Try.pinned (OpenSpec.ofChange fnExactDirectionKeyWrong)

/-- 'laws.FnExactCountCollisions': WHATEVER THE INPUT: true; the input reads as it did. -/
def fnExactCountCollisionsSpec : ChangeSpec := { name := "fnExactCountCollisions", fn := fun _ => fun
  | [d] => { results := [.lit (.bool true)], args := [d] }
  | _ => none }
def fnExactCountCollisionsRow : OpenClaim := { program := "ytgobhaemcmmbgaa", sum := "87edbc753671d6541e1dcc9ed72671e896968df68ff7511f95b5020f640a0422", func := "loop.example/g00516/laws.FnExactCountCollisions", spec := "fnExactCountCollisions", apart := false }
def FnExactCountCollisionsSaid : Prop := fnExactCountCollisionsRow.holds Try.pinned (OpenSpec.ofChange fnExactCountCollisionsSpec)

/-- ITS FALSE NEIGHBOUR: 'it returns false'. Refute it at one input. -/
def fnExactCountCollisionsWrong : ChangeSpec := { name := "fnExactCountCollisions", fn := fun _ => fun
  | [d] => { results := [.lit (.bool false)], args := [d] }
  | _ => none }
def FnExactCountCollisionsWrongFalsely : Prop := fnExactCountCollisionsRow.holds Try.pinned (OpenSpec.ofChange fnExactCountCollisionsWrong)

/-- 'laws.FnExactFreeRound': WHATEVER THE INPUT: true; the input reads as it did. -/
def fnExactFreeRoundSpec : ChangeSpec := { name := "fnExactFreeRound", fn := fun _ => fun
  | [d1, d2, d3] => { results := [.lit (.bool true)], args := [d1, d2, d3] }
  | _ => none }
def fnExactFreeRoundRow : OpenClaim := { program := "ytgobhaemcmmbgaa", sum := "87edbc753671d6541e1dcc9ed72671e896968df68ff7511f95b5020f640a0422", func := "loop.example/g00516/laws.FnExactFreeRound", spec := "fnExactFreeRound", unfollowed := true, recurses := true, apart := false }
def FnExactFreeRoundSaid : Prop := fnExactFreeRoundRow.holds Try.pinned (OpenSpec.ofChange fnExactFreeRoundSpec)

/-- ITS FALSE NEIGHBOUR: 'it returns false'. Refute it at one input. -/
def fnExactFreeRoundWrong : ChangeSpec := { name := "fnExactFreeRound", fn := fun _ => fun
  | [d1, d2, d3] => { results := [.lit (.bool false)], args := [d1, d2, d3] }
  | _ => none }
def FnExactFreeRoundWrongFalsely : Prop := fnExactFreeRoundRow.holds Try.pinned (OpenSpec.ofChange fnExactFreeRoundWrong)

/- THE SECOND FORM. 'bulk': how many values and letters a reading holds, each counted each time it is reached (what is shared counts as often as it is met; a slice's spare places count too). A statement '..UptoSaid' is the law's where the arguments, and the package variables that the reading takes, are together of bulk at most 1048576: NARROWER than '..Said'. Prove '..Said' where nothing that the law and all that it calls make is longer than what came in: it says more and counts as full. Else prove '..UptoSaid'. A law counts once. -/
mutual
def uptoBulk {H : Type} : DataW H → Nat
  | .lit (.string bytes) => bytes.length + 1
  | .lit _ => 1
  | .nil => 1
  | .ptr d => uptoBulk d + 1
  | .slice elems spare => uptoBulkAll elems + uptoBulkAll spare + 1
  | .agg parts => uptoBulkAll parts + 1
  | .iface _ d => uptoBulk d + 1
  | .map entries => uptoBulkEntries entries + 1
  | .held _ => 1
def uptoBulkAll {H : Type} : List (DataW H) → Nat
  | [] => 0
  | d :: r => uptoBulk d + uptoBulkAll r
def uptoBulkEntries {H : Type} : List (Lit × DataW H) → Nat
  | [] => 0
  | x :: r => uptoBulkEntry x + uptoBulkEntries r
def uptoBulkEntry {H : Type} : Lit × DataW H → Nat
  | (.string bytes, d) => bytes.length + uptoBulk d + 1
  | (_, d) => uptoBulk d + 1
 end
def uptoSmall : (H : Type) → List (DataW H) → Bool := fun _ ds => decide (uptoBulkAll ds ≤ 1048576)
def OpenSpec.upto (s : _root_.Go.ChangeSpec) : _root_.Go.OpenSpec := { _root_.Go.OpenSpec.ofChange s with cond := some uptoSmall }

/-- 'laws.FnExactMailboxRow', WHERE WHAT IT READS IS OF BULK AT MOST 1048576: true; the input reads as it did. -/
def fnExactMailboxRowUptoRow : OpenClaim := { program := "ytgobhaemcmmbgaa", sum := "87edbc753671d6541e1dcc9ed72671e896968df68ff7511f95b5020f640a0422", func := "loop.example/g00516/laws.FnExactMailboxRow", spec := "fnExactMailboxRow", apart := false, narrowed := true }
def FnExactMailboxRowUptoSaid : Prop := fnExactMailboxRowUptoRow.holds Try.pinned (OpenSpec.upto fnExactMailboxRowSpec)

/-- 'laws.FnExactIsValidMailbox', WHERE WHAT IT READS IS OF BULK AT MOST 1048576: true; the input reads as it did. -/
def fnExactIsValidMailboxUptoRow : OpenClaim := { program := "ytgobhaemcmmbgaa", sum := "87edbc753671d6541e1dcc9ed72671e896968df68ff7511f95b5020f640a0422", func := "loop.example/g00516/laws.FnExactIsValidMailbox", spec := "fnExactIsValidMailbox", apart := false, narrowed := true }
def FnExactIsValidMailboxUptoSaid : Prop := fnExactIsValidMailboxUptoRow.holds Try.pinned (OpenSpec.upto fnExactIsValidMailboxSpec)

/-- 'laws.FnExactSendToMailbox', WHERE WHAT IT READS IS OF BULK AT MOST 1048576: true; the input reads as it did. -/
def fnExactSendToMailboxUptoRow : OpenClaim := { program := "ytgobhaemcmmbgaa", sum := "87edbc753671d6541e1dcc9ed72671e896968df68ff7511f95b5020f640a0422", func := "loop.example/g00516/laws.FnExactSendToMailbox", spec := "fnExactSendToMailbox", unfollowed := true, recurses := true, apart := false, narrowed := true }
def FnExactSendToMailboxUptoSaid : Prop := fnExactSendToMailboxUptoRow.holds Try.pinned (OpenSpec.upto fnExactSendToMailboxSpec)

/-- 'laws.FnExactDirectionKey', WHERE WHAT IT READS IS OF BULK AT MOST 1048576: true; the input reads as it did. -/
def fnExactDirectionKeyUptoRow : OpenClaim := { program := "ytgobhaemcmmbgaa", sum := "87edbc753671d6541e1dcc9ed72671e896968df68ff7511f95b5020f640a0422", func := "loop.example/g00516/laws.FnExactDirectionKey", spec := "fnExactDirectionKey", unfollowed := true, recurses := true, apart := false, narrowed := true }
def FnExactDirectionKeyUptoSaid : Prop := fnExactDirectionKeyUptoRow.holds Try.pinned (OpenSpec.upto fnExactDirectionKeySpec)

/-- 'laws.FnExactCountCollisions', WHERE WHAT IT READS IS OF BULK AT MOST 1048576: true; the input reads as it did. -/
def fnExactCountCollisionsUptoRow : OpenClaim := { program := "ytgobhaemcmmbgaa", sum := "87edbc753671d6541e1dcc9ed72671e896968df68ff7511f95b5020f640a0422", func := "loop.example/g00516/laws.FnExactCountCollisions", spec := "fnExactCountCollisions", apart := false, narrowed := true }
def FnExactCountCollisionsUptoSaid : Prop := fnExactCountCollisionsUptoRow.holds Try.pinned (OpenSpec.upto fnExactCountCollisionsSpec)

/-- 'laws.FnExactFreeRound', WHERE WHAT IT READS IS OF BULK AT MOST 1048576: true; the input reads as it did. -/
def fnExactFreeRoundUptoRow : OpenClaim := { program := "ytgobhaemcmmbgaa", sum := "87edbc753671d6541e1dcc9ed72671e896968df68ff7511f95b5020f640a0422", func := "loop.example/g00516/laws.FnExactFreeRound", spec := "fnExactFreeRound", unfollowed := true, recurses := true, apart := false, narrowed := true }
def FnExactFreeRoundUptoSaid : Prop := fnExactFreeRoundUptoRow.holds Try.pinned (OpenSpec.upto fnExactFreeRoundSpec)

end Rows
end Go.Proofs.Ytgobhaemcmmbgaa
