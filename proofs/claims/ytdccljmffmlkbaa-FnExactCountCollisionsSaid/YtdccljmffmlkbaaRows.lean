/-
  No cell of these rows narrows 'for every input' (looked for: loops, veiled, ifaces, maps, wideKeys, modest, calm, conditions, laid).
  DERIVED. THE GIVEN ROWS OF THIS SEAT. 6 by the template 'for every input the law returns true; each argument reads behind the call as it read before'; 0 by the template 'total and deterministic' (their statements: YtdccljmffmlkbaaTotals.lean).
  GIVEN WITH THE SEED: the statements are not yours to turn. If you find one false, say at which input.
  Laid BY PROGRAM, IN A SANDBOX (cutbox-rows.mjs): the forced cells as the released guide's own fill.sh prints them over the translation 6b6dd907a7311cb6… (all of the seat's roots in one cut). By AI agents, Wed Nov 11 2026. No macro, syntax, notation, axiom, sorry.
-/
import Derived.Test.YtdccljmffmlkbaaChecked
import GoSem.Claim
import GoSem.ClaimJoined
import GoSem.ClaimMapViews
import Derived.JoinedTies
import Derived.KernelRfl
namespace Go.Proofs.Ytdccljmffmlkbaa
/- THE CELL 'sum', in the pinned program and in every row, IS THE sha256 OF THE DUMP (.gsa) THAT YtdccljmffmlkbaaProg.lean LOADS. Nothing in Lean hashes anything: it is a label: what it is worth is what the hold of that sum in a sandbox is worth. -/
noncomputable def Try.pinned : Pinned := { name := "ytdccljmffmlkbaa", sum := "6b6dd907a7311cb6d5c0155579b8e4da7edd4b0d99a97d0ee573075d1184958b", checked := Try.checked }
namespace Rows
def none {H : Type} : Left H := { results := [], args := [] }

/-- 'laws.FnExactCountCollisions': WHATEVER THE INPUT: true; the input reads as it did. -/
def fnExactCountCollisionsSpec : ChangeSpec := { name := "fnExactCountCollisions", fn := fun _ => fun
  | [d] => { results := [.lit (.bool true)], args := [d] }
  | _ => none }
def fnExactCountCollisionsRow : OpenClaim := { program := "ytdccljmffmlkbaa", sum := "6b6dd907a7311cb6d5c0155579b8e4da7edd4b0d99a97d0ee573075d1184958b", func := "loop.example/g00516/laws.FnExactCountCollisions", spec := "fnExactCountCollisions", apart := false }
def FnExactCountCollisionsSaid : Prop := fnExactCountCollisionsRow.holds Try.pinned (OpenSpec.ofChange fnExactCountCollisionsSpec)

/-- ITS FALSE NEIGHBOUR: 'it returns false'. Refute it at one input. -/
def fnExactCountCollisionsWrong : ChangeSpec := { name := "fnExactCountCollisions", fn := fun _ => fun
  | [d] => { results := [.lit (.bool false)], args := [d] }
  | _ => none }
def FnExactCountCollisionsWrongFalsely : Prop := fnExactCountCollisionsRow.holds Try.pinned (OpenSpec.ofChange fnExactCountCollisionsWrong)

/-- 'laws.FnExactFreeRound': WHATEVER THE INPUT: true; the input reads as it did. -/
def fnExactFreeRoundSpec : ChangeSpec := { name := "fnExactFreeRound", fn := fun _ => fun
  | [d1, d2, d3] => { results := [.lit (.bool true)], args := [d1, d2, d3] }
  | _ => none }
def fnExactFreeRoundRow : OpenClaim := { program := "ytdccljmffmlkbaa", sum := "6b6dd907a7311cb6d5c0155579b8e4da7edd4b0d99a97d0ee573075d1184958b", func := "loop.example/g00516/laws.FnExactFreeRound", spec := "fnExactFreeRound", unfollowed := true, recurses := true, apart := false }
def FnExactFreeRoundSaid : Prop := fnExactFreeRoundRow.holds Try.pinned (OpenSpec.ofChange fnExactFreeRoundSpec)

/-- ITS FALSE NEIGHBOUR: 'it returns false'. Refute it at one input. -/
def fnExactFreeRoundWrong : ChangeSpec := { name := "fnExactFreeRound", fn := fun _ => fun
  | [d1, d2, d3] => { results := [.lit (.bool false)], args := [d1, d2, d3] }
  | _ => none }
def FnExactFreeRoundWrongFalsely : Prop := fnExactFreeRoundRow.holds Try.pinned (OpenSpec.ofChange fnExactFreeRoundWrong)

/-- 'laws.FnExactHashToGroup': WHATEVER THE INPUT: true; the input reads as it did. -/
def fnExactHashToGroupSpec : ChangeSpec := { name := "fnExactHashToGroup", fn := fun _ => fun
  | [d1, d2] => { results := [.lit (.bool true)], args := [d1, d2] }
  | _ => none }
def fnExactHashToGroupRow : OpenClaim := { program := "ytdccljmffmlkbaa", sum := "6b6dd907a7311cb6d5c0155579b8e4da7edd4b0d99a97d0ee573075d1184958b", func := "loop.example/g00516/laws.FnExactHashToGroup", spec := "fnExactHashToGroup", apart := false }
def FnExactHashToGroupSaid : Prop := fnExactHashToGroupRow.holds Try.pinned (OpenSpec.ofChange fnExactHashToGroupSpec)

/-- ITS FALSE NEIGHBOUR: 'it returns false'. Refute it at one input. -/
def fnExactHashToGroupWrong : ChangeSpec := { name := "fnExactHashToGroup", fn := fun _ => fun
  | [d1, d2] => { results := [.lit (.bool false)], args := [d1, d2] }
  | _ => none }
def FnExactHashToGroupWrongFalsely : Prop := fnExactHashToGroupRow.holds Try.pinned (OpenSpec.ofChange fnExactHashToGroupWrong)

/-- 'laws.FnExactBlindToken': WHATEVER THE INPUT: true; the input reads as it did. -/
def fnExactBlindTokenSpec : ChangeSpec := { name := "fnExactBlindToken", fn := fun _ => fun
  | [d1, d2] => { results := [.lit (.bool true)], args := [d1, d2] }
  | _ => none }
def fnExactBlindTokenRow : OpenClaim := { program := "ytdccljmffmlkbaa", sum := "6b6dd907a7311cb6d5c0155579b8e4da7edd4b0d99a97d0ee573075d1184958b", func := "loop.example/g00516/laws.FnExactBlindToken", spec := "fnExactBlindToken", unfollowed := true, recurses := true, apart := false }
def FnExactBlindTokenSaid : Prop := fnExactBlindTokenRow.holds Try.pinned (OpenSpec.ofChange fnExactBlindTokenSpec)

/-- ITS FALSE NEIGHBOUR: 'it returns false'. Refute it at one input. -/
def fnExactBlindTokenWrong : ChangeSpec := { name := "fnExactBlindToken", fn := fun _ => fun
  | [d1, d2] => { results := [.lit (.bool false)], args := [d1, d2] }
  | _ => none }
def FnExactBlindTokenWrongFalsely : Prop := fnExactBlindTokenRow.holds Try.pinned (OpenSpec.ofChange fnExactBlindTokenWrong)

/-- 'laws.FnExactFinishToken': WHATEVER THE INPUT: true; the input reads as it did. -/
def fnExactFinishTokenSpec : ChangeSpec := { name := "fnExactFinishToken", fn := fun _ => fun
  | [d1, d2, d3, d4] => { results := [.lit (.bool true)], args := [d1, d2, d3, d4] }
  | _ => none }
def fnExactFinishTokenRow : OpenClaim := { program := "ytdccljmffmlkbaa", sum := "6b6dd907a7311cb6d5c0155579b8e4da7edd4b0d99a97d0ee573075d1184958b", func := "loop.example/g00516/laws.FnExactFinishToken", spec := "fnExactFinishToken", unfollowed := true, recurses := true, apart := false }
def FnExactFinishTokenSaid : Prop := fnExactFinishTokenRow.holds Try.pinned (OpenSpec.ofChange fnExactFinishTokenSpec)

/-- ITS FALSE NEIGHBOUR: 'it returns false'. Refute it at one input. -/
def fnExactFinishTokenWrong : ChangeSpec := { name := "fnExactFinishToken", fn := fun _ => fun
  | [d1, d2, d3, d4] => { results := [.lit (.bool false)], args := [d1, d2, d3, d4] }
  | _ => none }
def FnExactFinishTokenWrongFalsely : Prop := fnExactFinishTokenRow.holds Try.pinned (OpenSpec.ofChange fnExactFinishTokenWrong)

/-- 'laws.FnExactIsValidToken': WHATEVER THE INPUT: true; the input reads as it did. -/
def fnExactIsValidTokenSpec : ChangeSpec := { name := "fnExactIsValidToken", fn := fun _ => fun
  | [d1, d2] => { results := [.lit (.bool true)], args := [d1, d2] }
  | _ => none }
def fnExactIsValidTokenRow : OpenClaim := { program := "ytdccljmffmlkbaa", sum := "6b6dd907a7311cb6d5c0155579b8e4da7edd4b0d99a97d0ee573075d1184958b", func := "loop.example/g00516/laws.FnExactIsValidToken", spec := "fnExactIsValidToken", apart := false }
def FnExactIsValidTokenSaid : Prop := fnExactIsValidTokenRow.holds Try.pinned (OpenSpec.ofChange fnExactIsValidTokenSpec)

/-- ITS FALSE NEIGHBOUR: 'it returns false'. Refute it at one input. -/
def fnExactIsValidTokenWrong : ChangeSpec := { name := "fnExactIsValidToken", fn := fun _ => fun
  | [d1, d2] => { results := [.lit (.bool false)], args := [d1, d2] }
  | _ => none }
def FnExactIsValidTokenWrongFalsely : Prop := fnExactIsValidTokenRow.holds Try.pinned (OpenSpec.ofChange fnExactIsValidTokenWrong)

/- THE SECOND FORM. 'bulk': how many values and letters a reading holds, each counted each time it is reached (what is shared counts as often as it is met; a slice's spare places count too). A statement '..UptoSaid' is the law's where the arguments, and the package variables that the reading takes, are together of bulk at most 1048576: NARROWER than '..Said'. Prove '..Said' where nothing that the law and all that it calls make is longer than what came in: it says more and counts as full. Else prove '..UptoSaid'. A law counts once. -/
mutual
def uptoBulk {H : Type} : DataW H → Nat
  | .lit (.string bytes) => bytes.length + 1
  | .lit _ => 1
  | .nil => 1
  | .ptr d => uptoBulk d + 1
  | .slice elems spare => uptoBulkAll elems + uptoBulkAll spare + 1
  | .agg parts => uptoBulkAll parts + 1
  | .iface _ d => uptoBulk d + 1
  | .map entries => uptoBulkEntries entries + 1
  | .held _ => 1
def uptoBulkAll {H : Type} : List (DataW H) → Nat
  | [] => 0
  | d :: r => uptoBulk d + uptoBulkAll r
def uptoBulkEntries {H : Type} : List (Lit × DataW H) → Nat
  | [] => 0
  | x :: r => uptoBulkEntry x + uptoBulkEntries r
def uptoBulkEntry {H : Type} : Lit × DataW H → Nat
  | (.string bytes, d) => bytes.length + uptoBulk d + 1
  | (_, d) => uptoBulk d + 1
 end
def uptoSmall : (H : Type) → List (DataW H) → Bool := fun _ ds => decide (uptoBulkAll ds ≤ 1048576)
def OpenSpec.upto (s : _root_.Go.ChangeSpec) : _root_.Go.OpenSpec := { _root_.Go.OpenSpec.ofChange s with cond := some uptoSmall }

/-- 'laws.FnExactCountCollisions', WHERE WHAT IT READS IS OF BULK AT MOST 1048576: true; the input reads as it did. -/
def fnExactCountCollisionsUptoRow : OpenClaim := { program := "ytdccljmffmlkbaa", sum := "6b6dd907a7311cb6d5c0155579b8e4da7edd4b0d99a97d0ee573075d1184958b", func := "loop.example/g00516/laws.FnExactCountCollisions", spec := "fnExactCountCollisions", apart := false, narrowed := true }
def FnExactCountCollisionsUptoSaid : Prop := fnExactCountCollisionsUptoRow.holds Try.pinned (OpenSpec.upto fnExactCountCollisionsSpec)

/-- 'laws.FnExactFreeRound', WHERE WHAT IT READS IS OF BULK AT MOST 1048576: true; the input reads as it did. -/
def fnExactFreeRoundUptoRow : OpenClaim := { program := "ytdccljmffmlkbaa", sum := "6b6dd907a7311cb6d5c0155579b8e4da7edd4b0d99a97d0ee573075d1184958b", func := "loop.example/g00516/laws.FnExactFreeRound", spec := "fnExactFreeRound", unfollowed := true, recurses := true, apart := false, narrowed := true }
def FnExactFreeRoundUptoSaid : Prop := fnExactFreeRoundUptoRow.holds Try.pinned (OpenSpec.upto fnExactFreeRoundSpec)

/-- 'laws.FnExactHashToGroup', WHERE WHAT IT READS IS OF BULK AT MOST 1048576: true; the input reads as it did. -/
def fnExactHashToGroupUptoRow : OpenClaim := { program := "ytdccljmffmlkbaa", sum := "6b6dd907a7311cb6d5c0155579b8e4da7edd4b0d99a97d0ee573075d1184958b", func := "loop.example/g00516/laws.FnExactHashToGroup", spec := "fnExactHashToGroup", apart := false, narrowed := true }
def FnExactHashToGroupUptoSaid : Prop := fnExactHashToGroupUptoRow.holds Try.pinned (OpenSpec.upto fnExactHashToGroupSpec)

/-- 'laws.FnExactBlindToken', WHERE WHAT IT READS IS OF BULK AT MOST 1048576: true; the input reads as it did. -/
def fnExactBlindTokenUptoRow : OpenClaim := { program := "ytdccljmffmlkbaa", sum := "6b6dd907a7311cb6d5c0155579b8e4da7edd4b0d99a97d0ee573075d1184958b", func := "loop.example/g00516/laws.FnExactBlindToken", spec := "fnExactBlindToken", unfollowed := true, recurses := true, apart := false, narrowed := true }
def FnExactBlindTokenUptoSaid : Prop := fnExactBlindTokenUptoRow.holds Try.pinned (OpenSpec.upto fnExactBlindTokenSpec)

/-- 'laws.FnExactFinishToken', WHERE WHAT IT READS IS OF BULK AT MOST 1048576: true; the input reads as it did. -/
def fnExactFinishTokenUptoRow : OpenClaim := { program := "ytdccljmffmlkbaa", sum := "6b6dd907a7311cb6d5c0155579b8e4da7edd4b0d99a97d0ee573075d1184958b", func := "loop.example/g00516/laws.FnExactFinishToken", spec := "fnExactFinishToken", unfollowed := true, recurses := true, apart := false, narrowed := true }
def FnExactFinishTokenUptoSaid : Prop := fnExactFinishTokenUptoRow.holds Try.pinned (OpenSpec.upto fnExactFinishTokenSpec)

/-- 'laws.FnExactIsValidToken', WHERE WHAT IT READS IS OF BULK AT MOST 1048576: true; the input reads as it did. -/
def fnExactIsValidTokenUptoRow : OpenClaim := { program := "ytdccljmffmlkbaa", sum := "6b6dd907a7311cb6d5c0155579b8e4da7edd4b0d99a97d0ee573075d1184958b", func := "loop.example/g00516/laws.FnExactIsValidToken", spec := "fnExactIsValidToken", apart := false, narrowed := true }
def FnExactIsValidTokenUptoSaid : Prop := fnExactIsValidTokenUptoRow.holds Try.pinned (OpenSpec.upto fnExactIsValidTokenSpec)

end Rows
end Go.Proofs.Ytdccljmffmlkbaa
