/-
  No cell of these rows narrows 'for every input' (looked for: loops, veiled, ifaces, maps, wideKeys, modest, calm, conditions, laid).
  DERIVED. THE GIVEN ROWS OF THIS SEAT. 6 by the template 'for every input the law returns true; each argument reads behind the call as it read before'; 0 by the template 'total and deterministic' (their statements: YtlhpjfhglkngfaaTotals.lean).
  GIVEN WITH THE SEED: the statements are not yours to turn. If you find one false, say at which input.
  Laid BY PROGRAM, IN A SANDBOX (cutbox-rows.mjs): the forced cells as the released guide's own fill.sh prints them over the translation 067927e4c793f740… (all of the seat's roots in one cut). By AI agents, Wed Nov 11 2026. No macro, syntax, notation, axiom, sorry.
-/
import Derived.Test.YtlhpjfhglkngfaaChecked
import GoSem.Claim
import GoSem.ClaimJoined
import GoSem.ClaimMapViews
import Derived.JoinedTies
import Derived.KernelRfl
namespace Go.Proofs.Ytlhpjfhglkngfaa
/- THE CELL 'sum', in the pinned program and in every row, IS THE sha256 OF THE DUMP (.gsa) THAT YtlhpjfhglkngfaaProg.lean LOADS. Nothing in Lean hashes anything: it is a label: what it is worth is what the hold of that sum in a sandbox is worth. -/
noncomputable def Try.pinned : Pinned := { name := "ytlhpjfhglkngfaa", sum := "067927e4c793f740603b8d0f0c01d53a483034341588e84d22cbcb4977d61099", checked := Try.checked }
namespace Rows
def none {H : Type} : Left H := { results := [], args := [] }

/-- 'laws.FnExactNewIdentity': WHATEVER THE INPUT: true; the input reads as it did. -/
def fnExactNewIdentitySpec : ChangeSpec := { name := "fnExactNewIdentity", fn := fun _ => fun
  | [d] => { results := [.lit (.bool true)], args := [d] }
  | _ => none }
def fnExactNewIdentityRow : OpenClaim := { program := "ytlhpjfhglkngfaa", sum := "067927e4c793f740603b8d0f0c01d53a483034341588e84d22cbcb4977d61099", func := "loop.example/g00516/laws.FnExactNewIdentity", spec := "fnExactNewIdentity", apart := false }
def FnExactNewIdentitySaid : Prop := fnExactNewIdentityRow.holds Try.pinned (OpenSpec.ofChange fnExactNewIdentitySpec)

/-- ITS FALSE NEIGHBOUR: 'it returns false'. Refute it at one input. -/
def fnExactNewIdentityWrong : ChangeSpec := { name := "fnExactNewIdentity", fn := fun _ => fun
  | [d] => { results := [.lit (.bool false)], args := [d] }
  | _ => none }
def FnExactNewIdentityWrongFalsely : Prop := fnExactNewIdentityRow.holds Try.pinned (OpenSpec.ofChange fnExactNewIdentityWrong)

/-- 'laws.FnExactIsValidIdentity': WHATEVER THE INPUT: true; the input reads as it did. -/
def fnExactIsValidIdentitySpec : ChangeSpec := { name := "fnExactIsValidIdentity", fn := fun _ => fun
  | [d] => { results := [.lit (.bool true)], args := [d] }
  | _ => none }
def fnExactIsValidIdentityRow : OpenClaim := { program := "ytlhpjfhglkngfaa", sum := "067927e4c793f740603b8d0f0c01d53a483034341588e84d22cbcb4977d61099", func := "loop.example/g00516/laws.FnExactIsValidIdentity", spec := "fnExactIsValidIdentity", apart := false }
def FnExactIsValidIdentitySaid : Prop := fnExactIsValidIdentityRow.holds Try.pinned (OpenSpec.ofChange fnExactIsValidIdentitySpec)

/-- ITS FALSE NEIGHBOUR: 'it returns false'. Refute it at one input. -/
def fnExactIsValidIdentityWrong : ChangeSpec := { name := "fnExactIsValidIdentity", fn := fun _ => fun
  | [d] => { results := [.lit (.bool false)], args := [d] }
  | _ => none }
def FnExactIsValidIdentityWrongFalsely : Prop := fnExactIsValidIdentityRow.holds Try.pinned (OpenSpec.ofChange fnExactIsValidIdentityWrong)

/-- 'laws.FnExactSharedKey': WHATEVER THE INPUT: true; the input reads as it did. -/
def fnExactSharedKeySpec : ChangeSpec := { name := "fnExactSharedKey", fn := fun _ => fun
  | [d1, d2] => { results := [.lit (.bool true)], args := [d1, d2] }
  | _ => none }
def fnExactSharedKeyRow : OpenClaim := { program := "ytlhpjfhglkngfaa", sum := "067927e4c793f740603b8d0f0c01d53a483034341588e84d22cbcb4977d61099", func := "loop.example/g00516/laws.FnExactSharedKey", spec := "fnExactSharedKey", unfollowed := true, recurses := true, apart := false }
def FnExactSharedKeySaid : Prop := fnExactSharedKeyRow.holds Try.pinned (OpenSpec.ofChange fnExactSharedKeySpec)

/-- ITS FALSE NEIGHBOUR: 'it returns false'. Refute it at one input. -/
def fnExactSharedKeyWrong : ChangeSpec := { name := "fnExactSharedKey", fn := fun _ => fun
  | [d1, d2] => { results := [.lit (.bool false)], args := [d1, d2] }
  | _ => none }
def FnExactSharedKeyWrongFalsely : Prop := fnExactSharedKeyRow.holds Try.pinned (OpenSpec.ofChange fnExactSharedKeyWrong)

/-- 'laws.FnExactDialRow': WHATEVER THE INPUT: true; the input reads as it did. -/
def fnExactDialRowSpec : ChangeSpec := { name := "fnExactDialRow", fn := fun _ => fun
  | [d1, d2, d3] => { results := [.lit (.bool true)], args := [d1, d2, d3] }
  | _ => none }
def fnExactDialRowRow : OpenClaim := { program := "ytlhpjfhglkngfaa", sum := "067927e4c793f740603b8d0f0c01d53a483034341588e84d22cbcb4977d61099", func := "loop.example/g00516/laws.FnExactDialRow", spec := "fnExactDialRow", apart := false }
def FnExactDialRowSaid : Prop := fnExactDialRowRow.holds Try.pinned (OpenSpec.ofChange fnExactDialRowSpec)

/-- ITS FALSE NEIGHBOUR: 'it returns false'. Refute it at one input. -/
def fnExactDialRowWrong : ChangeSpec := { name := "fnExactDialRow", fn := fun _ => fun
  | [d1, d2, d3] => { results := [.lit (.bool false)], args := [d1, d2, d3] }
  | _ => none }
def FnExactDialRowWrongFalsely : Prop := fnExactDialRowRow.holds Try.pinned (OpenSpec.ofChange fnExactDialRowWrong)

/-- 'laws.FnExactMakeInvitation': WHATEVER THE INPUT: true; the input reads as it did. -/
def fnExactMakeInvitationSpec : ChangeSpec := { name := "fnExactMakeInvitation", fn := fun _ => fun
  | [d1, d2, d3] => { results := [.lit (.bool true)], args := [d1, d2, d3] }
  | _ => none }
def fnExactMakeInvitationRow : OpenClaim := { program := "ytlhpjfhglkngfaa", sum := "067927e4c793f740603b8d0f0c01d53a483034341588e84d22cbcb4977d61099", func := "loop.example/g00516/laws.FnExactMakeInvitation", spec := "fnExactMakeInvitation", unfollowed := true, recurses := true, apart := false }
def FnExactMakeInvitationSaid : Prop := fnExactMakeInvitationRow.holds Try.pinned (OpenSpec.ofChange fnExactMakeInvitationSpec)

/-- ITS FALSE NEIGHBOUR: 'it returns false'. Refute it at one input. -/
def fnExactMakeInvitationWrong : ChangeSpec := { name := "fnExactMakeInvitation", fn := fun _ => fun
  | [d1, d2, d3] => { results := [.lit (.bool false)], args := [d1, d2, d3] }
  | _ => none }
def FnExactMakeInvitationWrongFalsely : Prop := fnExactMakeInvitationRow.holds Try.pinned (OpenSpec.ofChange fnExactMakeInvitationWrong)

/-- 'laws.FnExactSafetyNumber': WHATEVER THE INPUT: true; the input reads as it did. -/
def fnExactSafetyNumberSpec : ChangeSpec := { name := "fnExactSafetyNumber", fn := fun _ => fun
  | [d1, d2] => { results := [.lit (.bool true)], args := [d1, d2] }
  | _ => none }
def fnExactSafetyNumberRow : OpenClaim := { program := "ytlhpjfhglkngfaa", sum := "067927e4c793f740603b8d0f0c01d53a483034341588e84d22cbcb4977d61099", func := "loop.example/g00516/laws.FnExactSafetyNumber", spec := "fnExactSafetyNumber", unfollowed := true, recurses := true, apart := false }
def FnExactSafetyNumberSaid : Prop := fnExactSafetyNumberRow.holds Try.pinned (OpenSpec.ofChange fnExactSafetyNumberSpec)

/-- ITS FALSE NEIGHBOUR: 'it returns false'. Refute it at one input. -/
def fnExactSafetyNumberWrong : ChangeSpec := { name := "fnExactSafetyNumber", fn := fun _ => fun
  | [d1, d2] => { results := [.lit (.bool false)], args := [d1, d2] }
  | _ => none }
def FnExactSafetyNumberWrongFalsely : Prop := fnExactSafetyNumberRow.holds Try.pinned (OpenSpec.ofChange fnExactSafetyNumberWrong)

/- THE SECOND FORM. 'bulk': how many values and letters a reading holds, each counted each time it is reached (what is shared counts as often as it is met; a slice's spare places count too). A statement '..UptoSaid' is the law's where the arguments, and the package variables that the reading takes, are together of bulk at most 1048576: NARROWER than '..Said'. Prove '..Said' where nothing that the law and all that it calls make is longer than what came in: it says more and counts as full. Else prove '..UptoSaid'. A law counts once. -/
mutual
def uptoBulk {H : Type} : DataW H → Nat
  | .lit (.string bytes) => bytes.length + 1
  | .lit _ => 1
  | .nil => 1
  | .ptr d => uptoBulk d + 1
  | .slice elems spare => uptoBulkAll elems + uptoBulkAll spare + 1
  | .agg parts => uptoBulkAll parts + 1
  | .iface _ d => uptoBulk d + 1
  | .map entries => uptoBulkEntries entries + 1
  | .held _ => 1
def uptoBulkAll {H : Type} : List (DataW H) → Nat
  | [] => 0
  | d :: r => uptoBulk d + uptoBulkAll r
def uptoBulkEntries {H : Type} : List (Lit × DataW H) → Nat
  | [] => 0
  | x :: r => uptoBulkEntry x + uptoBulkEntries r
def uptoBulkEntry {H : Type} : Lit × DataW H → Nat
  | (.string bytes, d) => bytes.length + uptoBulk d + 1
  | (_, d) => uptoBulk d + 1
 end
def uptoSmall : (H : Type) → List (DataW H) → Bool := fun _ ds => decide (uptoBulkAll ds ≤ 1048576)
def OpenSpec.upto (s : _root_.Go.ChangeSpec) : _root_.Go.OpenSpec := { _root_.Go.OpenSpec.ofChange s with cond := some uptoSmall }

/-- 'laws.FnExactNewIdentity', WHERE WHAT IT READS IS OF BULK AT MOST 1048576: true; the input reads as it did. -/
def fnExactNewIdentityUptoRow : OpenClaim := { program := "ytlhpjfhglkngfaa", sum := "067927e4c793f740603b8d0f0c01d53a483034341588e84d22cbcb4977d61099", func := "loop.example/g00516/laws.FnExactNewIdentity", spec := "fnExactNewIdentity", apart := false, narrowed := true }
def FnExactNewIdentityUptoSaid : Prop := fnExactNewIdentityUptoRow.holds Try.pinned (OpenSpec.upto fnExactNewIdentitySpec)

/-- 'laws.FnExactIsValidIdentity', WHERE WHAT IT READS IS OF BULK AT MOST 1048576: true; the input reads as it did. -/
def fnExactIsValidIdentityUptoRow : OpenClaim := { program := "ytlhpjfhglkngfaa", sum := "067927e4c793f740603b8d0f0c01d53a483034341588e84d22cbcb4977d61099", func := "loop.example/g00516/laws.FnExactIsValidIdentity", spec := "fnExactIsValidIdentity", apart := false, narrowed := true }
def FnExactIsValidIdentityUptoSaid : Prop := fnExactIsValidIdentityUptoRow.holds Try.pinned (OpenSpec.upto fnExactIsValidIdentitySpec)

/-- 'laws.FnExactSharedKey', WHERE WHAT IT READS IS OF BULK AT MOST 1048576: true; the input reads as it did. -/
def fnExactSharedKeyUptoRow : OpenClaim := { program := "ytlhpjfhglkngfaa", sum := "067927e4c793f740603b8d0f0c01d53a483034341588e84d22cbcb4977d61099", func := "loop.example/g00516/laws.FnExactSharedKey", spec := "fnExactSharedKey", unfollowed := true, recurses := true, apart := false, narrowed := true }
def FnExactSharedKeyUptoSaid : Prop := fnExactSharedKeyUptoRow.holds Try.pinned (OpenSpec.upto fnExactSharedKeySpec)

/-- 'laws.FnExactDialRow', WHERE WHAT IT READS IS OF BULK AT MOST 1048576: true; the input reads as it did. -/
def fnExactDialRowUptoRow : OpenClaim := { program := "ytlhpjfhglkngfaa", sum := "067927e4c793f740603b8d0f0c01d53a483034341588e84d22cbcb4977d61099", func := "loop.example/g00516/laws.FnExactDialRow", spec := "fnExactDialRow", apart := false, narrowed := true }
def FnExactDialRowUptoSaid : Prop := fnExactDialRowUptoRow.holds Try.pinned (OpenSpec.upto fnExactDialRowSpec)

/-- 'laws.FnExactMakeInvitation', WHERE WHAT IT READS IS OF BULK AT MOST 1048576: true; the input reads as it did. -/
def fnExactMakeInvitationUptoRow : OpenClaim := { program := "ytlhpjfhglkngfaa", sum := "067927e4c793f740603b8d0f0c01d53a483034341588e84d22cbcb4977d61099", func := "loop.example/g00516/laws.FnExactMakeInvitation", spec := "fnExactMakeInvitation", unfollowed := true, recurses := true, apart := false, narrowed := true }
def FnExactMakeInvitationUptoSaid : Prop := fnExactMakeInvitationUptoRow.holds Try.pinned (OpenSpec.upto fnExactMakeInvitationSpec)

/-- 'laws.FnExactSafetyNumber', WHERE WHAT IT READS IS OF BULK AT MOST 1048576: true; the input reads as it did. -/
def fnExactSafetyNumberUptoRow : OpenClaim := { program := "ytlhpjfhglkngfaa", sum := "067927e4c793f740603b8d0f0c01d53a483034341588e84d22cbcb4977d61099", func := "loop.example/g00516/laws.FnExactSafetyNumber", spec := "fnExactSafetyNumber", unfollowed := true, recurses := true, apart := false, narrowed := true }
def FnExactSafetyNumberUptoSaid : Prop := fnExactSafetyNumberUptoRow.holds Try.pinned (OpenSpec.upto fnExactSafetyNumberSpec)

end Rows
end Go.Proofs.Ytlhpjfhglkngfaa
