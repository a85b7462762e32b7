/-
  No cell of these rows narrows 'for every input' (looked for: loops, veiled, ifaces, maps, wideKeys, modest, calm, conditions, laid).
  DERIVED. THE GIVEN ROWS OF THIS SEAT. 8 by the template 'for every input the law returns true; each argument reads behind the call as it read before'; 0 by the template 'total and deterministic' (their statements: YtjbkhbbchacooaaTotals.lean).
  GIVEN WITH THE SEED: the statements are not yours to turn. If you find one false, say at which input.
  Laid BY PROGRAM, IN A SANDBOX (cutbox-rows.mjs): the forced cells as the released guide's own fill.sh prints them over the translation 82e19c1553db4ce6… (all of the seat's roots in one cut). By AI agents, Wed Nov 11 2026. No macro, syntax, notation, axiom, sorry.
-/
import Derived.Test.YtjbkhbbchacooaaChecked
import GoSem.Claim
import GoSem.ClaimJoined
import GoSem.ClaimMapViews
import Derived.JoinedTies
import Derived.KernelRfl
namespace Go.Proofs.Ytjbkhbbchacooaa
/- THE CELL 'sum', in the pinned program and in every row, IS THE sha256 OF THE DUMP (.gsa) THAT YtjbkhbbchacooaaProg.lean LOADS. Nothing in Lean hashes anything: it is a label: what it is worth is what the hold of that sum in a sandbox is worth. -/
noncomputable def Try.pinned : Pinned := { name := "ytjbkhbbchacooaa", sum := "82e19c1553db4ce66490c33b2cd0aaa01817f2c73f52af89c7f769714a2e5173", checked := Try.checked }
namespace Rows
def none {H : Type} : Left H := { results := [], args := [] }

/-- 'laws.FnExactNewRatchet': WHATEVER THE INPUT: true; the input reads as it did. -/
def fnExactNewRatchetSpec : ChangeSpec := { name := "fnExactNewRatchet", fn := fun _ => fun
  | [d] => { results := [.lit (.bool true)], args := [d] }
  | _ => none }
def fnExactNewRatchetRow : OpenClaim := { program := "ytjbkhbbchacooaa", sum := "82e19c1553db4ce66490c33b2cd0aaa01817f2c73f52af89c7f769714a2e5173", func := "loop.example/g00516/laws.FnExactNewRatchet", spec := "fnExactNewRatchet", apart := false }
def FnExactNewRatchetSaid : Prop := fnExactNewRatchetRow.holds Try.pinned (OpenSpec.ofChange fnExactNewRatchetSpec)

/-- ITS FALSE NEIGHBOUR: 'it returns false'. Refute it at one input. -/
def fnExactNewRatchetWrong : ChangeSpec := { name := "fnExactNewRatchet", fn := fun _ => fun
  | [d] => { results := [.lit (.bool false)], args := [d] }
  | _ => none }
def FnExactNewRatchetWrongFalsely : Prop := fnExactNewRatchetRow.holds Try.pinned (OpenSpec.ofChange fnExactNewRatchetWrong)

/-- 'laws.FnExactIsValidRatchet': WHATEVER THE INPUT: true; the input reads as it did. -/
def fnExactIsValidRatchetSpec : ChangeSpec := { name := "fnExactIsValidRatchet", fn := fun _ => fun
  | [d] => { results := [.lit (.bool true)], args := [d] }
  | _ => none }
def fnExactIsValidRatchetRow : OpenClaim := { program := "ytjbkhbbchacooaa", sum := "82e19c1553db4ce66490c33b2cd0aaa01817f2c73f52af89c7f769714a2e5173", func := "loop.example/g00516/laws.FnExactIsValidRatchet", spec := "fnExactIsValidRatchet", apart := false }
def FnExactIsValidRatchetSaid : Prop := fnExactIsValidRatchetRow.holds Try.pinned (OpenSpec.ofChange fnExactIsValidRatchetSpec)

/-- ITS FALSE NEIGHBOUR: 'it returns false'. Refute it at one input. -/
def fnExactIsValidRatchetWrong : ChangeSpec := { name := "fnExactIsValidRatchet", fn := fun _ => fun
  | [d] => { results := [.lit (.bool false)], args := [d] }
  | _ => none }
def FnExactIsValidRatchetWrongFalsely : Prop := fnExactIsValidRatchetRow.holds Try.pinned (OpenSpec.ofChange fnExactIsValidRatchetWrong)

/-- 'laws.FnExactMessageKey': WHATEVER THE INPUT: true; the input reads as it did. -/
def fnExactMessageKeySpec : ChangeSpec := { name := "fnExactMessageKey", fn := fun _ => fun
  | [d] => { results := [.lit (.bool true)], args := [d] }
  | _ => none }
def fnExactMessageKeyRow : OpenClaim := { program := "ytjbkhbbchacooaa", sum := "82e19c1553db4ce66490c33b2cd0aaa01817f2c73f52af89c7f769714a2e5173", func := "loop.example/g00516/laws.FnExactMessageKey", spec := "fnExactMessageKey", unfollowed := true, recurses := true, apart := false }
def FnExactMessageKeySaid : Prop := fnExactMessageKeyRow.holds Try.pinned (OpenSpec.ofChange fnExactMessageKeySpec)

/-- ITS FALSE NEIGHBOUR: 'it returns false'. Refute it at one input. -/
def fnExactMessageKeyWrong : ChangeSpec := { name := "fnExactMessageKey", fn := fun _ => fun
  | [d] => { results := [.lit (.bool false)], args := [d] }
  | _ => none }
def FnExactMessageKeyWrongFalsely : Prop := fnExactMessageKeyRow.holds Try.pinned (OpenSpec.ofChange fnExactMessageKeyWrong)

/-- 'laws.FnExactNextChain': WHATEVER THE INPUT: true; the input reads as it did. -/
def fnExactNextChainSpec : ChangeSpec := { name := "fnExactNextChain", fn := fun _ => fun
  | [d] => { results := [.lit (.bool true)], args := [d] }
  | _ => none }
def fnExactNextChainRow : OpenClaim := { program := "ytjbkhbbchacooaa", sum := "82e19c1553db4ce66490c33b2cd0aaa01817f2c73f52af89c7f769714a2e5173", func := "loop.example/g00516/laws.FnExactNextChain", spec := "fnExactNextChain", unfollowed := true, recurses := true, apart := false }
def FnExactNextChainSaid : Prop := fnExactNextChainRow.holds Try.pinned (OpenSpec.ofChange fnExactNextChainSpec)

/-- ITS FALSE NEIGHBOUR: 'it returns false'. Refute it at one input. -/
def fnExactNextChainWrong : ChangeSpec := { name := "fnExactNextChain", fn := fun _ => fun
  | [d] => { results := [.lit (.bool false)], args := [d] }
  | _ => none }
def FnExactNextChainWrongFalsely : Prop := fnExactNextChainRow.holds Try.pinned (OpenSpec.ofChange fnExactNextChainWrong)

/-- 'laws.FnExactAdvance': WHATEVER THE INPUT: true; the input reads as it did. -/
def fnExactAdvanceSpec : ChangeSpec := { name := "fnExactAdvance", fn := fun _ => fun
  | [d] => { results := [.lit (.bool true)], args := [d] }
  | _ => none }
def fnExactAdvanceRow : OpenClaim := { program := "ytjbkhbbchacooaa", sum := "82e19c1553db4ce66490c33b2cd0aaa01817f2c73f52af89c7f769714a2e5173", func := "loop.example/g00516/laws.FnExactAdvance", spec := "fnExactAdvance", unfollowed := true, recurses := true, apart := false }
def FnExactAdvanceSaid : Prop := fnExactAdvanceRow.holds Try.pinned (OpenSpec.ofChange fnExactAdvanceSpec)

/-- ITS FALSE NEIGHBOUR: 'it returns false'. Refute it at one input. -/
def fnExactAdvanceWrong : ChangeSpec := { name := "fnExactAdvance", fn := fun _ => fun
  | [d] => { results := [.lit (.bool false)], args := [d] }
  | _ => none }
def FnExactAdvanceWrongFalsely : Prop := fnExactAdvanceRow.holds Try.pinned (OpenSpec.ofChange fnExactAdvanceWrong)

/-- 'laws.FnExactKeyForStep': WHATEVER THE INPUT: true; the input reads as it did. -/
def fnExactKeyForStepSpec : ChangeSpec := { name := "fnExactKeyForStep", fn := fun _ => fun
  | [d1, d2] => { results := [.lit (.bool true)], args := [d1, d2] }
  | _ => none }
def fnExactKeyForStepRow : OpenClaim := { program := "ytjbkhbbchacooaa", sum := "82e19c1553db4ce66490c33b2cd0aaa01817f2c73f52af89c7f769714a2e5173", func := "loop.example/g00516/laws.FnExactKeyForStep", spec := "fnExactKeyForStep", unfollowed := true, recurses := true, apart := false }
def FnExactKeyForStepSaid : Prop := fnExactKeyForStepRow.holds Try.pinned (OpenSpec.ofChange fnExactKeyForStepSpec)

/-- ITS FALSE NEIGHBOUR: 'it returns false'. Refute it at one input. -/
def fnExactKeyForStepWrong : ChangeSpec := { name := "fnExactKeyForStep", fn := fun _ => fun
  | [d1, d2] => { results := [.lit (.bool false)], args := [d1, d2] }
  | _ => none }
def FnExactKeyForStepWrongFalsely : Prop := fnExactKeyForStepRow.holds Try.pinned (OpenSpec.ofChange fnExactKeyForStepWrong)

/-- 'laws.FnExactSealStep': WHATEVER THE INPUT: true; the input reads as it did. -/
def fnExactSealStepSpec : ChangeSpec := { name := "fnExactSealStep", fn := fun _ => fun
  | [d1, d2] => { results := [.lit (.bool true)], args := [d1, d2] }
  | _ => none }
def fnExactSealStepRow : OpenClaim := { program := "ytjbkhbbchacooaa", sum := "82e19c1553db4ce66490c33b2cd0aaa01817f2c73f52af89c7f769714a2e5173", func := "loop.example/g00516/laws.FnExactSealStep", spec := "fnExactSealStep", unfollowed := true, recurses := true, apart := false }
def FnExactSealStepSaid : Prop := fnExactSealStepRow.holds Try.pinned (OpenSpec.ofChange fnExactSealStepSpec)

/-- ITS FALSE NEIGHBOUR: 'it returns false'. Refute it at one input. -/
def fnExactSealStepWrong : ChangeSpec := { name := "fnExactSealStep", fn := fun _ => fun
  | [d1, d2] => { results := [.lit (.bool false)], args := [d1, d2] }
  | _ => none }
def FnExactSealStepWrongFalsely : Prop := fnExactSealStepRow.holds Try.pinned (OpenSpec.ofChange fnExactSealStepWrong)

/-- 'laws.FnExactEqualRatchets': WHATEVER THE INPUT: true; the input reads as it did. -/
def fnExactEqualRatchetsSpec : ChangeSpec := { name := "fnExactEqualRatchets", fn := fun _ => fun
  | [d1, d2] => { results := [.lit (.bool true)], args := [d1, d2] }
  | _ => none }
def fnExactEqualRatchetsRow : OpenClaim := { program := "ytjbkhbbchacooaa", sum := "82e19c1553db4ce66490c33b2cd0aaa01817f2c73f52af89c7f769714a2e5173", func := "loop.example/g00516/laws.FnExactEqualRatchets", spec := "fnExactEqualRatchets", apart := false }
def FnExactEqualRatchetsSaid : Prop := fnExactEqualRatchetsRow.holds Try.pinned (OpenSpec.ofChange fnExactEqualRatchetsSpec)

/-- ITS FALSE NEIGHBOUR: 'it returns false'. Refute it at one input. -/
def fnExactEqualRatchetsWrong : ChangeSpec := { name := "fnExactEqualRatchets", fn := fun _ => fun
  | [d1, d2] => { results := [.lit (.bool false)], args := [d1, d2] }
  | _ => none }
def FnExactEqualRatchetsWrongFalsely : Prop := fnExactEqualRatchetsRow.holds Try.pinned (OpenSpec.ofChange fnExactEqualRatchetsWrong)

/- THE SECOND FORM. 'bulk': how many values and letters a reading holds, each counted each time it is reached (what is shared counts as often as it is met; a slice's spare places count too). A statement '..UptoSaid' is the law's where the arguments, and the package variables that the reading takes, are together of bulk at most 1048576: NARROWER than '..Said'. Prove '..Said' where nothing that the law and all that it calls make is longer than what came in: it says more and counts as full. Else prove '..UptoSaid'. A law counts once. -/
mutual
def uptoBulk {H : Type} : DataW H → Nat
  | .lit (.string bytes) => bytes.length + 1
  | .lit _ => 1
  | .nil => 1
  | .ptr d => uptoBulk d + 1
  | .slice elems spare => uptoBulkAll elems + uptoBulkAll spare + 1
  | .agg parts => uptoBulkAll parts + 1
  | .iface _ d => uptoBulk d + 1
  | .map entries => uptoBulkEntries entries + 1
  | .held _ => 1
def uptoBulkAll {H : Type} : List (DataW H) → Nat
  | [] => 0
  | d :: r => uptoBulk d + uptoBulkAll r
def uptoBulkEntries {H : Type} : List (Lit × DataW H) → Nat
  | [] => 0
  | x :: r => uptoBulkEntry x + uptoBulkEntries r
def uptoBulkEntry {H : Type} : Lit × DataW H → Nat
  | (.string bytes, d) => bytes.length + uptoBulk d + 1
  | (_, d) => uptoBulk d + 1
 end
def uptoSmall : (H : Type) → List (DataW H) → Bool := fun _ ds => decide (uptoBulkAll ds ≤ 1048576)
def OpenSpec.upto (s : _root_.Go.ChangeSpec) : _root_.Go.OpenSpec := { _root_.Go.OpenSpec.ofChange s with cond := some uptoSmall }

/-- 'laws.FnExactNewRatchet', WHERE WHAT IT READS IS OF BULK AT MOST 1048576: true; the input reads as it did. -/
def fnExactNewRatchetUptoRow : OpenClaim := { program := "ytjbkhbbchacooaa", sum := "82e19c1553db4ce66490c33b2cd0aaa01817f2c73f52af89c7f769714a2e5173", func := "loop.example/g00516/laws.FnExactNewRatchet", spec := "fnExactNewRatchet", apart := false, narrowed := true }
def FnExactNewRatchetUptoSaid : Prop := fnExactNewRatchetUptoRow.holds Try.pinned (OpenSpec.upto fnExactNewRatchetSpec)

/-- 'laws.FnExactIsValidRatchet', WHERE WHAT IT READS IS OF BULK AT MOST 1048576: true; the input reads as it did. -/
def fnExactIsValidRatchetUptoRow : OpenClaim := { program := "ytjbkhbbchacooaa", sum := "82e19c1553db4ce66490c33b2cd0aaa01817f2c73f52af89c7f769714a2e5173", func := "loop.example/g00516/laws.FnExactIsValidRatchet", spec := "fnExactIsValidRatchet", apart := false, narrowed := true }
def FnExactIsValidRatchetUptoSaid : Prop := fnExactIsValidRatchetUptoRow.holds Try.pinned (OpenSpec.upto fnExactIsValidRatchetSpec)

/-- 'laws.FnExactMessageKey', WHERE WHAT IT READS IS OF BULK AT MOST 1048576: true; the input reads as it did. -/
def fnExactMessageKeyUptoRow : OpenClaim := { program := "ytjbkhbbchacooaa", sum := "82e19c1553db4ce66490c33b2cd0aaa01817f2c73f52af89c7f769714a2e5173", func := "loop.example/g00516/laws.FnExactMessageKey", spec := "fnExactMessageKey", unfollowed := true, recurses := true, apart := false, narrowed := true }
def FnExactMessageKeyUptoSaid : Prop := fnExactMessageKeyUptoRow.holds Try.pinned (OpenSpec.upto fnExactMessageKeySpec)

/-- 'laws.FnExactNextChain', WHERE WHAT IT READS IS OF BULK AT MOST 1048576: true; the input reads as it did. -/
def fnExactNextChainUptoRow : OpenClaim := { program := "ytjbkhbbchacooaa", sum := "82e19c1553db4ce66490c33b2cd0aaa01817f2c73f52af89c7f769714a2e5173", func := "loop.example/g00516/laws.FnExactNextChain", spec := "fnExactNextChain", unfollowed := true, recurses := true, apart := false, narrowed := true }
def FnExactNextChainUptoSaid : Prop := fnExactNextChainUptoRow.holds Try.pinned (OpenSpec.upto fnExactNextChainSpec)

/-- 'laws.FnExactAdvance', WHERE WHAT IT READS IS OF BULK AT MOST 1048576: true; the input reads as it did. -/
def fnExactAdvanceUptoRow : OpenClaim := { program := "ytjbkhbbchacooaa", sum := "82e19c1553db4ce66490c33b2cd0aaa01817f2c73f52af89c7f769714a2e5173", func := "loop.example/g00516/laws.FnExactAdvance", spec := "fnExactAdvance", unfollowed := true, recurses := true, apart := false, narrowed := true }
def FnExactAdvanceUptoSaid : Prop := fnExactAdvanceUptoRow.holds Try.pinned (OpenSpec.upto fnExactAdvanceSpec)

/-- 'laws.FnExactKeyForStep', WHERE WHAT IT READS IS OF BULK AT MOST 1048576: true; the input reads as it did. -/
def fnExactKeyForStepUptoRow : OpenClaim := { program := "ytjbkhbbchacooaa", sum := "82e19c1553db4ce66490c33b2cd0aaa01817f2c73f52af89c7f769714a2e5173", func := "loop.example/g00516/laws.FnExactKeyForStep", spec := "fnExactKeyForStep", unfollowed := true, recurses := true, apart := false, narrowed := true }
def FnExactKeyForStepUptoSaid : Prop := fnExactKeyForStepUptoRow.holds Try.pinned (OpenSpec.upto fnExactKeyForStepSpec)

/-- 'laws.FnExactSealStep', WHERE WHAT IT READS IS OF BULK AT MOST 1048576: true; the input reads as it did. -/
def fnExactSealStepUptoRow : OpenClaim := { program := "ytjbkhbbchacooaa", sum := "82e19c1553db4ce66490c33b2cd0aaa01817f2c73f52af89c7f769714a2e5173", func := "loop.example/g00516/laws.FnExactSealStep", spec := "fnExactSealStep", unfollowed := true, recurses := true, apart := false, narrowed := true }
def FnExactSealStepUptoSaid : Prop := fnExactSealStepUptoRow.holds Try.pinned (OpenSpec.upto fnExactSealStepSpec)

/-- 'laws.FnExactEqualRatchets', WHERE WHAT IT READS IS OF BULK AT MOST 1048576: true; the input reads as it did. -/
def fnExactEqualRatchetsUptoRow : OpenClaim := { program := "ytjbkhbbchacooaa", sum := "82e19c1553db4ce66490c33b2cd0aaa01817f2c73f52af89c7f769714a2e5173", func := "loop.example/g00516/laws.FnExactEqualRatchets", spec := "fnExactEqualRatchets", apart := false, narrowed := true }
def FnExactEqualRatchetsUptoSaid : Prop := fnExactEqualRatchetsUptoRow.holds Try.pinned (OpenSpec.upto fnExactEqualRatchetsSpec)

end Rows
end Go.Proofs.Ytjbkhbbchacooaa
