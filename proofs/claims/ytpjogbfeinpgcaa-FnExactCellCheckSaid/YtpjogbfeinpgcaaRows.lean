/-
  No cell of these rows narrows 'for every input' (looked for: loops, veiled, ifaces, maps, wideKeys, modest, calm, conditions, laid).
  DERIVED. THE GIVEN ROWS OF THIS SEAT. 4 by the template 'for every input the law returns true; each argument reads behind the call as it read before'; 0 by the template 'total and deterministic' (their statements: YtpjogbfeinpgcaaTotals.lean).
  GIVEN WITH THE SEED: the statements are not yours to turn. If you find one false, say at which input.
  Laid BY PROGRAM, IN A SANDBOX (cutbox-rows.mjs): the forced cells as the released guide's own fill.sh prints them over the translation 6eec4ed421a23f8b… (all of the seat's roots in one cut). By AI agents, Wed Nov 11 2026. No macro, syntax, notation, axiom, sorry.
-/
import Derived.Test.YtpjogbfeinpgcaaChecked
import GoSem.Claim
import GoSem.ClaimJoined
import GoSem.ClaimMapViews
import Derived.JoinedTies
import Derived.KernelRfl
namespace Go.Proofs.Ytpjogbfeinpgcaa
/- THE CELL 'sum', in the pinned program and in every row, IS THE sha256 OF THE DUMP (.gsa) THAT YtpjogbfeinpgcaaProg.lean LOADS. Nothing in Lean hashes anything: it is a label: what it is worth is what the hold of that sum in a sandbox is worth. -/
noncomputable def Try.pinned : Pinned := { name := "ytpjogbfeinpgcaa", sum := "6eec4ed421a23f8bc5d462654c800f1a287c246beba267f2b00b071a6581c147", checked := Try.checked }
namespace Rows
def none {H : Type} : Left H := { results := [], args := [] }

/-- 'laws.FnExactSealCell': WHATEVER THE INPUT: true; the input reads as it did. -/
def fnExactSealCellSpec : ChangeSpec := { name := "fnExactSealCell", fn := fun _ => fun
  | [d1, d2, d3] => { results := [.lit (.bool true)], args := [d1, d2, d3] }
  | _ => none }
def fnExactSealCellRow : OpenClaim := { program := "ytpjogbfeinpgcaa", sum := "6eec4ed421a23f8bc5d462654c800f1a287c246beba267f2b00b071a6581c147", func := "loop.example/g00516/laws.FnExactSealCell", spec := "fnExactSealCell", unfollowed := true, recurses := true, apart := false }
def FnExactSealCellSaid : Prop := fnExactSealCellRow.holds Try.pinned (OpenSpec.ofChange fnExactSealCellSpec)

/-- ITS FALSE NEIGHBOUR: 'it returns false'. Refute it at one input. -/
def fnExactSealCellWrong : ChangeSpec := { name := "fnExactSealCell", fn := fun _ => fun
  | [d1, d2, d3] => { results := [.lit (.bool false)], args := [d1, d2, d3] }
  | _ => none }
def FnExactSealCellWrongFalsely : Prop := fnExactSealCellRow.holds Try.pinned (OpenSpec.ofChange fnExactSealCellWrong)

/-- 'laws.FnExactCoverCell': WHATEVER THE INPUT: true; the input reads as it did. -/
def fnExactCoverCellSpec : ChangeSpec := { name := "fnExactCoverCell", fn := fun _ => fun
  | [d] => { results := [.lit (.bool true)], args := [d] }
  | _ => none }
def fnExactCoverCellRow : OpenClaim := { program := "ytpjogbfeinpgcaa", sum := "6eec4ed421a23f8bc5d462654c800f1a287c246beba267f2b00b071a6581c147", func := "loop.example/g00516/laws.FnExactCoverCell", spec := "fnExactCoverCell", apart := false }
def FnExactCoverCellSaid : Prop := fnExactCoverCellRow.holds Try.pinned (OpenSpec.ofChange fnExactCoverCellSpec)

/-- ITS FALSE NEIGHBOUR: 'it returns false'. Refute it at one input. -/
def fnExactCoverCellWrong : ChangeSpec := { name := "fnExactCoverCell", fn := fun _ => fun
  | [d] => { results := [.lit (.bool false)], args := [d] }
  | _ => none }
def FnExactCoverCellWrongFalsely : Prop := fnExactCoverCellRow.holds Try.pinned (OpenSpec.ofChange fnExactCoverCellWrong)

/-- 'laws.FnExactCellCheck': WHATEVER THE INPUT: true; the input reads as it did. -/
def fnExactCellCheckSpec : ChangeSpec := { name := "fnExactCellCheck", fn := fun _ => fun
  | [d1, d2, d3] => { results := [.lit (.bool true)], args := [d1, d2, d3] }
  | _ => none }
def fnExactCellCheckRow : OpenClaim := { program := "ytpjogbfeinpgcaa", sum := "6eec4ed421a23f8bc5d462654c800f1a287c246beba267f2b00b071a6581c147", func := "loop.example/g00516/laws.FnExactCellCheck", spec := "fnExactCellCheck", apart := false }
def FnExactCellCheckSaid : Prop := fnExactCellCheckRow.holds Try.pinned (OpenSpec.ofChange fnExactCellCheckSpec)

/-- ITS FALSE NEIGHBOUR: 'it returns false'. Refute it at one input. -/
def fnExactCellCheckWrong : ChangeSpec := { name := "fnExactCellCheck", fn := fun _ => fun
  | [d1, d2, d3] => { results := [.lit (.bool false)], args := [d1, d2, d3] }
  | _ => none }
def FnExactCellCheckWrongFalsely : Prop := fnExactCellCheckRow.holds Try.pinned (OpenSpec.ofChange fnExactCellCheckWrong)

/-- 'laws.FnExactIsValidPlain': WHATEVER THE INPUT: true; the input reads as it did. -/
def fnExactIsValidPlainSpec : ChangeSpec := { name := "fnExactIsValidPlain", fn := fun _ => fun
  | [d] => { results := [.lit (.bool true)], args := [d] }
  | _ => none }
def fnExactIsValidPlainRow : OpenClaim := { program := "ytpjogbfeinpgcaa", sum := "6eec4ed421a23f8bc5d462654c800f1a287c246beba267f2b00b071a6581c147", func := "loop.example/g00516/laws.FnExactIsValidPlain", spec := "fnExactIsValidPlain", apart := false }
def FnExactIsValidPlainSaid : Prop := fnExactIsValidPlainRow.holds Try.pinned (OpenSpec.ofChange fnExactIsValidPlainSpec)

/-- ITS FALSE NEIGHBOUR: 'it returns false'. Refute it at one input. -/
def fnExactIsValidPlainWrong : ChangeSpec := { name := "fnExactIsValidPlain", fn := fun _ => fun
  | [d] => { results := [.lit (.bool false)], args := [d] }
  | _ => none }
def FnExactIsValidPlainWrongFalsely : Prop := fnExactIsValidPlainRow.holds Try.pinned (OpenSpec.ofChange fnExactIsValidPlainWrong)

/- THE SECOND FORM. 'bulk': how many values and letters a reading holds, each counted each time it is reached (what is shared counts as often as it is met; a slice's spare places count too). A statement '..UptoSaid' is the law's where the arguments, and the package variables that the reading takes, are together of bulk at most 1048576: NARROWER than '..Said'. Prove '..Said' where nothing that the law and all that it calls make is longer than what came in: it says more and counts as full. Else prove '..UptoSaid'. A law counts once. -/
mutual
def uptoBulk {H : Type} : DataW H → Nat
  | .lit (.string bytes) => bytes.length + 1
  | .lit _ => 1
  | .nil => 1
  | .ptr d => uptoBulk d + 1
  | .slice elems spare => uptoBulkAll elems + uptoBulkAll spare + 1
  | .agg parts => uptoBulkAll parts + 1
  | .iface _ d => uptoBulk d + 1
  | .map entries => uptoBulkEntries entries + 1
  | .held _ => 1
def uptoBulkAll {H : Type} : List (DataW H) → Nat
  | [] => 0
  | d :: r => uptoBulk d + uptoBulkAll r
def uptoBulkEntries {H : Type} : List (Lit × DataW H) → Nat
  | [] => 0
  | x :: r => uptoBulkEntry x + uptoBulkEntries r
def uptoBulkEntry {H : Type} : Lit × DataW H → Nat
  | (.string bytes, d) => bytes.length + uptoBulk d + 1
  | (_, d) => uptoBulk d + 1
 end
def uptoSmall : (H : Type) → List (DataW H) → Bool := fun _ ds => decide (uptoBulkAll ds ≤ 1048576)
def OpenSpec.upto (s : _root_.Go.ChangeSpec) : _root_.Go.OpenSpec := { _root_.Go.OpenSpec.ofChange s with cond := some uptoSmall }

/-- 'laws.FnExactSealCell', WHERE WHAT IT READS IS OF BULK AT MOST 1048576: true; the input reads as it did. -/
def fnExactSealCellUptoRow : OpenClaim := { program := "ytpjogbfeinpgcaa", sum := "6eec4ed421a23f8bc5d462654c800f1a287c246beba267f2b00b071a6581c147", func := "loop.example/g00516/laws.FnExactSealCell", spec := "fnExactSealCell", unfollowed := true, recurses := true, apart := false, narrowed := true }
def FnExactSealCellUptoSaid : Prop := fnExactSealCellUptoRow.holds Try.pinned (OpenSpec.upto fnExactSealCellSpec)

/-- 'laws.FnExactCoverCell', WHERE WHAT IT READS IS OF BULK AT MOST 1048576: true; the input reads as it did. -/
def fnExactCoverCellUptoRow : OpenClaim := { program := "ytpjogbfeinpgcaa", sum := "6eec4ed421a23f8bc5d462654c800f1a287c246beba267f2b00b071a6581c147", func := "loop.example/g00516/laws.FnExactCoverCell", spec := "fnExactCoverCell", apart := false, narrowed := true }
def FnExactCoverCellUptoSaid : Prop := fnExactCoverCellUptoRow.holds Try.pinned (OpenSpec.upto fnExactCoverCellSpec)

/-- 'laws.FnExactCellCheck', WHERE WHAT IT READS IS OF BULK AT MOST 1048576: true; the input reads as it did. -/
def fnExactCellCheckUptoRow : OpenClaim := { program := "ytpjogbfeinpgcaa", sum := "6eec4ed421a23f8bc5d462654c800f1a287c246beba267f2b00b071a6581c147", func := "loop.example/g00516/laws.FnExactCellCheck", spec := "fnExactCellCheck", apart := false, narrowed := true }
def FnExactCellCheckUptoSaid : Prop := fnExactCellCheckUptoRow.holds Try.pinned (OpenSpec.upto fnExactCellCheckSpec)

/-- 'laws.FnExactIsValidPlain', WHERE WHAT IT READS IS OF BULK AT MOST 1048576: true; the input reads as it did. -/
def fnExactIsValidPlainUptoRow : OpenClaim := { program := "ytpjogbfeinpgcaa", sum := "6eec4ed421a23f8bc5d462654c800f1a287c246beba267f2b00b071a6581c147", func := "loop.example/g00516/laws.FnExactIsValidPlain", spec := "fnExactIsValidPlain", apart := false, narrowed := true }
def FnExactIsValidPlainUptoSaid : Prop := fnExactIsValidPlainUptoRow.holds Try.pinned (OpenSpec.upto fnExactIsValidPlainSpec)

end Rows
end Go.Proofs.Ytpjogbfeinpgcaa
