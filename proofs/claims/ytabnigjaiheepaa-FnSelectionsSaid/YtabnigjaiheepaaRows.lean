/-
  No cell of these rows narrows 'for every input' (looked for: loops, veiled, ifaces, maps, wideKeys, modest, calm, conditions, laid).
  DERIVED. THE GIVEN ROWS OF THIS SEAT. 9 by the template 'for every input the law returns true; each argument reads behind the call as it read before'; 0 by the template 'total and deterministic' (their statements: YtabnigjaiheepaaTotals.lean).
  GIVEN WITH THE SEED: the statements are not yours to turn. If you find one false, say at which input.
  Laid BY PROGRAM, IN A SANDBOX (cutbox-rows.mjs): the forced cells as the released guide's own fill.sh prints them over the translation e55dee5510fa9105… (all of the seat's roots in one cut). By AI agents, Wed Nov 11 2026. No macro, syntax, notation, axiom, sorry.
-/
import Derived.Test.YtabnigjaiheepaaChecked
import GoSem.Claim
import GoSem.ClaimJoined
import GoSem.ClaimMapViews
import Derived.JoinedTies
import Derived.KernelRfl
namespace Go.Proofs.Ytabnigjaiheepaa
/- THE CELL 'sum', in the pinned program and in every row, IS THE sha256 OF THE DUMP (.gsa) THAT YtabnigjaiheepaaProg.lean LOADS. Nothing in Lean hashes anything: it is a label: what it is worth is what the hold of that sum in a sandbox is worth. -/
noncomputable def Try.pinned : Pinned := { name := "ytabnigjaiheepaa", sum := "e55dee5510fa9105cb5d1ef064d115acfd6f92dfefddef91607709d165352d29", checked := Try.checked }
namespace Rows
def none {H : Type} : Left H := { results := [], args := [] }

/-- 'laws.FnSelections': WHATEVER THE INPUT: true; the input reads as it did. -/
def fnSelectionsSpec : ChangeSpec := { name := "fnSelections", fn := fun _ => fun
  | [d] => { results := [.lit (.bool true)], args := [d] }
  | _ => none }
def fnSelectionsRow : OpenClaim := { program := "ytabnigjaiheepaa", sum := "e55dee5510fa9105cb5d1ef064d115acfd6f92dfefddef91607709d165352d29", func := "loop.example/g00516/laws.FnSelections", spec := "fnSelections", unfollowed := true, recurses := true, apart := false }
def FnSelectionsSaid : Prop := fnSelectionsRow.holds Try.pinned (OpenSpec.ofChange fnSelectionsSpec)

/-- ITS FALSE NEIGHBOUR: 'it returns false'. Refute it at one input. -/
def fnSelectionsWrong : ChangeSpec := { name := "fnSelections", fn := fun _ => fun
  | [d] => { results := [.lit (.bool false)], args := [d] }
  | _ => none }
def FnSelectionsWrongFalsely : Prop := fnSelectionsRow.holds Try.pinned (OpenSpec.ofChange fnSelectionsWrong)

/-- 'laws.FnExactIsSelection': WHATEVER THE INPUT: true; the input reads as it did. -/
def fnExactIsSelectionSpec : ChangeSpec := { name := "fnExactIsSelection", fn := fun _ => fun
  | [d1, d2] => { results := [.lit (.bool true)], args := [d1, d2] }
  | _ => none }
def fnExactIsSelectionRow : OpenClaim := { program := "ytabnigjaiheepaa", sum := "e55dee5510fa9105cb5d1ef064d115acfd6f92dfefddef91607709d165352d29", func := "loop.example/g00516/laws.FnExactIsSelection", spec := "fnExactIsSelection", apart := false }
def FnExactIsSelectionSaid : Prop := fnExactIsSelectionRow.holds Try.pinned (OpenSpec.ofChange fnExactIsSelectionSpec)

/-- ITS FALSE NEIGHBOUR: 'it returns false'. Refute it at one input. -/
def fnExactIsSelectionWrong : ChangeSpec := { name := "fnExactIsSelection", fn := fun _ => fun
  | [d1, d2] => { results := [.lit (.bool false)], args := [d1, d2] }
  | _ => none }
def FnExactIsSelectionWrongFalsely : Prop := fnExactIsSelectionRow.holds Try.pinned (OpenSpec.ofChange fnExactIsSelectionWrong)

/-- 'laws.FnExactUnitSelection': WHATEVER THE INPUT: true; the input reads as it did. -/
def fnExactUnitSelectionSpec : ChangeSpec := { name := "fnExactUnitSelection", fn := fun _ => fun
  | [d1, d2] => { results := [.lit (.bool true)], args := [d1, d2] }
  | _ => none }
def fnExactUnitSelectionRow : OpenClaim := { program := "ytabnigjaiheepaa", sum := "e55dee5510fa9105cb5d1ef064d115acfd6f92dfefddef91607709d165352d29", func := "loop.example/g00516/laws.FnExactUnitSelection", spec := "fnExactUnitSelection", apart := false }
def FnExactUnitSelectionSaid : Prop := fnExactUnitSelectionRow.holds Try.pinned (OpenSpec.ofChange fnExactUnitSelectionSpec)

/-- ITS FALSE NEIGHBOUR: 'it returns false'. Refute it at one input. -/
def fnExactUnitSelectionWrong : ChangeSpec := { name := "fnExactUnitSelection", fn := fun _ => fun
  | [d1, d2] => { results := [.lit (.bool false)], args := [d1, d2] }
  | _ => none }
def FnExactUnitSelectionWrongFalsely : Prop := fnExactUnitSelectionRow.holds Try.pinned (OpenSpec.ofChange fnExactUnitSelectionWrong)

/-- 'laws.FnExactXorSelections': WHATEVER THE INPUT: true; the input reads as it did. -/
def fnExactXorSelectionsSpec : ChangeSpec := { name := "fnExactXorSelections", fn := fun _ => fun
  | [d1, d2] => { results := [.lit (.bool true)], args := [d1, d2] }
  | _ => none }
def fnExactXorSelectionsRow : OpenClaim := { program := "ytabnigjaiheepaa", sum := "e55dee5510fa9105cb5d1ef064d115acfd6f92dfefddef91607709d165352d29", func := "loop.example/g00516/laws.FnExactXorSelections", spec := "fnExactXorSelections", apart := false }
def FnExactXorSelectionsSaid : Prop := fnExactXorSelectionsRow.holds Try.pinned (OpenSpec.ofChange fnExactXorSelectionsSpec)

/-- ITS FALSE NEIGHBOUR: 'it returns false'. Refute it at one input. -/
def fnExactXorSelectionsWrong : ChangeSpec := { name := "fnExactXorSelections", fn := fun _ => fun
  | [d1, d2] => { results := [.lit (.bool false)], args := [d1, d2] }
  | _ => none }
def FnExactXorSelectionsWrongFalsely : Prop := fnExactXorSelectionsRow.holds Try.pinned (OpenSpec.ofChange fnExactXorSelectionsWrong)

/-- 'laws.FnExactRandomSelection': WHATEVER THE INPUT: true; the input reads as it did. -/
def fnExactRandomSelectionSpec : ChangeSpec := { name := "fnExactRandomSelection", fn := fun _ => fun
  | [d1, d2] => { results := [.lit (.bool true)], args := [d1, d2] }
  | _ => none }
def fnExactRandomSelectionRow : OpenClaim := { program := "ytabnigjaiheepaa", sum := "e55dee5510fa9105cb5d1ef064d115acfd6f92dfefddef91607709d165352d29", func := "loop.example/g00516/laws.FnExactRandomSelection", spec := "fnExactRandomSelection", apart := false }
def FnExactRandomSelectionSaid : Prop := fnExactRandomSelectionRow.holds Try.pinned (OpenSpec.ofChange fnExactRandomSelectionSpec)

/-- ITS FALSE NEIGHBOUR: 'it returns false'. Refute it at one input. -/
def fnExactRandomSelectionWrong : ChangeSpec := { name := "fnExactRandomSelection", fn := fun _ => fun
  | [d1, d2] => { results := [.lit (.bool false)], args := [d1, d2] }
  | _ => none }
def FnExactRandomSelectionWrongFalsely : Prop := fnExactRandomSelectionRow.holds Try.pinned (OpenSpec.ofChange fnExactRandomSelectionWrong)

/-- 'laws.FnExactCountSelected': WHATEVER THE INPUT: true; the input reads as it did. -/
def fnExactCountSelectedSpec : ChangeSpec := { name := "fnExactCountSelected", fn := fun _ => fun
  | [d] => { results := [.lit (.bool true)], args := [d] }
  | _ => none }
def fnExactCountSelectedRow : OpenClaim := { program := "ytabnigjaiheepaa", sum := "e55dee5510fa9105cb5d1ef064d115acfd6f92dfefddef91607709d165352d29", func := "loop.example/g00516/laws.FnExactCountSelected", spec := "fnExactCountSelected", apart := false }
def FnExactCountSelectedSaid : Prop := fnExactCountSelectedRow.holds Try.pinned (OpenSpec.ofChange fnExactCountSelectedSpec)

/-- ITS FALSE NEIGHBOUR: 'it returns false'. Refute it at one input. -/
def fnExactCountSelectedWrong : ChangeSpec := { name := "fnExactCountSelected", fn := fun _ => fun
  | [d] => { results := [.lit (.bool false)], args := [d] }
  | _ => none }
def FnExactCountSelectedWrongFalsely : Prop := fnExactCountSelectedRow.holds Try.pinned (OpenSpec.ofChange fnExactCountSelectedWrong)

/-- 'laws.FnExactPackSelection': WHATEVER THE INPUT: true; the input reads as it did. -/
def fnExactPackSelectionSpec : ChangeSpec := { name := "fnExactPackSelection", fn := fun _ => fun
  | [d] => { results := [.lit (.bool true)], args := [d] }
  | _ => none }
def fnExactPackSelectionRow : OpenClaim := { program := "ytabnigjaiheepaa", sum := "e55dee5510fa9105cb5d1ef064d115acfd6f92dfefddef91607709d165352d29", func := "loop.example/g00516/laws.FnExactPackSelection", spec := "fnExactPackSelection", apart := false }
def FnExactPackSelectionSaid : Prop := fnExactPackSelectionRow.holds Try.pinned (OpenSpec.ofChange fnExactPackSelectionSpec)

/-- ITS FALSE NEIGHBOUR: 'it returns false'. Refute it at one input. -/
def fnExactPackSelectionWrong : ChangeSpec := { name := "fnExactPackSelection", fn := fun _ => fun
  | [d] => { results := [.lit (.bool false)], args := [d] }
  | _ => none }
def FnExactPackSelectionWrongFalsely : Prop := fnExactPackSelectionRow.holds Try.pinned (OpenSpec.ofChange fnExactPackSelectionWrong)

/-- 'laws.FnExactUnpackSelection': WHATEVER THE INPUT: true; the input reads as it did. -/
def fnExactUnpackSelectionSpec : ChangeSpec := { name := "fnExactUnpackSelection", fn := fun _ => fun
  | [d] => { results := [.lit (.bool true)], args := [d] }
  | _ => none }
def fnExactUnpackSelectionRow : OpenClaim := { program := "ytabnigjaiheepaa", sum := "e55dee5510fa9105cb5d1ef064d115acfd6f92dfefddef91607709d165352d29", func := "loop.example/g00516/laws.FnExactUnpackSelection", spec := "fnExactUnpackSelection", apart := false }
def FnExactUnpackSelectionSaid : Prop := fnExactUnpackSelectionRow.holds Try.pinned (OpenSpec.ofChange fnExactUnpackSelectionSpec)

/-- ITS FALSE NEIGHBOUR: 'it returns false'. Refute it at one input. -/
def fnExactUnpackSelectionWrong : ChangeSpec := { name := "fnExactUnpackSelection", fn := fun _ => fun
  | [d] => { results := [.lit (.bool false)], args := [d] }
  | _ => none }
def FnExactUnpackSelectionWrongFalsely : Prop := fnExactUnpackSelectionRow.holds Try.pinned (OpenSpec.ofChange fnExactUnpackSelectionWrong)

/-- 'laws.FnExactSelectXor': WHATEVER THE INPUT: true; the input reads as it did. -/
def fnExactSelectXorSpec : ChangeSpec := { name := "fnExactSelectXor", fn := fun _ => fun
  | [d1, d2] => { results := [.lit (.bool true)], args := [d1, d2] }
  | _ => none }
def fnExactSelectXorRow : OpenClaim := { program := "ytabnigjaiheepaa", sum := "e55dee5510fa9105cb5d1ef064d115acfd6f92dfefddef91607709d165352d29", func := "loop.example/g00516/laws.FnExactSelectXor", spec := "fnExactSelectXor", unfollowed := true, recurses := true, apart := false }
def FnExactSelectXorSaid : Prop := fnExactSelectXorRow.holds Try.pinned (OpenSpec.ofChange fnExactSelectXorSpec)

/-- ITS FALSE NEIGHBOUR: 'it returns false'. Refute it at one input. -/
def fnExactSelectXorWrong : ChangeSpec := { name := "fnExactSelectXor", fn := fun _ => fun
  | [d1, d2] => { results := [.lit (.bool false)], args := [d1, d2] }
  | _ => none }
def FnExactSelectXorWrongFalsely : Prop := fnExactSelectXorRow.holds Try.pinned (OpenSpec.ofChange fnExactSelectXorWrong)

/- THE SECOND FORM. 'bulk': how many values and letters a reading holds, each counted each time it is reached (what is shared counts as often as it is met; a slice's spare places count too). A statement '..UptoSaid' is the law's where the arguments, and the package variables that the reading takes, are together of bulk at most 1048576: NARROWER than '..Said'. Prove '..Said' where nothing that the law and all that it calls make is longer than what came in: it says more and counts as full. Else prove '..UptoSaid'. A law counts once. -/
mutual
def uptoBulk {H : Type} : DataW H → Nat
  | .lit (.string bytes) => bytes.length + 1
  | .lit _ => 1
  | .nil => 1
  | .ptr d => uptoBulk d + 1
  | .slice elems spare => uptoBulkAll elems + uptoBulkAll spare + 1
  | .agg parts => uptoBulkAll parts + 1
  | .iface _ d => uptoBulk d + 1
  | .map entries => uptoBulkEntries entries + 1
  | .held _ => 1
def uptoBulkAll {H : Type} : List (DataW H) → Nat
  | [] => 0
  | d :: r => uptoBulk d + uptoBulkAll r
def uptoBulkEntries {H : Type} : List (Lit × DataW H) → Nat
  | [] => 0
  | x :: r => uptoBulkEntry x + uptoBulkEntries r
def uptoBulkEntry {H : Type} : Lit × DataW H → Nat
  | (.string bytes, d) => bytes.length + uptoBulk d + 1
  | (_, d) => uptoBulk d + 1
 end
def uptoSmall : (H : Type) → List (DataW H) → Bool := fun _ ds => decide (uptoBulkAll ds ≤ 1048576)
def OpenSpec.upto (s : _root_.Go.ChangeSpec) : _root_.Go.OpenSpec := { _root_.Go.OpenSpec.ofChange s with cond := some uptoSmall }

/-- 'laws.FnSelections', WHERE WHAT IT READS IS OF BULK AT MOST 1048576: true; the input reads as it did. -/
def fnSelectionsUptoRow : OpenClaim := { program := "ytabnigjaiheepaa", sum := "e55dee5510fa9105cb5d1ef064d115acfd6f92dfefddef91607709d165352d29", func := "loop.example/g00516/laws.FnSelections", spec := "fnSelections", unfollowed := true, recurses := true, apart := false, narrowed := true }
def FnSelectionsUptoSaid : Prop := fnSelectionsUptoRow.holds Try.pinned (OpenSpec.upto fnSelectionsSpec)

/-- 'laws.FnExactIsSelection', WHERE WHAT IT READS IS OF BULK AT MOST 1048576: true; the input reads as it did. -/
def fnExactIsSelectionUptoRow : OpenClaim := { program := "ytabnigjaiheepaa", sum := "e55dee5510fa9105cb5d1ef064d115acfd6f92dfefddef91607709d165352d29", func := "loop.example/g00516/laws.FnExactIsSelection", spec := "fnExactIsSelection", apart := false, narrowed := true }
def FnExactIsSelectionUptoSaid : Prop := fnExactIsSelectionUptoRow.holds Try.pinned (OpenSpec.upto fnExactIsSelectionSpec)

/-- 'laws.FnExactUnitSelection', WHERE WHAT IT READS IS OF BULK AT MOST 1048576: true; the input reads as it did. -/
def fnExactUnitSelectionUptoRow : OpenClaim := { program := "ytabnigjaiheepaa", sum := "e55dee5510fa9105cb5d1ef064d115acfd6f92dfefddef91607709d165352d29", func := "loop.example/g00516/laws.FnExactUnitSelection", spec := "fnExactUnitSelection", apart := false, narrowed := true }
def FnExactUnitSelectionUptoSaid : Prop := fnExactUnitSelectionUptoRow.holds Try.pinned (OpenSpec.upto fnExactUnitSelectionSpec)

/-- 'laws.FnExactXorSelections', WHERE WHAT IT READS IS OF BULK AT MOST 1048576: true; the input reads as it did. -/
def fnExactXorSelectionsUptoRow : OpenClaim := { program := "ytabnigjaiheepaa", sum := "e55dee5510fa9105cb5d1ef064d115acfd6f92dfefddef91607709d165352d29", func := "loop.example/g00516/laws.FnExactXorSelections", spec := "fnExactXorSelections", apart := false, narrowed := true }
def FnExactXorSelectionsUptoSaid : Prop := fnExactXorSelectionsUptoRow.holds Try.pinned (OpenSpec.upto fnExactXorSelectionsSpec)

/-- 'laws.FnExactRandomSelection', WHERE WHAT IT READS IS OF BULK AT MOST 1048576: true; the input reads as it did. -/
def fnExactRandomSelectionUptoRow : OpenClaim := { program := "ytabnigjaiheepaa", sum := "e55dee5510fa9105cb5d1ef064d115acfd6f92dfefddef91607709d165352d29", func := "loop.example/g00516/laws.FnExactRandomSelection", spec := "fnExactRandomSelection", apart := false, narrowed := true }
def FnExactRandomSelectionUptoSaid : Prop := fnExactRandomSelectionUptoRow.holds Try.pinned (OpenSpec.upto fnExactRandomSelectionSpec)

/-- 'laws.FnExactCountSelected', WHERE WHAT IT READS IS OF BULK AT MOST 1048576: true; the input reads as it did. -/
def fnExactCountSelectedUptoRow : OpenClaim := { program := "ytabnigjaiheepaa", sum := "e55dee5510fa9105cb5d1ef064d115acfd6f92dfefddef91607709d165352d29", func := "loop.example/g00516/laws.FnExactCountSelected", spec := "fnExactCountSelected", apart := false, narrowed := true }
def FnExactCountSelectedUptoSaid : Prop := fnExactCountSelectedUptoRow.holds Try.pinned (OpenSpec.upto fnExactCountSelectedSpec)

/-- 'laws.FnExactPackSelection', WHERE WHAT IT READS IS OF BULK AT MOST 1048576: true; the input reads as it did. -/
def fnExactPackSelectionUptoRow : OpenClaim := { program := "ytabnigjaiheepaa", sum := "e55dee5510fa9105cb5d1ef064d115acfd6f92dfefddef91607709d165352d29", func := "loop.example/g00516/laws.FnExactPackSelection", spec := "fnExactPackSelection", apart := false, narrowed := true }
def FnExactPackSelectionUptoSaid : Prop := fnExactPackSelectionUptoRow.holds Try.pinned (OpenSpec.upto fnExactPackSelectionSpec)

/-- 'laws.FnExactUnpackSelection', WHERE WHAT IT READS IS OF BULK AT MOST 1048576: true; the input reads as it did. -/
def fnExactUnpackSelectionUptoRow : OpenClaim := { program := "ytabnigjaiheepaa", sum := "e55dee5510fa9105cb5d1ef064d115acfd6f92dfefddef91607709d165352d29", func := "loop.example/g00516/laws.FnExactUnpackSelection", spec := "fnExactUnpackSelection", apart := false, narrowed := true }
def FnExactUnpackSelectionUptoSaid : Prop := fnExactUnpackSelectionUptoRow.holds Try.pinned (OpenSpec.upto fnExactUnpackSelectionSpec)

/-- 'laws.FnExactSelectXor', WHERE WHAT IT READS IS OF BULK AT MOST 1048576: true; the input reads as it did. -/
def fnExactSelectXorUptoRow : OpenClaim := { program := "ytabnigjaiheepaa", sum := "e55dee5510fa9105cb5d1ef064d115acfd6f92dfefddef91607709d165352d29", func := "loop.example/g00516/laws.FnExactSelectXor", spec := "fnExactSelectXor", unfollowed := true, recurses := true, apart := false, narrowed := true }
def FnExactSelectXorUptoSaid : Prop := fnExactSelectXorUptoRow.holds Try.pinned (OpenSpec.upto fnExactSelectXorSpec)

end Rows
end Go.Proofs.Ytabnigjaiheepaa
