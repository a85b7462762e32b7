/-
  NARROWER THAN 'FOR EVERY INPUT', by the rows' own cells (each row's printed sentence says how): FnCells: laid · FnExactOpenCell: laid · FnExactFindCounter: laid · FnMailboxes: laid · FnExactReceiveFromMailbox: laid.
  DERIVED. THE GIVEN ROWS OF THIS SEAT. 5 by the template 'for every input the law returns true; each argument reads behind the call as it read before'; 0 by the template 'total and deterministic' (their statements: YtbimihljaalllaaDoorTotals.lean).
  GIVEN WITH THE SEED: the statements are not yours to turn. If you find one false, say at which input.
  Laid BY PROGRAM, IN A SANDBOX (cutbox-rows.mjs): the forced cells as the released guide's own fill.sh prints them over the translation 20eed96a3be98e97… (all of the seat's roots in one cut). By AI agents, Wed Nov 11 2026. No macro, syntax, notation, axiom, sorry.
-/
import Derived.Test.YtbimihljaalllaaDoorChecked
import GoSem.Claim
import GoSem.ClaimJoined
import GoSem.ClaimMapViews
import Derived.JoinedTies
import Derived.KernelRfl
namespace Go.Proofs.YtbimihljaalllaaDoor
/- THE CELL 'sum', in the pinned program and in every row, IS THE sha256 OF THE DUMP (.gsa) THAT YtbimihljaalllaaDoorProg.lean LOADS. Nothing in Lean hashes anything: it is a label: what it is worth is what the hold of that sum in a sandbox is worth. -/
noncomputable def Tryd.pinned : Pinned := { name := "ytbimihljaalllaadoor", sum := "20eed96a3be98e9762d61d83dbb5f6f141ef952ea9f8b8efb3afe20946681e84", checked := Tryd.checked }
namespace Rows
def none {H : Type} : Left H := { results := [], args := [] }

/- WHAT THE LISTED PACKAGE-LEVEL VARIABLES READ AS WHEN THE CALL BEGINS. Each datum BY PROGRAM (the guide's laid-datum.mjs) off the statement by which the dump's own 'gosem.cut.vars' lays the variable. In a bare row this is a premise. The card (YtbimihljaalllaaDoorCards.lean) ties it to the program's text. -/
def laid_errors_errorType {H : Type} : DataW H := .iface "internal/reflectlite.rtype" (.agg [.ptr (.lit (.string [101, 114, 114, 111, 114]))])

/-- 'laws.FnCells': WHATEVER THE INPUT: true; the input reads as it did. -/
def fnCellsSpec : ChangeSpec := { name := "fnCells", fn := fun _ => fun
  | [d] => { results := [.lit (.bool true)], args := [d] }
  | _ => none }
def fnCellsRow : OpenClaim := { program := "ytbimihljaalllaadoor", sum := "20eed96a3be98e9762d61d83dbb5f6f141ef952ea9f8b8efb3afe20946681e84", func := "loop.example/g00516/laws.FnCells", spec := "fnCells", inPlace := ["internal/reflectlite.ValueOf", "(internal/reflectlite.Value).Type", "(internal/reflectlite.Value).IsNil", "internal/reflectlite.TypeOf", "(internal/reflectlite.Value).Elem", "(internal/reflectlite.Value).Set"], unfollowed := true, recurses := true, named := ["errors.errorType"], apart := false, laid := [("errors.errorType", laid_errors_errorType)] }
def FnCellsSaid : Prop := fnCellsRow.holds Tryd.pinned (OpenSpec.ofChange fnCellsSpec)

/-- ITS FALSE NEIGHBOUR: 'it returns false'. Refute it at one input. -/
def fnCellsWrong : ChangeSpec := { name := "fnCells", fn := fun _ => fun
  | [d] => { results := [.lit (.bool false)], args := [d] }
  | _ => none }
def FnCellsWrongFalsely : Prop := fnCellsRow.holds Tryd.pinned (OpenSpec.ofChange fnCellsWrong)

/-- 'laws.FnExactOpenCell': WHATEVER THE INPUT: true; the input reads as it did. -/
def fnExactOpenCellSpec : ChangeSpec := { name := "fnExactOpenCell", fn := fun _ => fun
  | [d1, d2, d3] => { results := [.lit (.bool true)], args := [d1, d2, d3] }
  | _ => none }
def fnExactOpenCellRow : OpenClaim := { program := "ytbimihljaalllaadoor", sum := "20eed96a3be98e9762d61d83dbb5f6f141ef952ea9f8b8efb3afe20946681e84", func := "loop.example/g00516/laws.FnExactOpenCell", spec := "fnExactOpenCell", inPlace := ["internal/reflectlite.ValueOf", "(internal/reflectlite.Value).Type", "(internal/reflectlite.Value).IsNil", "internal/reflectlite.TypeOf", "(internal/reflectlite.Value).Elem", "(internal/reflectlite.Value).Set"], unfollowed := true, recurses := true, named := ["errors.errorType"], apart := false, laid := [("errors.errorType", laid_errors_errorType)] }
def FnExactOpenCellSaid : Prop := fnExactOpenCellRow.holds Tryd.pinned (OpenSpec.ofChange fnExactOpenCellSpec)

/-- ITS FALSE NEIGHBOUR: 'it returns false'. Refute it at one input. -/
def fnExactOpenCellWrong : ChangeSpec := { name := "fnExactOpenCell", fn := fun _ => fun
  | [d1, d2, d3] => { results := [.lit (.bool false)], args := [d1, d2, d3] }
  | _ => none }
def FnExactOpenCellWrongFalsely : Prop := fnExactOpenCellRow.holds Tryd.pinned (OpenSpec.ofChange fnExactOpenCellWrong)

/-- 'laws.FnExactFindCounter': WHATEVER THE INPUT: true; the input reads as it did. -/
def fnExactFindCounterSpec : ChangeSpec := { name := "fnExactFindCounter", fn := fun _ => fun
  | [d1, d2, d3, d4] => { results := [.lit (.bool true)], args := [d1, d2, d3, d4] }
  | _ => none }
def fnExactFindCounterRow : OpenClaim := { program := "ytbimihljaalllaadoor", sum := "20eed96a3be98e9762d61d83dbb5f6f141ef952ea9f8b8efb3afe20946681e84", func := "loop.example/g00516/laws.FnExactFindCounter", spec := "fnExactFindCounter", inPlace := ["internal/reflectlite.ValueOf", "(internal/reflectlite.Value).Type", "(internal/reflectlite.Value).IsNil", "internal/reflectlite.TypeOf", "(internal/reflectlite.Value).Elem", "(internal/reflectlite.Value).Set"], unfollowed := true, recurses := true, named := ["errors.errorType"], apart := false, laid := [("errors.errorType", laid_errors_errorType)] }
def FnExactFindCounterSaid : Prop := fnExactFindCounterRow.holds Tryd.pinned (OpenSpec.ofChange fnExactFindCounterSpec)

/-- ITS FALSE NEIGHBOUR: 'it returns false'. Refute it at one input. -/
def fnExactFindCounterWrong : ChangeSpec := { name := "fnExactFindCounter", fn := fun _ => fun
  | [d1, d2, d3, d4] => { results := [.lit (.bool false)], args := [d1, d2, d3, d4] }
  | _ => none }
def FnExactFindCounterWrongFalsely : Prop := fnExactFindCounterRow.holds Tryd.pinned (OpenSpec.ofChange fnExactFindCounterWrong)

/-- 'laws.FnMailboxes': WHATEVER THE INPUT: true; the input reads as it did. -/
def fnMailboxesSpec : ChangeSpec := { name := "fnMailboxes", fn := fun _ => fun
  | [d] => { results := [.lit (.bool true)], args := [d] }
  | _ => none }
def fnMailboxesRow : OpenClaim := { program := "ytbimihljaalllaadoor", sum := "20eed96a3be98e9762d61d83dbb5f6f141ef952ea9f8b8efb3afe20946681e84", func := "loop.example/g00516/laws.FnMailboxes", spec := "fnMailboxes", inPlace := ["internal/reflectlite.ValueOf", "(internal/reflectlite.Value).Type", "(internal/reflectlite.Value).IsNil", "internal/reflectlite.TypeOf", "(internal/reflectlite.Value).Elem", "(internal/reflectlite.Value).Set"], unfollowed := true, recurses := true, named := ["errors.errorType"], apart := false, laid := [("errors.errorType", laid_errors_errorType)] }
def FnMailboxesSaid : Prop := fnMailboxesRow.holds Tryd.pinned (OpenSpec.ofChange fnMailboxesSpec)

/-- ITS FALSE NEIGHBOUR: 'it returns false'. Refute it at one input. -/
def fnMailboxesWrong : ChangeSpec := { name := "fnMailboxes", fn := fun _ => fun
  | [d] => { results := [.lit (.bool false)], args := [d] }
  | _ => none }
def FnMailboxesWrongFalsely : Prop := fnMailboxesRow.holds Tryd.pinned (OpenSpec.ofChange fnMailboxesWrong)

/-- 'laws.FnExactReceiveFromMailbox': WHATEVER THE INPUT: true; the input reads as it did. -/
def fnExactReceiveFromMailboxSpec : ChangeSpec := { name := "fnExactReceiveFromMailbox", fn := fun _ => fun
  | [d1, d2, d3] => { results := [.lit (.bool true)], args := [d1, d2, d3] }
  | _ => none }
def fnExactReceiveFromMailboxRow : OpenClaim := { program := "ytbimihljaalllaadoor", sum := "20eed96a3be98e9762d61d83dbb5f6f141ef952ea9f8b8efb3afe20946681e84", func := "loop.example/g00516/laws.FnExactReceiveFromMailbox", spec := "fnExactReceiveFromMailbox", inPlace := ["internal/reflectlite.ValueOf", "(internal/reflectlite.Value).Type", "(internal/reflectlite.Value).IsNil", "internal/reflectlite.TypeOf", "(internal/reflectlite.Value).Elem", "(internal/reflectlite.Value).Set"], unfollowed := true, recurses := true, named := ["errors.errorType"], apart := false, laid := [("errors.errorType", laid_errors_errorType)] }
def FnExactReceiveFromMailboxSaid : Prop := fnExactReceiveFromMailboxRow.holds Tryd.pinned (OpenSpec.ofChange fnExactReceiveFromMailboxSpec)

/-- ITS FALSE NEIGHBOUR: 'it returns false'. Refute it at one input. -/
def fnExactReceiveFromMailboxWrong : ChangeSpec := { name := "fnExactReceiveFromMailbox", fn := fun _ => fun
  | [d1, d2, d3] => { results := [.lit (.bool false)], args := [d1, d2, d3] }
  | _ => none }
def FnExactReceiveFromMailboxWrongFalsely : Prop := fnExactReceiveFromMailboxRow.holds Tryd.pinned (OpenSpec.ofChange fnExactReceiveFromMailboxWrong)

/- THE SECOND FORM. 'bulk': how many values and letters a reading holds, each counted each time it is reached (what is shared counts as often as it is met; a slice's spare places count too). A statement '..UptoSaid' is the law's where the arguments, and the package variables that the reading takes, are together of bulk at most 1048576: NARROWER than '..Said'. Prove '..Said' where nothing that the law and all that it calls make is longer than what came in: it says more and counts as full. Else prove '..UptoSaid'. A law counts once. -/
mutual
def uptoBulk {H : Type} : DataW H → Nat
  | .lit (.string bytes) => bytes.length + 1
  | .lit _ => 1
  | .nil => 1
  | .ptr d => uptoBulk d + 1
  | .slice elems spare => uptoBulkAll elems + uptoBulkAll spare + 1
  | .agg parts => uptoBulkAll parts + 1
  | .iface _ d => uptoBulk d + 1
  | .map entries => uptoBulkEntries entries + 1
  | .held _ => 1
def uptoBulkAll {H : Type} : List (DataW H) → Nat
  | [] => 0
  | d :: r => uptoBulk d + uptoBulkAll r
def uptoBulkEntries {H : Type} : List (Lit × DataW H) → Nat
  | [] => 0
  | x :: r => uptoBulkEntry x + uptoBulkEntries r
def uptoBulkEntry {H : Type} : Lit × DataW H → Nat
  | (.string bytes, d) => bytes.length + uptoBulk d + 1
  | (_, d) => uptoBulk d + 1
 end
def uptoSmall : (H : Type) → List (DataW H) → Bool := fun _ ds => decide (uptoBulkAll ds ≤ 1048576)
def OpenSpec.upto (s : _root_.Go.ChangeSpec) : _root_.Go.OpenSpec := { _root_.Go.OpenSpec.ofChange s with cond := some uptoSmall }

/-- 'laws.FnCells', WHERE WHAT IT READS IS OF BULK AT MOST 1048576: true; the input reads as it did. -/
def fnCellsUptoRow : OpenClaim := { program := "ytbimihljaalllaadoor", sum := "20eed96a3be98e9762d61d83dbb5f6f141ef952ea9f8b8efb3afe20946681e84", func := "loop.example/g00516/laws.FnCells", spec := "fnCells", inPlace := ["internal/reflectlite.ValueOf", "(internal/reflectlite.Value).Type", "(internal/reflectlite.Value).IsNil", "internal/reflectlite.TypeOf", "(internal/reflectlite.Value).Elem", "(internal/reflectlite.Value).Set"], unfollowed := true, recurses := true, named := ["errors.errorType"], apart := false, laid := [("errors.errorType", laid_errors_errorType)], narrowed := true }
def FnCellsUptoSaid : Prop := fnCellsUptoRow.holds Tryd.pinned (OpenSpec.upto fnCellsSpec)

/-- 'laws.FnExactOpenCell', WHERE WHAT IT READS IS OF BULK AT MOST 1048576: true; the input reads as it did. -/
def fnExactOpenCellUptoRow : OpenClaim := { program := "ytbimihljaalllaadoor", sum := "20eed96a3be98e9762d61d83dbb5f6f141ef952ea9f8b8efb3afe20946681e84", func := "loop.example/g00516/laws.FnExactOpenCell", spec := "fnExactOpenCell", inPlace := ["internal/reflectlite.ValueOf", "(internal/reflectlite.Value).Type", "(internal/reflectlite.Value).IsNil", "internal/reflectlite.TypeOf", "(internal/reflectlite.Value).Elem", "(internal/reflectlite.Value).Set"], unfollowed := true, recurses := true, named := ["errors.errorType"], apart := false, laid := [("errors.errorType", laid_errors_errorType)], narrowed := true }
def FnExactOpenCellUptoSaid : Prop := fnExactOpenCellUptoRow.holds Tryd.pinned (OpenSpec.upto fnExactOpenCellSpec)

/-- 'laws.FnExactFindCounter', WHERE WHAT IT READS IS OF BULK AT MOST 1048576: true; the input reads as it did. -/
def fnExactFindCounterUptoRow : OpenClaim := { program := "ytbimihljaalllaadoor", sum := "20eed96a3be98e9762d61d83dbb5f6f141ef952ea9f8b8efb3afe20946681e84", func := "loop.example/g00516/laws.FnExactFindCounter", spec := "fnExactFindCounter", inPlace := ["internal/reflectlite.ValueOf", "(internal/reflectlite.Value).Type", "(internal/reflectlite.Value).IsNil", "internal/reflectlite.TypeOf", "(internal/reflectlite.Value).Elem", "(internal/reflectlite.Value).Set"], unfollowed := true, recurses := true, named := ["errors.errorType"], apart := false, laid := [("errors.errorType", laid_errors_errorType)], narrowed := true }
def FnExactFindCounterUptoSaid : Prop := fnExactFindCounterUptoRow.holds Tryd.pinned (OpenSpec.upto fnExactFindCounterSpec)

/-- 'laws.FnMailboxes', WHERE WHAT IT READS IS OF BULK AT MOST 1048576: true; the input reads as it did. -/
def fnMailboxesUptoRow : OpenClaim := { program := "ytbimihljaalllaadoor", sum := "20eed96a3be98e9762d61d83dbb5f6f141ef952ea9f8b8efb3afe20946681e84", func := "loop.example/g00516/laws.FnMailboxes", spec := "fnMailboxes", inPlace := ["internal/reflectlite.ValueOf", "(internal/reflectlite.Value).Type", "(internal/reflectlite.Value).IsNil", "internal/reflectlite.TypeOf", "(internal/reflectlite.Value).Elem", "(internal/reflectlite.Value).Set"], unfollowed := true, recurses := true, named := ["errors.errorType"], apart := false, laid := [("errors.errorType", laid_errors_errorType)], narrowed := true }
def FnMailboxesUptoSaid : Prop := fnMailboxesUptoRow.holds Tryd.pinned (OpenSpec.upto fnMailboxesSpec)

/-- 'laws.FnExactReceiveFromMailbox', WHERE WHAT IT READS IS OF BULK AT MOST 1048576: true; the input reads as it did. -/
def fnExactReceiveFromMailboxUptoRow : OpenClaim := { program := "ytbimihljaalllaadoor", sum := "20eed96a3be98e9762d61d83dbb5f6f141ef952ea9f8b8efb3afe20946681e84", func := "loop.example/g00516/laws.FnExactReceiveFromMailbox", spec := "fnExactReceiveFromMailbox", inPlace := ["internal/reflectlite.ValueOf", "(internal/reflectlite.Value).Type", "(internal/reflectlite.Value).IsNil", "internal/reflectlite.TypeOf", "(internal/reflectlite.Value).Elem", "(internal/reflectlite.Value).Set"], unfollowed := true, recurses := true, named := ["errors.errorType"], apart := false, laid := [("errors.errorType", laid_errors_errorType)], narrowed := true }
def FnExactReceiveFromMailboxUptoSaid : Prop := fnExactReceiveFromMailboxUptoRow.holds Tryd.pinned (OpenSpec.upto fnExactReceiveFromMailboxSpec)

end Rows
end Go.Proofs.YtbimihljaalllaaDoor
