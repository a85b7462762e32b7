/-
  No cell of these rows narrows 'for every input' (looked for: loops, veiled, ifaces, maps, wideKeys, modest, calm, conditions, laid).
  DERIVED. THE GIVEN ROWS OF THIS SEAT. 9 by the template 'for every input the law returns true; each argument reads behind the call as it read before'; 0 by the template 'total and deterministic' (their statements: YtckhmjdhdoomdaaTotals.lean).
  GIVEN WITH THE SEED: the statements are not yours to turn. If you find one false, say at which input.
  Laid BY PROGRAM, IN A SANDBOX (cutbox-rows.mjs): the forced cells as the released guide's own fill.sh prints them over the translation 09cd87417988c06f… (all of the seat's roots in one cut). By AI agents, Wed Nov 11 2026. No macro, syntax, notation, axiom, sorry.
-/
import Derived.Test.YtckhmjdhdoomdaaChecked
import GoSem.Claim
import GoSem.ClaimJoined
import GoSem.ClaimMapViews
import Derived.JoinedTies
import Derived.KernelRfl
namespace Go.Proofs.Ytckhmjdhdoomdaa
/- THE CELL 'sum', in the pinned program and in every row, IS THE sha256 OF THE DUMP (.gsa) THAT YtckhmjdhdoomdaaProg.lean LOADS. Nothing in Lean hashes anything: it is a label: what it is worth is what the hold of that sum in a sandbox is worth. -/
noncomputable def Try.pinned : Pinned := { name := "ytckhmjdhdoomdaa", sum := "09cd87417988c06f48a61c961acbdbe826d22ff8afe00e38732ba40d4204cbaa", checked := Try.checked }
namespace Rows
def none {H : Type} : Left H := { results := [], args := [] }

/-- 'laws.FnSketches': WHATEVER THE INPUT: true; the input reads as it did. -/
def fnSketchesSpec : ChangeSpec := { name := "fnSketches", fn := fun _ => fun
  | [d] => { results := [.lit (.bool true)], args := [d] }
  | _ => none }
def fnSketchesRow : OpenClaim := { program := "ytckhmjdhdoomdaa", sum := "09cd87417988c06f48a61c961acbdbe826d22ff8afe00e38732ba40d4204cbaa", func := "loop.example/g00516/laws.FnSketches", spec := "fnSketches", unfollowed := true, recurses := true, apart := false }
def FnSketchesSaid : Prop := fnSketchesRow.holds Try.pinned (OpenSpec.ofChange fnSketchesSpec)

/-- ITS FALSE NEIGHBOUR: 'it returns false'. Refute it at one input. -/
def fnSketchesWrong : ChangeSpec := { name := "fnSketches", fn := fun _ => fun
  | [d] => { results := [.lit (.bool false)], args := [d] }
  | _ => none }
def FnSketchesWrongFalsely : Prop := fnSketchesRow.holds Try.pinned (OpenSpec.ofChange fnSketchesWrong)

/-- 'laws.FnSketchesDetect': WHATEVER THE INPUT: true; the input reads as it did. -/
def fnSketchesDetectSpec : ChangeSpec := { name := "fnSketchesDetect", fn := fun _ => fun
  | [d] => { results := [.lit (.bool true)], args := [d] }
  | _ => none }
def fnSketchesDetectRow : OpenClaim := { program := "ytckhmjdhdoomdaa", sum := "09cd87417988c06f48a61c961acbdbe826d22ff8afe00e38732ba40d4204cbaa", func := "loop.example/g00516/laws.FnSketchesDetect", spec := "fnSketchesDetect", unfollowed := true, recurses := true, apart := false }
def FnSketchesDetectSaid : Prop := fnSketchesDetectRow.holds Try.pinned (OpenSpec.ofChange fnSketchesDetectSpec)

/-- ITS FALSE NEIGHBOUR: 'it returns false'. Refute it at one input. -/
def fnSketchesDetectWrong : ChangeSpec := { name := "fnSketchesDetect", fn := fun _ => fun
  | [d] => { results := [.lit (.bool false)], args := [d] }
  | _ => none }
def FnSketchesDetectWrongFalsely : Prop := fnSketchesDetectRow.holds Try.pinned (OpenSpec.ofChange fnSketchesDetectWrong)

/-- 'laws.FnExactChallenge': WHATEVER THE INPUT: true; the input reads as it did. -/
def fnExactChallengeSpec : ChangeSpec := { name := "fnExactChallenge", fn := fun _ => fun
  | [d1, d2] => { results := [.lit (.bool true)], args := [d1, d2] }
  | _ => none }
def fnExactChallengeRow : OpenClaim := { program := "ytckhmjdhdoomdaa", sum := "09cd87417988c06f48a61c961acbdbe826d22ff8afe00e38732ba40d4204cbaa", func := "loop.example/g00516/laws.FnExactChallenge", spec := "fnExactChallenge", apart := false }
def FnExactChallengeSaid : Prop := fnExactChallengeRow.holds Try.pinned (OpenSpec.ofChange fnExactChallengeSpec)

/-- ITS FALSE NEIGHBOUR: 'it returns false'. Refute it at one input. -/
def fnExactChallengeWrong : ChangeSpec := { name := "fnExactChallenge", fn := fun _ => fun
  | [d1, d2] => { results := [.lit (.bool false)], args := [d1, d2] }
  | _ => none }
def FnExactChallengeWrongFalsely : Prop := fnExactChallengeRow.holds Try.pinned (OpenSpec.ofChange fnExactChallengeWrong)

/-- 'laws.FnExactShareVector': WHATEVER THE INPUT: true; the input reads as it did. -/
def fnExactShareVectorSpec : ChangeSpec := { name := "fnExactShareVector", fn := fun _ => fun
  | [d1, d2] => { results := [.lit (.bool true)], args := [d1, d2] }
  | _ => none }
def fnExactShareVectorRow : OpenClaim := { program := "ytckhmjdhdoomdaa", sum := "09cd87417988c06f48a61c961acbdbe826d22ff8afe00e38732ba40d4204cbaa", func := "loop.example/g00516/laws.FnExactShareVector", spec := "fnExactShareVector", unfollowed := true, recurses := true, apart := false }
def FnExactShareVectorSaid : Prop := fnExactShareVectorRow.holds Try.pinned (OpenSpec.ofChange fnExactShareVectorSpec)

/-- ITS FALSE NEIGHBOUR: 'it returns false'. Refute it at one input. -/
def fnExactShareVectorWrong : ChangeSpec := { name := "fnExactShareVector", fn := fun _ => fun
  | [d1, d2] => { results := [.lit (.bool false)], args := [d1, d2] }
  | _ => none }
def FnExactShareVectorWrongFalsely : Prop := fnExactShareVectorRow.holds Try.pinned (OpenSpec.ofChange fnExactShareVectorWrong)

/-- 'laws.FnExactSketchShare': WHATEVER THE INPUT: true; the input reads as it did. -/
def fnExactSketchShareSpec : ChangeSpec := { name := "fnExactSketchShare", fn := fun _ => fun
  | [d1, d2] => { results := [.lit (.bool true)], args := [d1, d2] }
  | _ => none }
def fnExactSketchShareRow : OpenClaim := { program := "ytckhmjdhdoomdaa", sum := "09cd87417988c06f48a61c961acbdbe826d22ff8afe00e38732ba40d4204cbaa", func := "loop.example/g00516/laws.FnExactSketchShare", spec := "fnExactSketchShare", unfollowed := true, recurses := true, apart := false }
def FnExactSketchShareSaid : Prop := fnExactSketchShareRow.holds Try.pinned (OpenSpec.ofChange fnExactSketchShareSpec)

/-- ITS FALSE NEIGHBOUR: 'it returns false'. Refute it at one input. -/
def fnExactSketchShareWrong : ChangeSpec := { name := "fnExactSketchShare", fn := fun _ => fun
  | [d1, d2] => { results := [.lit (.bool false)], args := [d1, d2] }
  | _ => none }
def FnExactSketchShareWrongFalsely : Prop := fnExactSketchShareRow.holds Try.pinned (OpenSpec.ofChange fnExactSketchShareWrong)

/-- 'laws.FnExactJoinSketches': WHATEVER THE INPUT: true; the input reads as it did. -/
def fnExactJoinSketchesSpec : ChangeSpec := { name := "fnExactJoinSketches", fn := fun _ => fun
  | [d1, d2] => { results := [.lit (.bool true)], args := [d1, d2] }
  | _ => none }
def fnExactJoinSketchesRow : OpenClaim := { program := "ytckhmjdhdoomdaa", sum := "09cd87417988c06f48a61c961acbdbe826d22ff8afe00e38732ba40d4204cbaa", func := "loop.example/g00516/laws.FnExactJoinSketches", spec := "fnExactJoinSketches", unfollowed := true, recurses := true, apart := false }
def FnExactJoinSketchesSaid : Prop := fnExactJoinSketchesRow.holds Try.pinned (OpenSpec.ofChange fnExactJoinSketchesSpec)

/-- ITS FALSE NEIGHBOUR: 'it returns false'. Refute it at one input. -/
def fnExactJoinSketchesWrong : ChangeSpec := { name := "fnExactJoinSketches", fn := fun _ => fun
  | [d1, d2] => { results := [.lit (.bool false)], args := [d1, d2] }
  | _ => none }
def FnExactJoinSketchesWrongFalsely : Prop := fnExactJoinSketchesRow.holds Try.pinned (OpenSpec.ofChange fnExactJoinSketchesWrong)

/-- 'laws.FnExactAcceptsSketch': WHATEVER THE INPUT: true; the input reads as it did. -/
def fnExactAcceptsSketchSpec : ChangeSpec := { name := "fnExactAcceptsSketch", fn := fun _ => fun
  | [d1, d2, d3] => { results := [.lit (.bool true)], args := [d1, d2, d3] }
  | _ => none }
def fnExactAcceptsSketchRow : OpenClaim := { program := "ytckhmjdhdoomdaa", sum := "09cd87417988c06f48a61c961acbdbe826d22ff8afe00e38732ba40d4204cbaa", func := "loop.example/g00516/laws.FnExactAcceptsSketch", spec := "fnExactAcceptsSketch", apart := false }
def FnExactAcceptsSketchSaid : Prop := fnExactAcceptsSketchRow.holds Try.pinned (OpenSpec.ofChange fnExactAcceptsSketchSpec)

/-- ITS FALSE NEIGHBOUR: 'it returns false'. Refute it at one input. -/
def fnExactAcceptsSketchWrong : ChangeSpec := { name := "fnExactAcceptsSketch", fn := fun _ => fun
  | [d1, d2, d3] => { results := [.lit (.bool false)], args := [d1, d2, d3] }
  | _ => none }
def FnExactAcceptsSketchWrongFalsely : Prop := fnExactAcceptsSketchRow.holds Try.pinned (OpenSpec.ofChange fnExactAcceptsSketchWrong)

/-- 'laws.FnExactCheckShares': WHATEVER THE INPUT: true; the input reads as it did. -/
def fnExactCheckSharesSpec : ChangeSpec := { name := "fnExactCheckShares", fn := fun _ => fun
  | [d1, d2] => { results := [.lit (.bool true)], args := [d1, d2] }
  | _ => none }
def fnExactCheckSharesRow : OpenClaim := { program := "ytckhmjdhdoomdaa", sum := "09cd87417988c06f48a61c961acbdbe826d22ff8afe00e38732ba40d4204cbaa", func := "loop.example/g00516/laws.FnExactCheckShares", spec := "fnExactCheckShares", unfollowed := true, recurses := true, apart := false }
def FnExactCheckSharesSaid : Prop := fnExactCheckSharesRow.holds Try.pinned (OpenSpec.ofChange fnExactCheckSharesSpec)

/-- ITS FALSE NEIGHBOUR: 'it returns false'. Refute it at one input. -/
def fnExactCheckSharesWrong : ChangeSpec := { name := "fnExactCheckShares", fn := fun _ => fun
  | [d1, d2] => { results := [.lit (.bool false)], args := [d1, d2] }
  | _ => none }
def FnExactCheckSharesWrongFalsely : Prop := fnExactCheckSharesRow.holds Try.pinned (OpenSpec.ofChange fnExactCheckSharesWrong)

/-- 'laws.FnExactCountAccepting': WHATEVER THE INPUT: true; the input reads as it did. -/
def fnExactCountAcceptingSpec : ChangeSpec := { name := "fnExactCountAccepting", fn := fun _ => fun
  | [d1, d2, d3] => { results := [.lit (.bool true)], args := [d1, d2, d3] }
  | _ => none }
def fnExactCountAcceptingRow : OpenClaim := { program := "ytckhmjdhdoomdaa", sum := "09cd87417988c06f48a61c961acbdbe826d22ff8afe00e38732ba40d4204cbaa", func := "loop.example/g00516/laws.FnExactCountAccepting", spec := "fnExactCountAccepting", unfollowed := true, recurses := true, apart := false }
def FnExactCountAcceptingSaid : Prop := fnExactCountAcceptingRow.holds Try.pinned (OpenSpec.ofChange fnExactCountAcceptingSpec)

/-- ITS FALSE NEIGHBOUR: 'it returns false'. Refute it at one input. -/
def fnExactCountAcceptingWrong : ChangeSpec := { name := "fnExactCountAccepting", fn := fun _ => fun
  | [d1, d2, d3] => { results := [.lit (.bool false)], args := [d1, d2, d3] }
  | _ => none }
def FnExactCountAcceptingWrongFalsely : Prop := fnExactCountAcceptingRow.holds Try.pinned (OpenSpec.ofChange fnExactCountAcceptingWrong)

/- THE SECOND FORM. 'bulk': how many values and letters a reading holds, each counted each time it is reached (what is shared counts as often as it is met; a slice's spare places count too). A statement '..UptoSaid' is the law's where the arguments, and the package variables that the reading takes, are together of bulk at most 1048576: NARROWER than '..Said'. Prove '..Said' where nothing that the law and all that it calls make is longer than what came in: it says more and counts as full. Else prove '..UptoSaid'. A law counts once. -/
mutual
def uptoBulk {H : Type} : DataW H → Nat
  | .lit (.string bytes) => bytes.length + 1
  | .lit _ => 1
  | .nil => 1
  | .ptr d => uptoBulk d + 1
  | .slice elems spare => uptoBulkAll elems + uptoBulkAll spare + 1
  | .agg parts => uptoBulkAll parts + 1
  | .iface _ d => uptoBulk d + 1
  | .map entries => uptoBulkEntries entries + 1
  | .held _ => 1
def uptoBulkAll {H : Type} : List (DataW H) → Nat
  | [] => 0
  | d :: r => uptoBulk d + uptoBulkAll r
def uptoBulkEntries {H : Type} : List (Lit × DataW H) → Nat
  | [] => 0
  | x :: r => uptoBulkEntry x + uptoBulkEntries r
def uptoBulkEntry {H : Type} : Lit × DataW H → Nat
  | (.string bytes, d) => bytes.length + uptoBulk d + 1
  | (_, d) => uptoBulk d + 1
 end
def uptoSmall : (H : Type) → List (DataW H) → Bool := fun _ ds => decide (uptoBulkAll ds ≤ 1048576)
def OpenSpec.upto (s : _root_.Go.ChangeSpec) : _root_.Go.OpenSpec := { _root_.Go.OpenSpec.ofChange s with cond := some uptoSmall }

/-- 'laws.FnSketches', WHERE WHAT IT READS IS OF BULK AT MOST 1048576: true; the input reads as it did. -/
def fnSketchesUptoRow : OpenClaim := { program := "ytckhmjdhdoomdaa", sum := "09cd87417988c06f48a61c961acbdbe826d22ff8afe00e38732ba40d4204cbaa", func := "loop.example/g00516/laws.FnSketches", spec := "fnSketches", unfollowed := true, recurses := true, apart := false, narrowed := true }
def FnSketchesUptoSaid : Prop := fnSketchesUptoRow.holds Try.pinned (OpenSpec.upto fnSketchesSpec)

/-- 'laws.FnSketchesDetect', WHERE WHAT IT READS IS OF BULK AT MOST 1048576: true; the input reads as it did. -/
def fnSketchesDetectUptoRow : OpenClaim := { program := "ytckhmjdhdoomdaa", sum := "09cd87417988c06f48a61c961acbdbe826d22ff8afe00e38732ba40d4204cbaa", func := "loop.example/g00516/laws.FnSketchesDetect", spec := "fnSketchesDetect", unfollowed := true, recurses := true, apart := false, narrowed := true }
def FnSketchesDetectUptoSaid : Prop := fnSketchesDetectUptoRow.holds Try.pinned (OpenSpec.upto fnSketchesDetectSpec)

/-- 'laws.FnExactChallenge', WHERE WHAT IT READS IS OF BULK AT MOST 1048576: true; the input reads as it did. -/
def fnExactChallengeUptoRow : OpenClaim := { program := "ytckhmjdhdoomdaa", sum := "09cd87417988c06f48a61c961acbdbe826d22ff8afe00e38732ba40d4204cbaa", func := "loop.example/g00516/laws.FnExactChallenge", spec := "fnExactChallenge", apart := false, narrowed := true }
def FnExactChallengeUptoSaid : Prop := fnExactChallengeUptoRow.holds Try.pinned (OpenSpec.upto fnExactChallengeSpec)

/-- 'laws.FnExactShareVector', WHERE WHAT IT READS IS OF BULK AT MOST 1048576: true; the input reads as it did. -/
def fnExactShareVectorUptoRow : OpenClaim := { program := "ytckhmjdhdoomdaa", sum := "09cd87417988c06f48a61c961acbdbe826d22ff8afe00e38732ba40d4204cbaa", func := "loop.example/g00516/laws.FnExactShareVector", spec := "fnExactShareVector", unfollowed := true, recurses := true, apart := false, narrowed := true }
def FnExactShareVectorUptoSaid : Prop := fnExactShareVectorUptoRow.holds Try.pinned (OpenSpec.upto fnExactShareVectorSpec)

/-- 'laws.FnExactSketchShare', WHERE WHAT IT READS IS OF BULK AT MOST 1048576: true; the input reads as it did. -/
def fnExactSketchShareUptoRow : OpenClaim := { program := "ytckhmjdhdoomdaa", sum := "09cd87417988c06f48a61c961acbdbe826d22ff8afe00e38732ba40d4204cbaa", func := "loop.example/g00516/laws.FnExactSketchShare", spec := "fnExactSketchShare", unfollowed := true, recurses := true, apart := false, narrowed := true }
def FnExactSketchShareUptoSaid : Prop := fnExactSketchShareUptoRow.holds Try.pinned (OpenSpec.upto fnExactSketchShareSpec)

/-- 'laws.FnExactJoinSketches', WHERE WHAT IT READS IS OF BULK AT MOST 1048576: true; the input reads as it did. -/
def fnExactJoinSketchesUptoRow : OpenClaim := { program := "ytckhmjdhdoomdaa", sum := "09cd87417988c06f48a61c961acbdbe826d22ff8afe00e38732ba40d4204cbaa", func := "loop.example/g00516/laws.FnExactJoinSketches", spec := "fnExactJoinSketches", unfollowed := true, recurses := true, apart := false, narrowed := true }
def FnExactJoinSketchesUptoSaid : Prop := fnExactJoinSketchesUptoRow.holds Try.pinned (OpenSpec.upto fnExactJoinSketchesSpec)

/-- 'laws.FnExactAcceptsSketch', WHERE WHAT IT READS IS OF BULK AT MOST 1048576: true; the input reads as it did. -/
def fnExactAcceptsSketchUptoRow : OpenClaim := { program := "ytckhmjdhdoomdaa", sum := "09cd87417988c06f48a61c961acbdbe826d22ff8afe00e38732ba40d4204cbaa", func := "loop.example/g00516/laws.FnExactAcceptsSketch", spec := "fnExactAcceptsSketch", apart := false, narrowed := true }
def FnExactAcceptsSketchUptoSaid : Prop := fnExactAcceptsSketchUptoRow.holds Try.pinned (OpenSpec.upto fnExactAcceptsSketchSpec)

/-- 'laws.FnExactCheckShares', WHERE WHAT IT READS IS OF BULK AT MOST 1048576: true; the input reads as it did. -/
def fnExactCheckSharesUptoRow : OpenClaim := { program := "ytckhmjdhdoomdaa", sum := "09cd87417988c06f48a61c961acbdbe826d22ff8afe00e38732ba40d4204cbaa", func := "loop.example/g00516/laws.FnExactCheckShares", spec := "fnExactCheckShares", unfollowed := true, recurses := true, apart := false, narrowed := true }
def FnExactCheckSharesUptoSaid : Prop := fnExactCheckSharesUptoRow.holds Try.pinned (OpenSpec.upto fnExactCheckSharesSpec)

/-- 'laws.FnExactCountAccepting', WHERE WHAT IT READS IS OF BULK AT MOST 1048576: true; the input reads as it did. -/
def fnExactCountAcceptingUptoRow : OpenClaim := { program := "ytckhmjdhdoomdaa", sum := "09cd87417988c06f48a61c961acbdbe826d22ff8afe00e38732ba40d4204cbaa", func := "loop.example/g00516/laws.FnExactCountAccepting", spec := "fnExactCountAccepting", unfollowed := true, recurses := true, apart := false, narrowed := true }
def FnExactCountAcceptingUptoSaid : Prop := fnExactCountAcceptingUptoRow.holds Try.pinned (OpenSpec.upto fnExactCountAcceptingSpec)

end Rows
end Go.Proofs.Ytckhmjdhdoomdaa
