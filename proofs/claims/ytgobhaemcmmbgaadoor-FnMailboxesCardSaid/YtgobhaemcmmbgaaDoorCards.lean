/-
  DERIVED. GIVEN WITH THE SEED: THE CARDS: each row of YtgobhaemcmmbgaaDoorRows.lean that lists a variable, with what it lists TIED to the program's text (the seventh form; the later family's looks); each row that meets fmt, with fmt's text TOLD by the authors' own Lean function (tested against real Go, not proved from fmt's source: count such statements apart). THE CARD IS WHAT COUNTS. Prove the row's statement (the work); the ties are given (YtgobhaemcmmbgaaDoorTie.lean); close each card by the builder's one call (the guide's Derived/Test/ToyasCard.lean, 'card_holds'). Laid BY PROGRAM, IN A SANDBOX (cutbox-door.mjs). By AI agents, Wed Nov 11 2026. No macro, syntax, notation, axiom, sorry.
-/
import Derived.Test.YtgobhaemcmmbgaaDoorRows
import GoSem.ClaimSeven
namespace Go.Proofs.YtgobhaemcmmbgaaDoor
namespace Rows

/-- THE TIED CARD OF 'laws.FnMailboxes'. -/
def fnMailboxesCard : Claim7 := { stood := { row := fnMailboxesRow, standIns := [], harness := (true, "327135cccb031f939797addb831e9a6a8fade61056adfe364033b4ed98b4cde4"), looks := true }, kinds := [], alts := [], laidByText := true, laidKinds := [.handle], laidTests := true, laidLooks := .later }
def FnMailboxesCardSaid : Prop := Claim7.holds Tryd.pinned (.plain (OpenSpec.ofChange fnMailboxesSpec)) fnMailboxesCard

/-- THE TIED CARD OF 'laws.FnExactReceiveFromMailbox'. -/
def fnExactReceiveFromMailboxCard : Claim7 := { stood := { row := fnExactReceiveFromMailboxRow, standIns := [], harness := (true, "327135cccb031f939797addb831e9a6a8fade61056adfe364033b4ed98b4cde4"), looks := true }, kinds := [], alts := [], laidByText := true, laidKinds := [.handle], laidTests := true, laidLooks := .later }
def FnExactReceiveFromMailboxCardSaid : Prop := Claim7.holds Tryd.pinned (.plain (OpenSpec.ofChange fnExactReceiveFromMailboxSpec)) fnExactReceiveFromMailboxCard

/-- THE SECOND FORM's CARD OF 'laws.FnMailboxes'. -/
def fnMailboxesUptoCard : Claim7 := { stood := { row := fnMailboxesUptoRow, standIns := [], harness := (true, "327135cccb031f939797addb831e9a6a8fade61056adfe364033b4ed98b4cde4"), looks := true }, kinds := [], alts := [], laidByText := true, laidKinds := [.handle], laidTests := true, laidLooks := .later }
def FnMailboxesUptoCardSaid : Prop := Claim7.holds Tryd.pinned (.plain (OpenSpec.upto fnMailboxesSpec)) fnMailboxesUptoCard

/-- THE SECOND FORM's CARD OF 'laws.FnExactReceiveFromMailbox'. -/
def fnExactReceiveFromMailboxUptoCard : Claim7 := { stood := { row := fnExactReceiveFromMailboxUptoRow, standIns := [], harness := (true, "327135cccb031f939797addb831e9a6a8fade61056adfe364033b4ed98b4cde4"), looks := true }, kinds := [], alts := [], laidByText := true, laidKinds := [.handle], laidTests := true, laidLooks := .later }
def FnExactReceiveFromMailboxUptoCardSaid : Prop := Claim7.holds Tryd.pinned (.plain (OpenSpec.upto fnExactReceiveFromMailboxSpec)) fnExactReceiveFromMailboxUptoCard
end Rows
end Go.Proofs.YtgobhaemcmmbgaaDoor
