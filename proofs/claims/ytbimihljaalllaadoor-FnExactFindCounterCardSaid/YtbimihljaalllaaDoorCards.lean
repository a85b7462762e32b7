/-
  DERIVED. GIVEN WITH THE SEED: THE CARDS: each row of YtbimihljaalllaaDoorRows.lean that lists a variable, with what it lists TIED to the program's text (the seventh form; the later family's looks); each row that meets fmt, with fmt's text TOLD by the authors' own Lean function (tested against real Go, not proved from fmt's source: count such statements apart). THE CARD IS WHAT COUNTS. Prove the row's statement (the work); the ties are given (YtbimihljaalllaaDoorTie.lean); close each card by the builder's one call (the guide's Derived/Test/ToyasCard.lean, 'card_holds'). Laid BY PROGRAM, IN A SANDBOX (cutbox-door.mjs). By AI agents, Wed Nov 11 2026. No macro, syntax, notation, axiom, sorry.
-/
import Derived.Test.YtbimihljaalllaaDoorRows
import GoSem.ClaimSeven
namespace Go.Proofs.YtbimihljaalllaaDoor
namespace Rows

/-- THE TIED CARD OF 'laws.FnCells'. -/
def fnCellsCard : Claim7 := { stood := { row := fnCellsRow, standIns := [], harness := (true, "e5bd07201f415b509dacdfcc08207fb211978e9d5762d5e840237ec5bd7d4ecd"), looks := true }, kinds := [], alts := [], laidByText := true, laidKinds := [.handle], laidTests := true, laidLooks := .later }
def FnCellsCardSaid : Prop := Claim7.holds Tryd.pinned (.plain (OpenSpec.ofChange fnCellsSpec)) fnCellsCard

/-- THE TIED CARD OF 'laws.FnExactOpenCell'. -/
def fnExactOpenCellCard : Claim7 := { stood := { row := fnExactOpenCellRow, standIns := [], harness := (true, "e5bd07201f415b509dacdfcc08207fb211978e9d5762d5e840237ec5bd7d4ecd"), looks := true }, kinds := [], alts := [], laidByText := true, laidKinds := [.handle], laidTests := true, laidLooks := .later }
def FnExactOpenCellCardSaid : Prop := Claim7.holds Tryd.pinned (.plain (OpenSpec.ofChange fnExactOpenCellSpec)) fnExactOpenCellCard

/-- THE TIED CARD OF 'laws.FnExactFindCounter'. -/
def fnExactFindCounterCard : Claim7 := { stood := { row := fnExactFindCounterRow, standIns := [], harness := (true, "e5bd07201f415b509dacdfcc08207fb211978e9d5762d5e840237ec5bd7d4ecd"), looks := true }, kinds := [], alts := [], laidByText := true, laidKinds := [.handle], laidTests := true, laidLooks := .later }
def FnExactFindCounterCardSaid : Prop := Claim7.holds Tryd.pinned (.plain (OpenSpec.ofChange fnExactFindCounterSpec)) fnExactFindCounterCard

/-- THE TIED CARD OF 'laws.FnMailboxes'. -/
def fnMailboxesCard : Claim7 := { stood := { row := fnMailboxesRow, standIns := [], harness := (true, "e5bd07201f415b509dacdfcc08207fb211978e9d5762d5e840237ec5bd7d4ecd"), looks := true }, kinds := [], alts := [], laidByText := true, laidKinds := [.handle], laidTests := true, laidLooks := .later }
def FnMailboxesCardSaid : Prop := Claim7.holds Tryd.pinned (.plain (OpenSpec.ofChange fnMailboxesSpec)) fnMailboxesCard

/-- THE TIED CARD OF 'laws.FnExactReceiveFromMailbox'. -/
def fnExactReceiveFromMailboxCard : Claim7 := { stood := { row := fnExactReceiveFromMailboxRow, standIns := [], harness := (true, "e5bd07201f415b509dacdfcc08207fb211978e9d5762d5e840237ec5bd7d4ecd"), looks := true }, kinds := [], alts := [], laidByText := true, laidKinds := [.handle], laidTests := true, laidLooks := .later }
def FnExactReceiveFromMailboxCardSaid : Prop := Claim7.holds Tryd.pinned (.plain (OpenSpec.ofChange fnExactReceiveFromMailboxSpec)) fnExactReceiveFromMailboxCard

/-- THE SECOND FORM's CARD OF 'laws.FnCells'. -/
def fnCellsUptoCard : Claim7 := { stood := { row := fnCellsUptoRow, standIns := [], harness := (true, "e5bd07201f415b509dacdfcc08207fb211978e9d5762d5e840237ec5bd7d4ecd"), looks := true }, kinds := [], alts := [], laidByText := true, laidKinds := [.handle], laidTests := true, laidLooks := .later }
def FnCellsUptoCardSaid : Prop := Claim7.holds Tryd.pinned (.plain (OpenSpec.upto fnCellsSpec)) fnCellsUptoCard

/-- THE SECOND FORM's CARD OF 'laws.FnExactOpenCell'. -/
def fnExactOpenCellUptoCard : Claim7 := { stood := { row := fnExactOpenCellUptoRow, standIns := [], harness := (true, "e5bd07201f415b509dacdfcc08207fb211978e9d5762d5e840237ec5bd7d4ecd"), looks := true }, kinds := [], alts := [], laidByText := true, laidKinds := [.handle], laidTests := true, laidLooks := .later }
def FnExactOpenCellUptoCardSaid : Prop := Claim7.holds Tryd.pinned (.plain (OpenSpec.upto fnExactOpenCellSpec)) fnExactOpenCellUptoCard

/-- THE SECOND FORM's CARD OF 'laws.FnExactFindCounter'. -/
def fnExactFindCounterUptoCard : Claim7 := { stood := { row := fnExactFindCounterUptoRow, standIns := [], harness := (true, "e5bd07201f415b509dacdfcc08207fb211978e9d5762d5e840237ec5bd7d4ecd"), looks := true }, kinds := [], alts := [], laidByText := true, laidKinds := [.handle], laidTests := true, laidLooks := .later }
def FnExactFindCounterUptoCardSaid : Prop := Claim7.holds Tryd.pinned (.plain (OpenSpec.upto fnExactFindCounterSpec)) fnExactFindCounterUptoCard

/-- THE SECOND FORM's CARD OF 'laws.FnMailboxes'. -/
def fnMailboxesUptoCard : Claim7 := { stood := { row := fnMailboxesUptoRow, standIns := [], harness := (true, "e5bd07201f415b509dacdfcc08207fb211978e9d5762d5e840237ec5bd7d4ecd"), looks := true }, kinds := [], alts := [], laidByText := true, laidKinds := [.handle], laidTests := true, laidLooks := .later }
def FnMailboxesUptoCardSaid : Prop := Claim7.holds Tryd.pinned (.plain (OpenSpec.upto fnMailboxesSpec)) fnMailboxesUptoCard

/-- THE SECOND FORM's CARD OF 'laws.FnExactReceiveFromMailbox'. -/
def fnExactReceiveFromMailboxUptoCard : Claim7 := { stood := { row := fnExactReceiveFromMailboxUptoRow, standIns := [], harness := (true, "e5bd07201f415b509dacdfcc08207fb211978e9d5762d5e840237ec5bd7d4ecd"), looks := true }, kinds := [], alts := [], laidByText := true, laidKinds := [.handle], laidTests := true, laidLooks := .later }
def FnExactReceiveFromMailboxUptoCardSaid : Prop := Claim7.holds Tryd.pinned (.plain (OpenSpec.upto fnExactReceiveFromMailboxSpec)) fnExactReceiveFromMailboxUptoCard
end Rows
end Go.Proofs.YtbimihljaalllaaDoor
