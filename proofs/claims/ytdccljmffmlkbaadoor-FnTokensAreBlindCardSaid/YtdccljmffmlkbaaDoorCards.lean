/-
  DERIVED. GIVEN WITH THE SEED: THE CARDS: each row of YtdccljmffmlkbaaDoorRows.lean that lists a variable, with what it lists TIED to the program's text (the seventh form; the later family's looks); each row that meets fmt, with fmt's text TOLD by the authors' own Lean function (tested against real Go, not proved from fmt's source: count such statements apart). THE CARD IS WHAT COUNTS. Prove the row's statement (the work); the ties are given (YtdccljmffmlkbaaDoorTie.lean); close each card by the builder's one call (the guide's Derived/Test/ToyasCard.lean, 'card_holds'). Laid BY PROGRAM, IN A SANDBOX (cutbox-door.mjs). By AI agents, Wed Nov 11 2026. No macro, syntax, notation, axiom, sorry.
-/
import Derived.Test.YtdccljmffmlkbaaDoorRows
import GoSem.ClaimSeven
namespace Go.Proofs.YtdccljmffmlkbaaDoor
namespace Rows

/-- THE TIED CARD OF 'laws.FnMailboxes'. -/
def fnMailboxesCard : Claim7 := { stood := { row := fnMailboxesRow, standIns := [], harness := (true, "cb78104c48b29006d01d45c1df73b4c34edcd62a2ef56ec1b4d0ce22bf7a5d9d"), looks := true }, kinds := [], alts := [], laidByText := true, laidKinds := [.handle], laidTests := true, laidLooks := .later }
def FnMailboxesCardSaid : Prop := Claim7.holds Tryd.pinned (.plain (OpenSpec.ofChange fnMailboxesSpec)) fnMailboxesCard

/-- THE TIED CARD OF 'laws.FnGroup'. -/
def fnGroupCard : Claim7 := { stood := { row := fnGroupRow, standIns := [], harness := (true, "cb78104c48b29006d01d45c1df73b4c34edcd62a2ef56ec1b4d0ce22bf7a5d9d"), looks := true }, kinds := [], alts := [], laidByText := true, laidKinds := [.data], laidTests := true, laidLooks := .later }
def FnGroupCardSaid : Prop := Claim7.holds Tryd.pinned (.plain (OpenSpec.ofChange fnGroupSpec)) fnGroupCard

/-- THE TIED CARD OF 'laws.FnTokens'. -/
def fnTokensCard : Claim7 := { stood := { row := fnTokensRow, standIns := [], harness := (true, "cb78104c48b29006d01d45c1df73b4c34edcd62a2ef56ec1b4d0ce22bf7a5d9d"), looks := true }, kinds := [], alts := [], laidByText := true, laidKinds := [.data, .data, .data], laidTests := true, laidLooks := .later }
def FnTokensCardSaid : Prop := Claim7.holds Tryd.pinned (.plain (OpenSpec.ofChange fnTokensSpec)) fnTokensCard

/-- THE TIED CARD OF 'laws.FnTokensAreBlind'. -/
def fnTokensAreBlindCard : Claim7 := { stood := { row := fnTokensAreBlindRow, standIns := [], harness := (true, "cb78104c48b29006d01d45c1df73b4c34edcd62a2ef56ec1b4d0ce22bf7a5d9d"), looks := true }, kinds := [], alts := [], laidByText := true, laidKinds := [.data], laidTests := true, laidLooks := .later }
def FnTokensAreBlindCardSaid : Prop := Claim7.holds Tryd.pinned (.plain (OpenSpec.ofChange fnTokensAreBlindSpec)) fnTokensAreBlindCard

/-- THE TIED CARD OF 'laws.FnExactExplainRequest'. -/
def fnExactExplainRequestCard : Claim7 := { stood := { row := fnExactExplainRequestRow, standIns := [], harness := (true, "cb78104c48b29006d01d45c1df73b4c34edcd62a2ef56ec1b4d0ce22bf7a5d9d"), looks := true }, kinds := [], alts := [], laidByText := true, laidKinds := [.data], laidTests := true, laidLooks := .later }
def FnExactExplainRequestCardSaid : Prop := Claim7.holds Tryd.pinned (.plain (OpenSpec.ofChange fnExactExplainRequestSpec)) fnExactExplainRequestCard

/-- THE SECOND FORM's CARD OF 'laws.FnMailboxes'. -/
def fnMailboxesUptoCard : Claim7 := { stood := { row := fnMailboxesUptoRow, standIns := [], harness := (true, "cb78104c48b29006d01d45c1df73b4c34edcd62a2ef56ec1b4d0ce22bf7a5d9d"), looks := true }, kinds := [], alts := [], laidByText := true, laidKinds := [.handle], laidTests := true, laidLooks := .later }
def FnMailboxesUptoCardSaid : Prop := Claim7.holds Tryd.pinned (.plain (OpenSpec.upto fnMailboxesSpec)) fnMailboxesUptoCard

/-- THE SECOND FORM's CARD OF 'laws.FnGroup'. -/
def fnGroupUptoCard : Claim7 := { stood := { row := fnGroupUptoRow, standIns := [], harness := (true, "cb78104c48b29006d01d45c1df73b4c34edcd62a2ef56ec1b4d0ce22bf7a5d9d"), looks := true }, kinds := [], alts := [], laidByText := true, laidKinds := [.data], laidTests := true, laidLooks := .later }
def FnGroupUptoCardSaid : Prop := Claim7.holds Tryd.pinned (.plain (OpenSpec.upto fnGroupSpec)) fnGroupUptoCard

/-- THE SECOND FORM's CARD OF 'laws.FnTokens'. -/
def fnTokensUptoCard : Claim7 := { stood := { row := fnTokensUptoRow, standIns := [], harness := (true, "cb78104c48b29006d01d45c1df73b4c34edcd62a2ef56ec1b4d0ce22bf7a5d9d"), looks := true }, kinds := [], alts := [], laidByText := true, laidKinds := [.data, .data, .data], laidTests := true, laidLooks := .later }
def FnTokensUptoCardSaid : Prop := Claim7.holds Tryd.pinned (.plain (OpenSpec.upto fnTokensSpec)) fnTokensUptoCard

/-- THE SECOND FORM's CARD OF 'laws.FnTokensAreBlind'. -/
def fnTokensAreBlindUptoCard : Claim7 := { stood := { row := fnTokensAreBlindUptoRow, standIns := [], harness := (true, "cb78104c48b29006d01d45c1df73b4c34edcd62a2ef56ec1b4d0ce22bf7a5d9d"), looks := true }, kinds := [], alts := [], laidByText := true, laidKinds := [.data], laidTests := true, laidLooks := .later }
def FnTokensAreBlindUptoCardSaid : Prop := Claim7.holds Tryd.pinned (.plain (OpenSpec.upto fnTokensAreBlindSpec)) fnTokensAreBlindUptoCard

/-- THE SECOND FORM's CARD OF 'laws.FnExactExplainRequest'. -/
def fnExactExplainRequestUptoCard : Claim7 := { stood := { row := fnExactExplainRequestUptoRow, standIns := [], harness := (true, "cb78104c48b29006d01d45c1df73b4c34edcd62a2ef56ec1b4d0ce22bf7a5d9d"), looks := true }, kinds := [], alts := [], laidByText := true, laidKinds := [.data], laidTests := true, laidLooks := .later }
def FnExactExplainRequestUptoCardSaid : Prop := Claim7.holds Tryd.pinned (.plain (OpenSpec.upto fnExactExplainRequestSpec)) fnExactExplainRequestUptoCard
end Rows
end Go.Proofs.YtdccljmffmlkbaaDoor
