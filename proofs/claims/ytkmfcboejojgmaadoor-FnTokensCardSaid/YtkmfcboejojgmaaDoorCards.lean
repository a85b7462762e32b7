/-
  DERIVED. GIVEN WITH THE SEED: THE CARDS: each row of YtkmfcboejojgmaaDoorRows.lean that lists a variable, with what it lists TIED to the program's text (the seventh form; the later family's looks); each row that meets fmt, with fmt's text TOLD by the authors' own Lean function (tested against real Go, not proved from fmt's source: count such statements apart). THE CARD IS WHAT COUNTS. Prove the row's statement (the work); the ties are given (YtkmfcboejojgmaaDoorTie.lean); close each card by the builder's one call (the guide's Derived/Test/ToyasCard.lean, 'card_holds'). Laid BY PROGRAM, IN A SANDBOX (cutbox-door.mjs). By AI agents, Wed Nov 11 2026. No macro, syntax, notation, axiom, sorry.
-/
import Derived.Test.YtkmfcboejojgmaaDoorRows
import GoSem.ClaimSeven
namespace Go.Proofs.YtkmfcboejojgmaaDoor
namespace Rows

/-- THE TIED CARD OF 'laws.FnTokens'. -/
def fnTokensCard : Claim7 := { stood := { row := fnTokensRow, standIns := [], harness := (true, "66228a3fb879a4aebe2c68f7ba5b6b978afd0e767b3ed8c7b4ee8755497f0b65"), looks := false }, kinds := [], alts := [], laidByText := true, laidKinds := [.data, .data, .data], laidTests := true, laidLooks := .later }
def FnTokensCardSaid : Prop := Claim7.holds Tryd.pinned (.plain (OpenSpec.ofChange fnTokensSpec)) fnTokensCard

/-- THE TIED CARD OF 'laws.FnTokensAreBlind'. -/
def fnTokensAreBlindCard : Claim7 := { stood := { row := fnTokensAreBlindRow, standIns := [], harness := (true, "66228a3fb879a4aebe2c68f7ba5b6b978afd0e767b3ed8c7b4ee8755497f0b65"), looks := false }, kinds := [], alts := [], laidByText := true, laidKinds := [.data], laidTests := true, laidLooks := .later }
def FnTokensAreBlindCardSaid : Prop := Claim7.holds Tryd.pinned (.plain (OpenSpec.ofChange fnTokensAreBlindSpec)) fnTokensAreBlindCard

/-- THE TIED CARD OF 'laws.FnExactExplainRequest'. -/
def fnExactExplainRequestCard : Claim7 := { stood := { row := fnExactExplainRequestRow, standIns := [], harness := (true, "66228a3fb879a4aebe2c68f7ba5b6b978afd0e767b3ed8c7b4ee8755497f0b65"), looks := false }, kinds := [], alts := [], laidByText := true, laidKinds := [.data], laidTests := true, laidLooks := .later }
def FnExactExplainRequestCardSaid : Prop := Claim7.holds Tryd.pinned (.plain (OpenSpec.ofChange fnExactExplainRequestSpec)) fnExactExplainRequestCard

/-- THE TIED CARD OF 'laws.FnExactFormatToken'. -/
def fnExactFormatTokenCard : Claim7 := { stood := { row := fnExactFormatTokenRow, standIns := [], harness := (true, "66228a3fb879a4aebe2c68f7ba5b6b978afd0e767b3ed8c7b4ee8755497f0b65"), looks := false }, kinds := [], alts := [], laidByText := true, laidKinds := [.data, .data, .data], laidTests := true, laidLooks := .later }
def FnExactFormatTokenCardSaid : Prop := Claim7.holds Tryd.pinned (.plain (OpenSpec.ofChange fnExactFormatTokenSpec)) fnExactFormatTokenCard

/-- THE SECOND FORM's CARD OF 'laws.FnTokens'. -/
def fnTokensUptoCard : Claim7 := { stood := { row := fnTokensUptoRow, standIns := [], harness := (true, "66228a3fb879a4aebe2c68f7ba5b6b978afd0e767b3ed8c7b4ee8755497f0b65"), looks := false }, kinds := [], alts := [], laidByText := true, laidKinds := [.data, .data, .data], laidTests := true, laidLooks := .later }
def FnTokensUptoCardSaid : Prop := Claim7.holds Tryd.pinned (.plain (OpenSpec.upto fnTokensSpec)) fnTokensUptoCard

/-- THE SECOND FORM's CARD OF 'laws.FnTokensAreBlind'. -/
def fnTokensAreBlindUptoCard : Claim7 := { stood := { row := fnTokensAreBlindUptoRow, standIns := [], harness := (true, "66228a3fb879a4aebe2c68f7ba5b6b978afd0e767b3ed8c7b4ee8755497f0b65"), looks := false }, kinds := [], alts := [], laidByText := true, laidKinds := [.data], laidTests := true, laidLooks := .later }
def FnTokensAreBlindUptoCardSaid : Prop := Claim7.holds Tryd.pinned (.plain (OpenSpec.upto fnTokensAreBlindSpec)) fnTokensAreBlindUptoCard

/-- THE SECOND FORM's CARD OF 'laws.FnExactExplainRequest'. -/
def fnExactExplainRequestUptoCard : Claim7 := { stood := { row := fnExactExplainRequestUptoRow, standIns := [], harness := (true, "66228a3fb879a4aebe2c68f7ba5b6b978afd0e767b3ed8c7b4ee8755497f0b65"), looks := false }, kinds := [], alts := [], laidByText := true, laidKinds := [.data], laidTests := true, laidLooks := .later }
def FnExactExplainRequestUptoCardSaid : Prop := Claim7.holds Tryd.pinned (.plain (OpenSpec.upto fnExactExplainRequestSpec)) fnExactExplainRequestUptoCard

/-- THE SECOND FORM's CARD OF 'laws.FnExactFormatToken'. -/
def fnExactFormatTokenUptoCard : Claim7 := { stood := { row := fnExactFormatTokenUptoRow, standIns := [], harness := (true, "66228a3fb879a4aebe2c68f7ba5b6b978afd0e767b3ed8c7b4ee8755497f0b65"), looks := false }, kinds := [], alts := [], laidByText := true, laidKinds := [.data, .data, .data], laidTests := true, laidLooks := .later }
def FnExactFormatTokenUptoCardSaid : Prop := Claim7.holds Tryd.pinned (.plain (OpenSpec.upto fnExactFormatTokenSpec)) fnExactFormatTokenUptoCard
end Rows
end Go.Proofs.YtkmfcboejojgmaaDoor
