/-
  DERIVED. GIVEN WITH THE SEED: THE CARDS: each row of YtpjogbfeinpgcaaDoorRows.lean that lists a variable, with what it lists TIED to the program's text (the seventh form; the later family's looks); each row that meets fmt, with fmt's text TOLD by the authors' own Lean function (tested against real Go, not proved from fmt's source: count such statements apart). THE CARD IS WHAT COUNTS. Prove the row's statement (the work); the ties are given (YtpjogbfeinpgcaaDoorTie.lean); close each card by the builder's one call (the guide's Derived/Test/ToyasCard.lean, 'card_holds'). Laid BY PROGRAM, IN A SANDBOX (cutbox-door.mjs). By AI agents, Wed Nov 11 2026. No macro, syntax, notation, axiom, sorry.
-/
import Derived.Test.YtpjogbfeinpgcaaDoorRows
import GoSem.ClaimSeven
namespace Go.Proofs.YtpjogbfeinpgcaaDoor
namespace Rows

/-- THE TIED CARD OF 'laws.FnCells'. -/
def fnCellsCard : Claim7 := { stood := { row := fnCellsRow, standIns := [], harness := (true, "a244793632cadddff75a2a3c389d20b4f51c76383ed5dec8d820031bbdc2aab0"), looks := true }, kinds := [], alts := [], laidByText := true, laidKinds := [.handle], laidTests := true, laidLooks := .later }
def FnCellsCardSaid : Prop := Claim7.holds Tryd.pinned (.plain (OpenSpec.ofChange fnCellsSpec)) fnCellsCard

/-- THE TIED CARD OF 'laws.FnExactOpenCell'. -/
def fnExactOpenCellCard : Claim7 := { stood := { row := fnExactOpenCellRow, standIns := [], harness := (true, "a244793632cadddff75a2a3c389d20b4f51c76383ed5dec8d820031bbdc2aab0"), looks := true }, kinds := [], alts := [], laidByText := true, laidKinds := [.handle], laidTests := true, laidLooks := .later }
def FnExactOpenCellCardSaid : Prop := Claim7.holds Tryd.pinned (.plain (OpenSpec.ofChange fnExactOpenCellSpec)) fnExactOpenCellCard

/-- THE TIED CARD OF 'laws.FnExactFindCounter'. -/
def fnExactFindCounterCard : Claim7 := { stood := { row := fnExactFindCounterRow, standIns := [], harness := (true, "a244793632cadddff75a2a3c389d20b4f51c76383ed5dec8d820031bbdc2aab0"), looks := true }, kinds := [], alts := [], laidByText := true, laidKinds := [.handle], laidTests := true, laidLooks := .later }
def FnExactFindCounterCardSaid : Prop := Claim7.holds Tryd.pinned (.plain (OpenSpec.ofChange fnExactFindCounterSpec)) fnExactFindCounterCard

/-- THE SECOND FORM's CARD OF 'laws.FnCells'. -/
def fnCellsUptoCard : Claim7 := { stood := { row := fnCellsUptoRow, standIns := [], harness := (true, "a244793632cadddff75a2a3c389d20b4f51c76383ed5dec8d820031bbdc2aab0"), looks := true }, kinds := [], alts := [], laidByText := true, laidKinds := [.handle], laidTests := true, laidLooks := .later }
def FnCellsUptoCardSaid : Prop := Claim7.holds Tryd.pinned (.plain (OpenSpec.upto fnCellsSpec)) fnCellsUptoCard

/-- THE SECOND FORM's CARD OF 'laws.FnExactOpenCell'. -/
def fnExactOpenCellUptoCard : Claim7 := { stood := { row := fnExactOpenCellUptoRow, standIns := [], harness := (true, "a244793632cadddff75a2a3c389d20b4f51c76383ed5dec8d820031bbdc2aab0"), looks := true }, kinds := [], alts := [], laidByText := true, laidKinds := [.handle], laidTests := true, laidLooks := .later }
def FnExactOpenCellUptoCardSaid : Prop := Claim7.holds Tryd.pinned (.plain (OpenSpec.upto fnExactOpenCellSpec)) fnExactOpenCellUptoCard

/-- THE SECOND FORM's CARD OF 'laws.FnExactFindCounter'. -/
def fnExactFindCounterUptoCard : Claim7 := { stood := { row := fnExactFindCounterUptoRow, standIns := [], harness := (true, "a244793632cadddff75a2a3c389d20b4f51c76383ed5dec8d820031bbdc2aab0"), looks := true }, kinds := [], alts := [], laidByText := true, laidKinds := [.handle], laidTests := true, laidLooks := .later }
def FnExactFindCounterUptoCardSaid : Prop := Claim7.holds Tryd.pinned (.plain (OpenSpec.upto fnExactFindCounterSpec)) fnExactFindCounterUptoCard
end Rows
end Go.Proofs.YtpjogbfeinpgcaaDoor
