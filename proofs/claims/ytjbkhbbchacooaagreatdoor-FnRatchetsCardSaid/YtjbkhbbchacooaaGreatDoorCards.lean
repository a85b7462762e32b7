/-
  DERIVED. GIVEN WITH THE SEED: THE CARDS: each row of YtjbkhbbchacooaaGreatDoorRows.lean that lists a variable, with what it lists TIED to the program's text (the seventh form; the later family's looks); each row that meets fmt, with fmt's text TOLD by the authors' own Lean function (tested against real Go, not proved from fmt's source: count such statements apart). THE CARD IS WHAT COUNTS. Prove the row's statement (the work); the ties are given (YtjbkhbbchacooaaGreatDoorTie.lean); close each card by the builder's one call (the guide's Derived/Test/ToyasCard.lean, 'card_holds'). Laid BY PROGRAM, IN A SANDBOX (cutbox-door.mjs). By AI agents, Wed Nov 11 2026. No macro, syntax, notation, axiom, sorry.
-/
import Derived.Test.YtjbkhbbchacooaaGreatDoorRows
import GoSem.ClaimSeven
namespace Go.Proofs.YtjbkhbbchacooaaGreatDoor
namespace Rows

/-- THE TIED CARD OF 'laws.FnRatchets'. -/
def fnRatchetsCard : Claim7 := { stood := { row := fnRatchetsRow, standIns := [], harness := (true, "40aea762509128a8111fe17e02c030095560cde90f063708c046fb81cf8a6fe0"), looks := true }, kinds := [], alts := [], laidByText := true, laidKinds := [.handle], laidTests := true, laidLooks := .later }
def FnRatchetsCardSaid : Prop := Claim7.holds Tryz.pinned (.plain (OpenSpec.ofChange fnRatchetsSpec)) fnRatchetsCard

/-- THE TIED CARD OF 'laws.FnExactOpenStep'. -/
def fnExactOpenStepCard : Claim7 := { stood := { row := fnExactOpenStepRow, standIns := [], harness := (true, "40aea762509128a8111fe17e02c030095560cde90f063708c046fb81cf8a6fe0"), looks := true }, kinds := [], alts := [], laidByText := true, laidKinds := [.handle], laidTests := true, laidLooks := .later }
def FnExactOpenStepCardSaid : Prop := Claim7.holds Tryz.pinned (.plain (OpenSpec.ofChange fnExactOpenStepSpec)) fnExactOpenStepCard

/-- THE SECOND FORM's CARD OF 'laws.FnRatchets'. -/
def fnRatchetsUptoCard : Claim7 := { stood := { row := fnRatchetsUptoRow, standIns := [], harness := (true, "40aea762509128a8111fe17e02c030095560cde90f063708c046fb81cf8a6fe0"), looks := true }, kinds := [], alts := [], laidByText := true, laidKinds := [.handle], laidTests := true, laidLooks := .later }
def FnRatchetsUptoCardSaid : Prop := Claim7.holds Tryz.pinned (.plain (OpenSpec.upto fnRatchetsSpec)) fnRatchetsUptoCard

/-- THE SECOND FORM's CARD OF 'laws.FnExactOpenStep'. -/
def fnExactOpenStepUptoCard : Claim7 := { stood := { row := fnExactOpenStepUptoRow, standIns := [], harness := (true, "40aea762509128a8111fe17e02c030095560cde90f063708c046fb81cf8a6fe0"), looks := true }, kinds := [], alts := [], laidByText := true, laidKinds := [.handle], laidTests := true, laidLooks := .later }
def FnExactOpenStepUptoCardSaid : Prop := Claim7.holds Tryz.pinned (.plain (OpenSpec.upto fnExactOpenStepSpec)) fnExactOpenStepUptoCard
end Rows
end Go.Proofs.YtjbkhbbchacooaaGreatDoor
