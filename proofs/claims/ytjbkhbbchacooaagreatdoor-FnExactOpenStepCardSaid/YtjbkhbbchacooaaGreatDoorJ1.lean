import Derived.Test.YtjbkhbbchacooaaGreatDoorRows
import GoSem.ClaimSeven
import Derived.LaidByTextLater
import Derived.SevenTiedAt
import Derived.LaidSub
import Derived.LaidOnce

/-
  DERIVED. GIVEN WITH THE SEED: THE CARDS: each row of YtjbkhbbchacooaaGreatDoorRows.lean that lists a variable, with what it lists TIED to the program's text (the seventh form; the later family's looks); each row that meets fmt, with fmt's text TOLD by the authors' own Lean function (tested against real Go, not proved from fmt's source: count such statements apart). THE CARD IS WHAT COUNTS. Prove the row's statement (the work); the ties are given (YtjbkhbbchacooaaGreatDoorTie.lean); close each card by the builder's one call (the guide's Derived/Test/ToyasCard.lean, 'card_holds'). Laid BY PROGRAM, IN A SANDBOX (cutbox-door.mjs). By AI agents, Wed Nov 11 2026. No macro, syntax, notation, axiom, sorry.
-/
section
namespace Go.Proofs.YtjbkhbbchacooaaGreatDoor
namespace Rows

/-- THE TIED CARD OF 'laws.FnRatchets'. -/
def fnRatchetsCard : Claim7 := { stood := { row := fnRatchetsRow, standIns := [], harness := (true, "40aea762509128a8111fe17e02c030095560cde90f063708c046fb81cf8a6fe0"), looks := true }, kinds := [], alts := [], laidByText := true, laidKinds := [.handle], laidTests := true, laidLooks := .later }
def FnRatchetsCardSaid : Prop := Claim7.holds Tryz.pinned (.plain (OpenSpec.ofChange fnRatchetsSpec)) fnRatchetsCard

/-- THE TIED CARD OF 'laws.FnExactOpenStep'. -/
def fnExactOpenStepCard : Claim7 := { stood := { row := fnExactOpenStepRow, standIns := [], harness := (true, "40aea762509128a8111fe17e02c030095560cde90f063708c046fb81cf8a6fe0"), looks := true }, kinds := [], alts := [], laidByText := true, laidKinds := [.handle], laidTests := true, laidLooks := .later }
def FnExactOpenStepCardSaid : Prop := Claim7.holds Tryz.pinned (.plain (OpenSpec.ofChange fnExactOpenStepSpec)) fnExactOpenStepCard

/-- THE SECOND FORM's CARD OF 'laws.FnRatchets'. -/
def fnRatchetsUptoCard : Claim7 := { stood := { row := fnRatchetsUptoRow, standIns := [], harness := (true, "40aea762509128a8111fe17e02c030095560cde90f063708c046fb81cf8a6fe0"), looks := true }, kinds := [], alts := [], laidByText := true, laidKinds := [.handle], laidTests := true, laidLooks := .later }
def FnRatchetsUptoCardSaid : Prop := Claim7.holds Tryz.pinned (.plain (OpenSpec.upto fnRatchetsSpec)) fnRatchetsUptoCard

/-- THE SECOND FORM's CARD OF 'laws.FnExactOpenStep'. -/
def fnExactOpenStepUptoCard : Claim7 := { stood := { row := fnExactOpenStepUptoRow, standIns := [], harness := (true, "40aea762509128a8111fe17e02c030095560cde90f063708c046fb81cf8a6fe0"), looks := true }, kinds := [], alts := [], laidByText := true, laidKinds := [.handle], laidTests := true, laidLooks := .later }
def FnExactOpenStepUptoCardSaid : Prop := Claim7.holds Tryz.pinned (.plain (OpenSpec.upto fnExactOpenStepSpec)) fnExactOpenStepUptoCard
end Rows
end Go.Proofs.YtjbkhbbchacooaaGreatDoor
end

/-
  DERIVED. GIVEN WITH THE SEED: THE PROGRAM's TIES (one call each: nine closed facts by the kernel) AND EACH ROW's TIE, after the 31st guide's Derived/Test/Toyas{Tie, Card}.lean. No idea stands in it: it is a product of the set-up. Laid BY PROGRAM, IN A SANDBOX (cutbox-door.mjs). By AI agents, Wed Nov 11 2026. No macro, syntax, notation, axiom, sorry.
-/
section
namespace Go.Proofs.YtjbkhbbchacooaaGreatDoor
open Go
set_option maxRecDepth 100000
theorem seatTie1 : Tryz.prog.laidByTextLater [("errors.errorType", Rows.laid_errors_errorType)] [.handle] true :=
  Program.laidByTextLater_by_one 16 8 2 (by kernel_rfl) (by kernel_rfl) (by kernel_rfl) (by kernel_rfl) (by kernel_rfl) (by kernel_rfl) (fun _ _ => by kernel_rfl)
theorem noOwnUnsafe : Tryz.pinned.checked.prog.headLifts.contains "ownunsafe" = false := by kernel_rfl
theorem tie : Tryz.prog.laidByTextLater [("errors.errorType", Rows.laid_errors_errorType)] [.handle] true :=
  Program.laidByTextLater.sub seatTie1 ["errors.errorType"] (by kernel_rfl) (by kernel_rfl)
theorem fnRatchets_row_tie : Rows.fnRatchetsRow.laidByTextAt .later Tryz.pinned [.handle] true :=
  OpenClaim.laidByTextAt_later rfl rfl tie noOwnUnsafe
theorem fnExactOpenStep_row_tie : Rows.fnExactOpenStepRow.laidByTextAt .later Tryz.pinned [.handle] true :=
  OpenClaim.laidByTextAt_later rfl rfl tie noOwnUnsafe
theorem fnRatchetsUpto_row_tie : Rows.fnRatchetsUptoRow.laidByTextAt .later Tryz.pinned [.handle] true :=
  OpenClaim.laidByTextAt_later rfl rfl tie noOwnUnsafe
theorem fnExactOpenStepUpto_row_tie : Rows.fnExactOpenStepUptoRow.laidByTextAt .later Tryz.pinned [.handle] true :=
  OpenClaim.laidByTextAt_later rfl rfl tie noOwnUnsafe
end Go.Proofs.YtjbkhbbchacooaaGreatDoor
end
