/-
  DERIVED. GIVEN WITH THE SEED: THE CARDS: each row of YtlhpjfhglkngfaaDoorRows.lean that lists a variable, with what it lists TIED to the program's text (the seventh form; the later family's looks); each row that meets fmt, with fmt's text TOLD by the authors' own Lean function (tested against real Go, not proved from fmt's source: count such statements apart). THE CARD IS WHAT COUNTS. Prove the row's statement (the work); the ties are given (YtlhpjfhglkngfaaDoorTie.lean); close each card by the builder's one call (the guide's Derived/Test/ToyasCard.lean, 'card_holds'). Laid BY PROGRAM, IN A SANDBOX (cutbox-door.mjs). By AI agents, Wed Nov 11 2026. No macro, syntax, notation, axiom, sorry.
-/
import Derived.Test.YtlhpjfhglkngfaaDoorRows
import GoSem.ClaimSeven
namespace Go.Proofs.YtlhpjfhglkngfaaDoor
namespace Rows

/-- THE TIED CARD OF 'laws.FnDialing'. -/
def fnDialingCard : Claim7 := { stood := { row := fnDialingRow, standIns := [], harness := (true, "5dfd7e26bbdbd9a19bcf821ea688ed8bc9466319863a450b65321443cc00a84d"), looks := true }, kinds := [], alts := [], laidByText := true, laidKinds := [.handle, .sentinel], laidTests := true, laidLooks := .later }
def FnDialingCardSaid : Prop := Claim7.holds Tryd.pinned (.plain (OpenSpec.ofChange fnDialingSpec)) fnDialingCard

/-- THE TIED CARD OF 'laws.FnExactOpenInvitation'. -/
def fnExactOpenInvitationCard : Claim7 := { stood := { row := fnExactOpenInvitationRow, standIns := [], harness := (true, "5dfd7e26bbdbd9a19bcf821ea688ed8bc9466319863a450b65321443cc00a84d"), looks := true }, kinds := [], alts := [], laidByText := true, laidKinds := [.handle, .sentinel], laidTests := true, laidLooks := .later }
def FnExactOpenInvitationCardSaid : Prop := Claim7.holds Tryd.pinned (.plain (OpenSpec.ofChange fnExactOpenInvitationSpec)) fnExactOpenInvitationCard

/-- THE SECOND FORM's CARD OF 'laws.FnDialing'. -/
def fnDialingUptoCard : Claim7 := { stood := { row := fnDialingUptoRow, standIns := [], harness := (true, "5dfd7e26bbdbd9a19bcf821ea688ed8bc9466319863a450b65321443cc00a84d"), looks := true }, kinds := [], alts := [], laidByText := true, laidKinds := [.handle, .sentinel], laidTests := true, laidLooks := .later }
def FnDialingUptoCardSaid : Prop := Claim7.holds Tryd.pinned (.plain (OpenSpec.upto fnDialingSpec)) fnDialingUptoCard

/-- THE SECOND FORM's CARD OF 'laws.FnExactOpenInvitation'. -/
def fnExactOpenInvitationUptoCard : Claim7 := { stood := { row := fnExactOpenInvitationUptoRow, standIns := [], harness := (true, "5dfd7e26bbdbd9a19bcf821ea688ed8bc9466319863a450b65321443cc00a84d"), looks := true }, kinds := [], alts := [], laidByText := true, laidKinds := [.handle, .sentinel], laidTests := true, laidLooks := .later }
def FnExactOpenInvitationUptoCardSaid : Prop := Claim7.holds Tryd.pinned (.plain (OpenSpec.upto fnExactOpenInvitationSpec)) fnExactOpenInvitationUptoCard
end Rows
end Go.Proofs.YtlhpjfhglkngfaaDoor
