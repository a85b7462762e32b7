/-
  DERIVED. GIVEN WITH THE SEED: THE CARDS: each row of YteallhmjjppghaaDoorRows.lean that lists a variable, with what it lists TIED to the program's text (the seventh form; the later family's looks); each row that meets fmt, with fmt's text TOLD by the authors' own Lean function (tested against real Go, not proved from fmt's source: count such statements apart). THE CARD IS WHAT COUNTS. Prove the row's statement (the work); the ties are given (YteallhmjjppghaaDoorTie.lean); close each card by the builder's one call (the guide's Derived/Test/ToyasCard.lean, 'card_holds'). Laid BY PROGRAM, IN A SANDBOX (cutbox-door.mjs). By AI agents, Wed Nov 11 2026. No macro, syntax, notation, axiom, sorry.
-/
import Derived.Test.YteallhmjjppghaaDoorRows
import GoSem.ClaimSeven
namespace Go.Proofs.YteallhmjjppghaaDoor
namespace Rows

/-- THE TIED CARD OF 'laws.FnGroup'. -/
def fnGroupCard : Claim7 := { stood := { row := fnGroupRow, standIns := [], harness := (true, "1f4ec10bf975a91632fbec9698887e06057e9bfb11b83e35b4bcce161f381a50"), looks := false }, kinds := [], alts := [], laidByText := true, laidKinds := [.data], laidTests := true, laidLooks := .later }
def FnGroupCardSaid : Prop := Claim7.holds Tryd.pinned (.plain (OpenSpec.ofChange fnGroupSpec)) fnGroupCard

/-- THE TIED CARD OF 'laws.FnExactDiscreteLog'. -/
def fnExactDiscreteLogCard : Claim7 := { stood := { row := fnExactDiscreteLogRow, standIns := [], harness := (true, "1f4ec10bf975a91632fbec9698887e06057e9bfb11b83e35b4bcce161f381a50"), looks := false }, kinds := [], alts := [], laidByText := true, laidKinds := [.data], laidTests := true, laidLooks := .later }
def FnExactDiscreteLogCardSaid : Prop := Claim7.holds Tryd.pinned (.plain (OpenSpec.ofChange fnExactDiscreteLogSpec)) fnExactDiscreteLogCard

/-- THE SECOND FORM's CARD OF 'laws.FnGroup'. -/
def fnGroupUptoCard : Claim7 := { stood := { row := fnGroupUptoRow, standIns := [], harness := (true, "1f4ec10bf975a91632fbec9698887e06057e9bfb11b83e35b4bcce161f381a50"), looks := false }, kinds := [], alts := [], laidByText := true, laidKinds := [.data], laidTests := true, laidLooks := .later }
def FnGroupUptoCardSaid : Prop := Claim7.holds Tryd.pinned (.plain (OpenSpec.upto fnGroupSpec)) fnGroupUptoCard

/-- THE SECOND FORM's CARD OF 'laws.FnExactDiscreteLog'. -/
def fnExactDiscreteLogUptoCard : Claim7 := { stood := { row := fnExactDiscreteLogUptoRow, standIns := [], harness := (true, "1f4ec10bf975a91632fbec9698887e06057e9bfb11b83e35b4bcce161f381a50"), looks := false }, kinds := [], alts := [], laidByText := true, laidKinds := [.data], laidTests := true, laidLooks := .later }
def FnExactDiscreteLogUptoCardSaid : Prop := Claim7.holds Tryd.pinned (.plain (OpenSpec.upto fnExactDiscreteLogSpec)) fnExactDiscreteLogUptoCard
end Rows
end Go.Proofs.YteallhmjjppghaaDoor
