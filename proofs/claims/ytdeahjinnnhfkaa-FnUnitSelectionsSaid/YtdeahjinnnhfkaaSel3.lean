/- XorSelections, RandomSelection, SelectXor, the program's and the document's: what each gives. No conditions but a size that a machine holds. -/
import Derived.Test.YtdeahjinnnhfkaaSel2
import Derived.Test.YtdeahjinnnhfkaaCry2
import Derived.Test.YtdeahjinnnhfkaaXor2
import Derived.Test.YtdeahjinnnhfkaaOwnV
import Derived.Deep.RegionHeld3
namespace Go.Proofs.Ytdeahjinnnhfkaa
open Go Go.RowKit
set_option linter.unusedVariables false

/-- What selectionOf gives, of any list. -/
def soR (zs : List Int) : Nat := if isel zs (zs.length : Int) = true then zs.length else 0
def soS (zs : List Int) : Nat := if isel zs (zs.length : Int) = true then bnat zs else 0
end Go.Proofs.Ytdeahjinnnhfkaa
