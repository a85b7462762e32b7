/- Selections as structs: selectionOf, elements. No conditions. -/
import Derived.Test.YtckhmjdhdoomdaaRows
import Derived.Test.YtckhmjdhdoomdaaBa1
import Derived.Test.YtckhmjdhdoomdaaBaM
import Derived.Test.YtckhmjdhdoomdaaSelN
import Derived.Test.YtckhmjdhdoomdaaBa3
import Derived.Test.YtckhmjdhdoomdaaEnc
import Derived.WalkKit
import Derived.Handy
import Derived.Outline
import Derived.WalkSpells
import Derived.RegionTactic
import Derived.Deep.RegionWith
import Derived.Deep.QuietTactic
import Derived.BigQuiet
import Derived.Lib.Hide
namespace Go.Proofs.Ytckhmjdhdoomdaa
open Go Go.RowKit
set_option linter.unusedVariables false

theorem two0 (x y : Value) : (#[x, y] : Array Value)[0]? = some x := rfl
theorem two1 (x y : Value) : (#[x, y] : Array Value)[1]? = some y := rfl

end Go.Proofs.Ytckhmjdhdoomdaa
