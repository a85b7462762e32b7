/- FnPointReading: the walk. No conditions. -/
import Derived.Test.YtaekjnacigicoaaPkR
import Derived.Test.YtaekjnacigicoaaPkW
import Derived.Test.YtaekjnacigicoaaCells
import Derived.Test.YtaekjnacigicoaaBaD
import Derived.Test.YtaekjnacigicoaaBa4
import Derived.Test.YtaekjnacigicoaaDb2
import Derived.Test.YtaekjnacigicoaaQu5
import Derived.Test.YtaekjnacigicoaaQu6
import Derived.Deep.RegionHeld3
namespace Go.Proofs.Ytaekjnacigicoaa
open Go Go.RowKit
set_option linter.unusedVariables false
attribute [local irreducible] kh

end Go.Proofs.Ytaekjnacigicoaa
