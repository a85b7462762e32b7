/- Whether two slices of i64 have the same elements. No conditions but a length that a machine holds. -/
import Derived.Test.YtjhoepjmdiifnaaRows
import Derived.Test.YtjhoepjmdiifnaaRd
import Derived.Test.YtjhoepjmdiifnaaUpt
import Derived.Test.YtjhoepjmdiifnaaCopyInt
import Derived.WalkKit
import Derived.Handy
import Derived.Outline
import Derived.WalkSpells
import Derived.Deep.QuietTactic
import Derived.BigQuiet
import Derived.Lib.Hide
namespace Go.Proofs.Ytjhoepjmdiifnaa
open Go Go.RowKit
set_option linter.unusedVariables false

end Go.Proofs.Ytjhoepjmdiifnaa
