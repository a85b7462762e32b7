/- Whether two slices of u8 have the same elements. No conditions but a length that a machine holds. Whether two slices of i64 have the same elements. No conditions but a length that a machine holds. -/
import Derived.Test.YtlbijjifeaimjaaRows
import Derived.Test.YtlbijjifeaimjaaBa1
import Derived.Test.YtlbijjifeaimjaaBa3
import Derived.WalkKit
import Derived.Handy
import Derived.Outline
import Derived.WalkSpells
import Derived.Deep.QuietTactic
import Derived.BigQuiet
import Derived.Lib.Hide

/-! SameByte -/
namespace Go.Proofs.Ytlbijjifeaimjaa
open Go Go.RowKit
set_option linter.unusedVariables false

end Go.Proofs.Ytlbijjifeaimjaa


/-! SameInt -/
namespace Go.Proofs.Ytlbijjifeaimjaa
open Go Go.RowKit
set_option linter.unusedVariables false

end Go.Proofs.Ytlbijjifeaimjaa
