/- The helpers of the exact laws on slices of slices of u8: their size, a copy, whether two are equal, marks. No conditions but a size that a machine holds. The helpers of the exact laws on slices of slices of i64: their size, a copy, whether two are equal, marks. No conditions but a size that a machine holds. -/
import Derived.Test.YtjbkhbbchacooaaRows
import Derived.Test.YtjbkhbbchacooaaBa1
import Derived.Test.YtjbkhbbchacooaaBa3
import Derived.Test.YtjbkhbbchacooaaBa5
import Derived.WalkKit
import Derived.Handy
import Derived.Outline
import Derived.WalkSpells
import Derived.Deep.QuietTactic
import Derived.BigQuiet
import Derived.Lib.Hide

/-! DeepByte -/
namespace Go.Proofs.Ytjbkhbbchacooaa
open Go Go.RowKit
set_option linter.unusedVariables false

theorem infou8s : (Try.prog.info? 41).map (fun i => (i.zero, i.size, i.bytes)) = some (some (.slice none 0 0), 1, 24) := by kernel_rfl

end Go.Proofs.Ytjbkhbbchacooaa


/-! DeepInt -/
namespace Go.Proofs.Ytjbkhbbchacooaa
open Go Go.RowKit
set_option linter.unusedVariables false

theorem infoi64s : (Try.prog.info? 58).map (fun i => (i.zero, i.size, i.bytes)) = some (some (.slice none 0 0), 1, 24) := by kernel_rfl

end Go.Proofs.Ytjbkhbbchacooaa
