/- The helpers of the exact laws on slices of slices of u8: their size, a copy, whether two are equal, marks. No conditions but a size that a machine holds. The helpers of the exact laws on slices of slices of i64: their size, a copy, whether two are equal, marks. No conditions but a size that a machine holds. -/
import Derived.Test.YtlbijjifeaimjaaRows
import Derived.Test.YtlbijjifeaimjaaBa1
import Derived.Test.YtlbijjifeaimjaaBa3
import Derived.Test.YtlbijjifeaimjaaBa5
import Derived.WalkKit
import Derived.Handy
import Derived.Outline
import Derived.WalkSpells
import Derived.Deep.QuietTactic
import Derived.BigQuiet
import Derived.Lib.Hide

/-! DeepByte -/
namespace Go.Proofs.Ytlbijjifeaimjaa
open Go Go.RowKit
set_option linter.unusedVariables false

theorem infou8s : (Try.prog.info? 22).map (fun i => (i.zero, i.size, i.bytes)) = some (some (.slice none 0 0), 1, 24) := by kernel_rfl

end Go.Proofs.Ytlbijjifeaimjaa


/-! DeepInt -/
namespace Go.Proofs.Ytlbijjifeaimjaa
open Go Go.RowKit
set_option linter.unusedVariables false

theorem infoi64s : (Try.prog.info? 55).map (fun i => (i.zero, i.size, i.bytes)) = some (some (.slice none 0 0), 1, 24) := by kernel_rfl

end Go.Proofs.Ytlbijjifeaimjaa
