/- The helpers of the exact laws on slices of slices of u8: their size, a copy, whether two are equal, marks. No conditions but a size that a machine holds. The helpers of the exact laws on slices of slices of i64: their size, a copy, whether two are equal, marks. No conditions but a size that a machine holds. -/
import Derived.Test.YtgobhaemcmmbgaaRows
import Derived.Test.YtgobhaemcmmbgaaBa1
import Derived.Test.YtgobhaemcmmbgaaBa3
import Derived.Test.YtgobhaemcmmbgaaBa5
import Derived.WalkKit
import Derived.Handy
import Derived.Outline
import Derived.WalkSpells
import Derived.Deep.QuietTactic
import Derived.BigQuiet
import Derived.Lib.Hide

/-! DeepByte -/
namespace Go.Proofs.Ytgobhaemcmmbgaa
open Go Go.RowKit
set_option linter.unusedVariables false

theorem infou8s : (Try.prog.info? 30).map (fun i => (i.zero, i.size, i.bytes)) = some (some (.slice none 0 0), 1, 24) := by kernel_rfl

end Go.Proofs.Ytgobhaemcmmbgaa


/-! DeepInt -/
namespace Go.Proofs.Ytgobhaemcmmbgaa
open Go Go.RowKit
set_option linter.unusedVariables false

theorem infoi64s : (Try.prog.info? 40).map (fun i => (i.zero, i.size, i.bytes)) = some (some (.slice none 0 0), 1, 24) := by kernel_rfl

end Go.Proofs.Ytgobhaemcmmbgaa
