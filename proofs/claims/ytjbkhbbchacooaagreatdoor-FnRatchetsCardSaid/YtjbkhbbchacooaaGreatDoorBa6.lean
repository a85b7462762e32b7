/- The helpers of the exact laws on slices of slices of u8: their size, a copy, whether two are equal, marks. No conditions but a size that a machine holds. The helpers of the exact laws on slices of slices of i64: their size, a copy, whether two are equal, marks. No conditions but a size that a machine holds. -/
import Derived.Test.YtjbkhbbchacooaaGreatDoorRows
import Derived.Test.YtjbkhbbchacooaaGreatDoorBa1
import Derived.Test.YtjbkhbbchacooaaGreatDoorBa3
import Derived.Test.YtjbkhbbchacooaaGreatDoorBa5
import Derived.WalkKit
import Derived.Handy
import Derived.Outline
import Derived.WalkSpells
import Derived.Deep.QuietTactic
import Derived.BigQuiet
import Derived.Lib.Hide

/-! DeepByte -/
namespace Go.Proofs.YtjbkhbbchacooaaGreatDoor
open Go Go.RowKit
set_option linter.unusedVariables false

theorem infou8s : (Tryz.prog.info? 22).map (fun i => (i.zero, i.size, i.bytes)) = some (some (.slice none 0 0), 1, 24) := by kernel_rfl

end Go.Proofs.YtjbkhbbchacooaaGreatDoor


/-! DeepInt -/
namespace Go.Proofs.YtjbkhbbchacooaaGreatDoor
open Go Go.RowKit
set_option linter.unusedVariables false

theorem infoi64s : (Tryz.prog.info? 32).map (fun i => (i.zero, i.size, i.bytes)) = some (some (.slice none 0 0), 1, 24) := by kernel_rfl

end Go.Proofs.YtjbkhbbchacooaaGreatDoor
