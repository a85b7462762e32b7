/- The laws' helpers on []byte, []int, [][]byte, [][]int, in the words of BaT. No conditions but a size that a machine holds. -/
import Derived.Test.YtlbijjifeaimjaaBbT
import Derived.Test.YtlbijjifeaimjaaBa3
import Derived.Test.YtlbijjifeaimjaaBa4
import Derived.Test.YtlbijjifeaimjaaBa6
namespace Go.Proofs.Ytlbijjifeaimjaa
open Go Go.RowKit
set_option linter.unusedVariables false

section
variable {F : Nat → Prop} {w : World} {u v : Value} {zs : List Int} {zss : List (List Int)} {l l1 l2 : Nat} {e e1 e2 t t1 t2 : TypeId} {k0 left : Int}

/-! ### []byte -/

/-! ### []int -/

/-! ### [][]byte -/

/-! ### [][]int -/

end

end Go.Proofs.Ytlbijjifeaimjaa
