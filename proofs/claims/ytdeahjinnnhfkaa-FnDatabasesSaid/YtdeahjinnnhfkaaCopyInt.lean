/- The helpers of the exact laws on slices of i64: a copy, whether two are equal, marks. No conditions but a length that a machine holds. -/
import Derived.Test.YtdeahjinnnhfkaaRows
import Derived.Test.YtdeahjinnnhfkaaRd
import Derived.Test.YtdeahjinnnhfkaaUpt
import Derived.Test.YtdeahjinnnhfkaaCopyByte
import Derived.WalkKit
import Derived.Handy
import Derived.Outline
import Derived.WalkSpells
import Derived.Deep.QuietTactic
import Derived.BigQuiet
import Derived.Lib.Hide
namespace Go.Proofs.Ytdeahjinnnhfkaa
open Go Go.RowKit
set_option linter.unusedVariables false

theorem infoi64 : (Try.prog.info? 3).map (fun i => (i.zero, i.size, i.bytes)) = some (some (.int .i64 0), 1, 8) := by kernel_rfl

/-- The marks from k0 on. -/
def marksInt (k0 : Int) (n : Nat) : List Int := (List.range n).map fun (i : Nat) => k0 + i

theorem marksInt_length (k0 : Int) (n : Nat) : (marksInt k0 n).length = n := by simp [marksInt]
theorem marksInt_get (k0 : Int) (n j : Nat) (hj : j < n) : (marksInt k0 n).getD j 0 = k0 + j := by
  simp [marksInt, List.getD_eq_getElem?_getD, hj]

end Go.Proofs.Ytdeahjinnnhfkaa
