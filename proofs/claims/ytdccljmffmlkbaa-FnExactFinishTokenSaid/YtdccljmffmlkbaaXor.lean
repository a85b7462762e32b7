/- XorBytes, the program's and the document's: what each gives. No conditions but a length that a machine holds. -/
import Derived.Test.YtdccljmffmlkbaaRows
import Derived.Test.YtdccljmffmlkbaaBa1
import Derived.Test.YtdccljmffmlkbaaBa3
import Derived.Test.YtdccljmffmlkbaaEnc
import Derived.Test.YtdccljmffmlkbaaBa8
import Derived.Test.YtdccljmffmlkbaaBa7
import Derived.Test.YtdccljmffmlkbaaBaM
import Derived.WalkKit
import Derived.Handy
import Derived.Outline
import Derived.WalkSpells
import Derived.Deep.QuietTactic
import Derived.BigQuiet
import Derived.Lib.Hide
namespace Go.Proofs.Ytdccljmffmlkbaa
open Go Go.RowKit
set_option linter.unusedVariables false

/-- The smaller one. -/
def mn (a b : Int) : Int := if b < a then b else a
theorem mn_lt {a b : Int} (h : b < a) : mn a b = b := if_pos h
theorem mn_ge {a b : Int} (h : ¬ b < a) : mn a b = a := if_neg h
theorem mn_nat (a b : Nat) : mn (a : Int) (b : Int) = ((min a b : Nat) : Int) := by unfold mn; split <;> omega

end Go.Proofs.Ytdccljmffmlkbaa
