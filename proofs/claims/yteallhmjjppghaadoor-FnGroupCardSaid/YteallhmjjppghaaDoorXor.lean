/- XorBytes, the program's and the document's: what each gives. No conditions but a length that a machine holds. -/
import Derived.Test.YteallhmjjppghaaDoorRows
import Derived.Test.YteallhmjjppghaaDoorBa1
import Derived.Test.YteallhmjjppghaaDoorBa3
import Derived.Test.YteallhmjjppghaaDoorEnc
import Derived.Test.YteallhmjjppghaaDoorBa8
import Derived.Test.YteallhmjjppghaaDoorBa7
import Derived.Test.YteallhmjjppghaaDoorBaM
import Derived.WalkKit
import Derived.Handy
import Derived.Outline
import Derived.WalkSpells
import Derived.Deep.QuietTactic
import Derived.BigQuiet
import Derived.Lib.Hide
namespace Go.Proofs.YteallhmjjppghaaDoor
open Go Go.RowKit
set_option linter.unusedVariables false

/-- The smaller one. -/
def mn (a b : Int) : Int := if b < a then b else a
theorem mn_lt {a b : Int} (h : b < a) : mn a b = b := if_pos h
theorem mn_ge {a b : Int} (h : ¬ b < a) : mn a b = a := if_neg h
theorem mn_nat (a b : Nat) : mn (a : Int) (b : Int) = ((min a b : Nat) : Int) := by unfold mn; split <;> omega

end Go.Proofs.YteallhmjjppghaaDoor
