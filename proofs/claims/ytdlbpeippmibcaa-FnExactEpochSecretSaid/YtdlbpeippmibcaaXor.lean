/- XorBytes, the program's and the document's: what each gives. No conditions but a length that a machine holds. -/
import Derived.Test.YtdlbpeippmibcaaRows
import Derived.Test.YtdlbpeippmibcaaBa1
import Derived.Test.YtdlbpeippmibcaaBa3
import Derived.Test.YtdlbpeippmibcaaEnc
import Derived.Test.YtdlbpeippmibcaaBa8
import Derived.Test.YtdlbpeippmibcaaBa7
import Derived.Test.YtdlbpeippmibcaaBaM
import Derived.WalkKit
import Derived.Handy
import Derived.Outline
import Derived.WalkSpells
import Derived.Deep.QuietTactic
import Derived.BigQuiet
import Derived.Lib.Hide
namespace Go.Proofs.Ytdlbpeippmibcaa
open Go Go.RowKit
set_option linter.unusedVariables false

/-- The smaller one. -/
def mn (a b : Int) : Int := if b < a then b else a
theorem mn_lt {a b : Int} (h : b < a) : mn a b = b := if_pos h
theorem mn_ge {a b : Int} (h : ¬ b < a) : mn a b = a := if_neg h
theorem mn_nat (a b : Nat) : mn (a : Int) (b : Int) = ((min a b : Nat) : Int) := by unfold mn; split <;> omega

theorem spec_mn (a b : Int) (w : World) :
    Calls Try.prog 27 #[.int .i64 a, .int .i64 b] w fun e w' => e = .returned (.int .i64 (mn a b)) ∧ w' = w := by
  by_cases h1 : b < a
  · have hv := Lib.hid (mn_lt h1)
    go_enter Try.func27, Try.ntmps27
    go_wp2
    go_ret
    exact ⟨rint hv.out.symm, rfl⟩
  · have hv := Lib.hid (mn_ge h1)
    go_enter Try.func27, Try.ntmps27
    go_wp2
    go_ret
    exact ⟨rint hv.out.symm, rfl⟩

end Go.Proofs.Ytdlbpeippmibcaa
