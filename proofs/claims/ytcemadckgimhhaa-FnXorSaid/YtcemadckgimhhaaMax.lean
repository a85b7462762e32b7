/- Max, the program's and the document's. No conditions. -/
import Derived.Test.YtcemadckgimhhaaRows
import Derived.Test.YtcemadckgimhhaaRd
import Derived.Test.YtcemadckgimhhaaMod
namespace Go.Proofs.Ytcemadckgimhhaa
open Go Go.RowKit
set_option linter.unusedVariables false

/-- The greater one. -/
def mx (a b : Int) : Int := if a < b then b else a
theorem mx_lt {a b : Int} (h : a < b) : mx a b = b := if_pos h
theorem mx_ge {a b : Int} (h : ¬ a < b) : mx a b = a := if_neg h

theorem spec_max (a b : Int) (w : World) :
    Calls Try.prog 14 #[.int .i64 a, .int .i64 b] w fun e w' => e = .returned (.int .i64 (mx a b)) ∧ w' = w := by
  by_cases h1 : a < b
  · have hv := Lib.hid (mx_lt h1)
    go_enter Try.func14, Try.ntmps14
    go_wp2
    go_ret
    exact ⟨rint hv.out.symm, rfl⟩
  · have hv := Lib.hid (mx_ge h1)
    go_enter Try.func14, Try.ntmps14
    go_wp2
    go_ret
    exact ⟨rint hv.out.symm, rfl⟩

end Go.Proofs.Ytcemadckgimhhaa
