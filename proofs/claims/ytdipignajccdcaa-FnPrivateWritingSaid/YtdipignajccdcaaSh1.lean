/- Shares: how many, how long, what is joined and completed; the program's and the document's. No conditions but a size that a machine holds. -/
import Derived.Test.YtdipignajccdcaaShN
import Derived.Test.YtdipignajccdcaaBa6
import Derived.Test.YtdipignajccdcaaBaM
namespace Go.Proofs.Ytdipignajccdcaa
open Go Go.RowKit
set_option linter.unusedVariables false
attribute [local irreducible] kh

theorem count_any {w : World} {n : Int} (hn : (Lit.int .i64 n).wf = true) : Calls Try.prog 48 #[.int .i64 n] w fun e w' => e = .returned (.bool (inR n 2 4)) ∧ w' = w := by
  go_enter Try.func48, Try.ntmps48
  go_wp2_with fail
  refine (spec_in _ _ _ _ hn).mono ?_
  rintro e w1 ⟨rfl, hw⟩
  subst hw
  go_wp2_with fail
  go_ret
  exact ⟨rfl, rfl⟩

/-! ### Numbers -/

theorem modV_1019 (x : Int) : modV x 1019 = x % 1019 := if_pos (by omega)

/-! ### Byte strings -/

end Go.Proofs.Ytdipignajccdcaa
