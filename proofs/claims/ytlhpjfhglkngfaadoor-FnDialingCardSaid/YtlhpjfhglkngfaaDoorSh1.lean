/- Shares: how many, how long, what is joined and completed; the program's and the document's. No conditions but a size that a machine holds. -/
import Derived.Test.YtlhpjfhglkngfaaDoorShN
import Derived.Test.YtlhpjfhglkngfaaDoorBa6
import Derived.Test.YtlhpjfhglkngfaaDoorBaM
namespace Go.Proofs.YtlhpjfhglkngfaaDoor
open Go Go.RowKit
set_option linter.unusedVariables false
attribute [local irreducible] kh

/-! ### Numbers -/

theorem modV_1019 (x : Int) : modV x 1019 = x % 1019 := if_pos (by omega)

theorem fe_any {w : World} {x : Int} (hx : (Lit.int .i64 x).wf = true) : Calls Tryd.prog 33 #[.int .i64 x] w fun e w' => e = .returned (.int .i64 (x % 1019)) ∧ w' = w := by
  have hb := wf_i64 hx
  have HM := Lib.hid (modV_1019 x)
  clear hx
  go_enter Tryd.func33, Tryd.ntmps33
  go_wp2_with fail
  refine (impl_mod _ _ _ hb.1 hb.2).mono ?_
  rw [HM.out]
  obtain ⟨q, hq⟩ : ∃ q, q = x % 1019 := ⟨_, rfl⟩
  rw [← hq]
  have HQ := Lib.hid hq
  clear hq HM
  rintro e w1 ⟨rfl, hw⟩
  subst hw
  go_wp2_with fail
  go_ret
  exact ⟨rint HQ.out, rfl⟩

/-! ### Byte strings -/

end Go.Proofs.YtlhpjfhglkngfaaDoor
