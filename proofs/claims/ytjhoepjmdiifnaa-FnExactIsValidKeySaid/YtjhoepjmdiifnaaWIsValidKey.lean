/- FnExactIsValidKey: the walk. No conditions. -/
import Derived.Test.YtjhoepjmdiifnaaCry6
import Derived.Test.YtjhoepjmdiifnaaEqInt
import Derived.Test.YtjhoepjmdiifnaaCopyByte
import Derived.Test.YtjhoepjmdiifnaaCopyInt
namespace Go.Proofs.Ytjhoepjmdiifnaa
open Go Go.RowKit
set_option linter.unusedVariables false

set_option maxHeartbeats 4000000 in
set_option maxRecDepth 20000 in
theorem fnExactIsValidKey_walk (a0 : Int) (w : World) (w0 : (Lit.int .i64 a0).wf = true) :
    Calls Try.prog 7 #[.int .i64 a0] w fun e w' => e = .returned (.bool true) ∧ Below w.heap.size w w' := by
  have W0 := Lib.hid w0
  have w0b := wf_i64 w0
  clear w0
  have HB := Lib.hid (Below.refl w.heap.size w)
  go_enter Try.func7, Try.ntmps7
  -- ('call', 'spec', 'IsValidKey', [('arg', 0)], ['w0'])
  go_wp2_with fail
  refine (spec_vk W0.out).mono ?_
  rintro e w1_ ⟨he, hw⟩
  subst hw
  subst he
  -- ('call', 'impl', 'IsValidKey', [('arg', 0)], ['g0'])
  go_wp2_with fail
  refine (impl_vk W0.out).mono ?_
  rintro e w2_ ⟨he, hw⟩
  subst hw
  subst he
  go_wp2_with fail
  go_ret
  exact ⟨rfl, HB.out⟩

end Go.Proofs.Ytjhoepjmdiifnaa
