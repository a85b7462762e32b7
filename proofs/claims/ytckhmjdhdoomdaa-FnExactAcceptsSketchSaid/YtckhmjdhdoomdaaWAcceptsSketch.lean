/- FnExactAcceptsSketch: the walk. No conditions. -/
import Derived.Test.YtckhmjdhdoomdaaSk1
namespace Go.Proofs.Ytckhmjdhdoomdaa
open Go Go.RowKit
set_option linter.unusedVariables false

set_option maxHeartbeats 4000000 in
set_option maxRecDepth 20000 in
theorem fnExactAcceptsSketch_walk (a0 : Int) (a1 : Int) (a2 : Int) (w : World) (w0 : (Lit.int .i64 a0).wf = true) (w1 : (Lit.int .i64 a1).wf = true) (w2 : (Lit.int .i64 a2).wf = true) :
    Calls Try.prog 9 #[.int .i64 a0, .int .i64 a1, .int .i64 a2] w fun e w' => e = .returned (.bool true) ∧ Below w.heap.size w w' := by
  have W0 := Lib.hid w0
  have w0b := wf_i64 w0
  clear w0
  have W1 := Lib.hid w1
  have w1b := wf_i64 w1
  clear w1
  have W2 := Lib.hid w2
  have w2b := wf_i64 w2
  clear w2
  have HB := Lib.hid (Below.refl w.heap.size w)
  go_enter Try.func9, Try.ntmps9
  -- ('call', 'spec', 'AcceptsSketch', [('arg', 0), ('arg', 1), ('arg', 2)], ['w0'])
  go_wp2_with fail
  refine (spec_acc W0.out W1.out W2.out).mono ?_
  rintro e w1_ ⟨he, hw⟩
  subst hw
  subst he
  -- ('call', 'impl', 'AcceptsSketch', [('arg', 0), ('arg', 1), ('arg', 2)], ['g0'])
  go_wp2_with fail
  refine (impl_acc W0.out W1.out W2.out).mono ?_
  rintro e w2_ ⟨he, hw⟩
  subst hw
  subst he
  go_wp2_with fail
  go_ret
  exact ⟨rfl, HB.out⟩

end Go.Proofs.Ytckhmjdhdoomdaa
