/- FnExactChallenge: the walk. No conditions. -/
import Derived.Test.YtckhmjdhdoomdaaSk1
namespace Go.Proofs.Ytckhmjdhdoomdaa
open Go Go.RowKit
set_option linter.unusedVariables false

set_option maxHeartbeats 4000000 in
set_option maxRecDepth 20000 in
theorem fnExactChallenge_walk (a0 : Int) (a1 : Int) (w : World) (w0 : (Lit.int .i64 a0).wf = true) (w1 : (Lit.int .i64 a1).wf = true) :
    Calls Try.prog 5 #[.int .i64 a0, .int .i64 a1] w fun e w' => e = .returned (.bool true) ∧ Below w.heap.size w w' := by
  have W0 := Lib.hid w0
  have w0b := wf_i64 w0
  clear w0
  have W1 := Lib.hid w1
  have w1b := wf_i64 w1
  clear w1
  have HB := Lib.hid (Below.refl w.heap.size w)
  go_enter Try.func5, Try.ntmps5
  -- ('call', 'spec', 'Challenge', [('arg', 0), ('arg', 1)], ['w0'])
  go_wp2_with fail
  refine (spec_ch W0.out W1.out).mono ?_
  rintro e w1_ ⟨he, hb⟩
  obtain ⟨q_w0, hq⟩ : ∃ q, q = chl a0 (wrap64 (7000 + a1)) := ⟨_, rfl⟩
  rw [← hq] at he
  have Q_w0 := Lib.hid hq
  clear hq
  subst he
  replace HB := Lib.hid (HB.out.trans (hb.mono HB.out.size))
  clear hb
  -- ('call', 'impl', 'Challenge', [('arg', 0), ('arg', 1)], ['g0'])
  go_wp2_with fail
  refine (impl_ch W0.out W1.out).mono ?_
  rintro e w2_ ⟨he, hb⟩
  rw [← Q_w0.out] at he
  subst he
  replace HB := Lib.hid (HB.out.trans (hb.mono HB.out.size))
  clear hb
  go_wp2_with fail
  go_ret
  exact ⟨rfl, HB.out⟩

end Go.Proofs.Ytckhmjdhdoomdaa
