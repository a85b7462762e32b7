/- FnExactLeafSeed: the walk. No conditions. -/
import Derived.Test.YtihhnginnmfoiaaTre2
namespace Go.Proofs.Ytihhnginnmfoiaa
open Go Go.RowKit
set_option linter.unusedVariables false

set_option maxHeartbeats 4000000 in
set_option maxRecDepth 20000 in
theorem fnExactLeafSeed_walk (a0 : Int) (a1 : Int) (a2 : Int) (w : World) (w0 : (Lit.int .i64 a0).wf = true) (w1 : (Lit.int .i64 a1).wf = true) (w2 : (Lit.int .i64 a2).wf = true) :
    Calls Try.prog 6 #[.int .i64 a0, .int .i64 a1, .int .i64 a2] w fun e w' => e = .returned (.bool true) ∧ Below w.heap.size w w' := by
  have W0 := Lib.hid w0
  have w0b := wf_i64 w0
  clear w0
  have W1 := Lib.hid w1
  have w1b := wf_i64 w1
  clear w1
  have W2 := Lib.hid w2
  have w2b := wf_i64 w2
  clear w2
  have HB := Lib.hid (Below.refl w.heap.size w)
  go_enter Try.func6, Try.ntmps6
  -- ('call', 'spec', 'LeafSeed', [('arg', 0), ('arg', 1), ('arg', 2)], ['w0'])
  go_wp2_with fail
  refine (spec_ls W0.out W1.out W2.out).mono ?_
  rintro e w1_ ⟨he, hb⟩
  obtain ⟨q_w0, hq⟩ : ∃ q, q = lseed a0 a1 a2 := ⟨_, rfl⟩
  rw [← hq] at he
  have Q_w0 := Lib.hid hq
  clear hq
  subst he
  replace HB := Lib.hid (HB.out.trans (hb.mono HB.out.size))
  clear hb
  -- ('call', 'impl', 'LeafSeed', [('arg', 0), ('arg', 1), ('arg', 2)], ['g0'])
  go_wp2_with fail
  refine (impl_ls W0.out W1.out W2.out).mono ?_
  rintro e w2_ ⟨he, hb⟩
  rw [← Q_w0.out] at he
  subst he
  replace HB := Lib.hid (HB.out.trans (hb.mono HB.out.size))
  clear hb
  go_wp2_with fail
  go_ret
  exact ⟨rfl, HB.out⟩

end Go.Proofs.Ytihhnginnmfoiaa
