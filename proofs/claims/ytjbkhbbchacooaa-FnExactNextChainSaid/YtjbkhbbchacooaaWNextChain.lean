/- FnExactNextChain: the walk. No conditions. -/
import Derived.Test.YtjbkhbbchacooaaRtW
import Derived.Test.YtjbkhbbchacooaaCells
import Derived.Deep.RegionHeld3
import Derived.Deep.DeepCutAuto
namespace Go.Proofs.Ytjbkhbbchacooaa
open Go Go.RowKit
set_option linter.unusedVariables false
attribute [local irreducible] kh

set_option maxHeartbeats 4000000 in
set_option maxRecDepth 100000 in
theorem fnExactNextChain_walk (a0 : Int) (w : World) (w0 : (Lit.int .i64 a0).wf = true) :
    Calls Try.prog 6 #[.int .i64 a0] w fun e w' => e = .returned (.bool true) ∧ Below w.heap.size w w' := by
  have W0 := Lib.hid w0
  have w0b := wf_i64 w0
  clear w0
  go_enter Try.func6, Try.ntmps6
  have HB := Lib.hid (Below.refl w.heap.size w)
  -- ('call', 'spec', 'NextChain', [('arg', 0)], ['w0'])
  go_wp2_with fail
  refine (spec_nx_t W0.out).mono ?_
  obtain ⟨Y0, hY0⟩ : ∃ y : Int, y = nxc a0 := ⟨_, rfl⟩
  rintro e w1_ ⟨he, hb⟩
  rw [← hY0] at he
  have HY0 := Lib.hid hY0
  clear hY0
  subst he
  replace HB := Lib.hid (HB.out.trans (hb.mono HB.out.size))
  clear hb
  -- ('call', 'impl', 'NextChain', [('arg', 0)], ['g0'])
  go_wp2_with fail
  refine (impl_nx_t W0.out).mono ?_
  rintro e w2_ ⟨he, hb⟩
  rw [← HY0.out] at he
  subst he
  replace HB := Lib.hid (HB.out.trans (hb.mono HB.out.size))
  clear hb
  go_wp2_with fail
  go_ret
  exact ⟨rfl, HB.out⟩
  
end Go.Proofs.Ytjbkhbbchacooaa
