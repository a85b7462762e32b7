/- FnExactMailboxRow: the walk. No conditions. -/
import Derived.Test.YtbimihljaalllaaMbW
import Derived.Test.YtbimihljaalllaaCells
import Derived.Deep.RegionHeld3
import Derived.Deep.DeepCutAuto
namespace Go.Proofs.Ytbimihljaalllaa
open Go Go.RowKit
set_option linter.unusedVariables false
attribute [local irreducible] kh

set_option maxHeartbeats 4000000 in
set_option maxRecDepth 100000 in
theorem fnExactMailboxRow_walk (a0 : Int) (a1 : Int) (a2 : Int) (a3 : Int) (w : World) (w0 : (Lit.int .i64 a0).wf = true) (w1 : (Lit.int .i64 a1).wf = true) (w2 : (Lit.int .i64 a2).wf = true) (w3 : (Lit.int .i64 a3).wf = true) :
    Calls Try.prog 4 #[.int .i64 a0, .int .i64 a1, .int .i64 a2, .int .i64 a3] w fun e w' => e = .returned (.bool true) ∧ Below w.heap.size w w' := by
  have W0 := Lib.hid w0
  have w0b := wf_i64 w0
  clear w0
  have W1 := Lib.hid w1
  have w1b := wf_i64 w1
  clear w1
  have W2 := Lib.hid w2
  have w2b := wf_i64 w2
  clear w2
  have W3 := Lib.hid w3
  have w3b := wf_i64 w3
  clear w3
  go_enter Try.func4, Try.ntmps4
  have HB := Lib.hid (Below.refl w.heap.size w)
  -- ('call', 'spec', 'MailboxRow', [('arg', 0), ('arg', 1), ('arg', 2), ('arg', 3)], ['w0'])
  go_wp2_with fail
  refine (spec_mrow_t W0.out W1.out W2.out W3.out).mono ?_
  obtain ⟨Y0, hY0⟩ : ∃ y : Int, y = mrow a0 a1 a2 a3 := ⟨_, rfl⟩
  rintro e w1_ ⟨he, hb⟩
  rw [← hY0] at he
  have HY0 := Lib.hid hY0
  clear hY0
  subst he
  replace HB := Lib.hid (HB.out.trans (hb.mono HB.out.size))
  clear hb
  -- ('call', 'impl', 'MailboxRow', [('arg', 0), ('arg', 1), ('arg', 2), ('arg', 3)], ['g0'])
  go_wp2_with fail
  refine (impl_mrow_t W0.out W1.out W2.out W3.out).mono ?_
  rintro e w2_ ⟨he, hb⟩
  rw [← HY0.out] at he
  subst he
  replace HB := Lib.hid (HB.out.trans (hb.mono HB.out.size))
  clear hb
  go_wp2_with fail
  go_ret
  exact ⟨rfl, HB.out⟩
  
end Go.Proofs.Ytbimihljaalllaa
