/- FnExactDeriveFromString: the walk. No conditions. -/
import Derived.Test.YtjhoepjmdiifnaaCry6
import Derived.Test.YtjhoepjmdiifnaaEqInt
import Derived.Test.YtjhoepjmdiifnaaCopyByte
import Derived.Test.YtjhoepjmdiifnaaCopyInt
namespace Go.Proofs.Ytjhoepjmdiifnaa
open Go Go.RowKit
set_option linter.unusedVariables false

set_option maxHeartbeats 4000000 in
set_option maxRecDepth 20000 in
theorem fnExactDeriveFromString_walk (a0 : Int) (a1 : ByteArray) (w : World) (w0 : (Lit.int .i64 a0).wf = true) (w1 : a1.size ≤ maxLen) :
    Calls Try.prog 11 #[.int .i64 a0, .string a1] w fun e w' => e = .returned (.bool true) ∧ Below w.heap.size w w' := by
  have W0 := Lib.hid w0
  have w0b := wf_i64 w0
  clear w0
  unfold maxLen at w1
  by_cases b1 : 1048576 < a1.size
  · have b1' : decide ((1048576 : Int) < (a1.size : Int)) = true := by simp; omega
    go_enter Try.func11, Try.ntmps11
    go_wp2_with fail
    go_ret
    exact ⟨rfl, Below.refl _ _⟩
  have b1' : decide ((1048576 : Int) < (a1.size : Int)) = false := by simp; omega
  have HB := Lib.hid (Below.refl w.heap.size w)
  go_enter Try.func11, Try.ntmps11
  -- ('big', 1)
  -- ('call', 'spec', 'DeriveFromString', [('arg', 0), ('arg', 1)], ['w0'])
  go_wp2_with fail
  refine (spec_dv W0.out (by omega)).mono ?_
  rintro e w1_ ⟨he, hb⟩
  obtain ⟨q_w0, hq⟩ : ∃ q, q = dv a0 a1 := ⟨_, rfl⟩
  rw [← hq] at he
  have Q_w0 := Lib.hid hq
  clear hq
  subst he
  replace HB := Lib.hid (HB.out.trans (hb.mono HB.out.size))
  clear hb
  -- ('call', 'impl', 'DeriveFromString', [('arg', 0), ('arg', 1)], ['g0'])
  go_wp2_with fail
  refine (impl_dv W0.out (by omega)).mono ?_
  rintro e w2_ ⟨he, hb⟩
  rw [← Q_w0.out] at he
  subst he
  replace HB := Lib.hid (HB.out.trans (hb.mono HB.out.size))
  clear hb
  go_wp2_with fail
  go_ret
  exact ⟨rfl, HB.out⟩

end Go.Proofs.Ytjhoepjmdiifnaa
