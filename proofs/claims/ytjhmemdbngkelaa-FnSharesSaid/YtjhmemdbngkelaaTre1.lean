/- Trees of seeds: ChildSeed, ControlBit, isLeaf, sideAt, the program's and the document's. No conditions but numbers that a machine holds. -/
import Derived.Test.YtjhmemdbngkelaaTreN
import Derived.Test.YtjhmemdbngkelaaBaM
import Derived.WalkKit
import Derived.Handy
import Derived.Outline
import Derived.WalkSpells
import Derived.Lib.Hide
namespace Go.Proofs.Ytjhmemdbngkelaa
open Go Go.RowKit
set_option linter.unusedVariables false

theorem i64_and1 (n : Int) : bits .and .i64 n 1 = n % 2 := i64_mask 1 1 (by decide) (by decide) n

set_option maxHeartbeats 1000000 in
/-- impl.ChildSeed. -/
theorem impl_cs {w : World} {s c : Int} (hs : (Lit.int .i64 s).wf = true) (hc : (Lit.int .i64 c).wf = true) :
    Calls Try.prog 69 #[.int .i64 s, .int .i64 c] w fun e w' => e = .returned (.int .i64 (kid s c)) ∧ Below w.heap.size w w' := by
  have HR := Lib.hid (Rd.two 3 .i64 w 47 c (by decide) hc)
  have HS := Lib.hid hs
  have hb := kh_bound s [47, c]
  have hm : 0 ≤ kh s [47, c] * kh s [47, c] ∧ kh s [47, c] * kh s [47, c] ≤ 2147483646 * 2147483646 := ⟨Int.mul_nonneg hb.1 hb.1, Int.mul_le_mul hb.2 hb.2 hb.1 (by decide)⟩
  have he : kid s c = (kh s [47, c] * kh s [47, c] + 5) % 2147483647 := kid_eq s c
  obtain ⟨h, hh⟩ : ∃ h, h = kh s [47, c] := ⟨_, rfl⟩
  rw [← hh] at hb hm he
  have HH := Lib.hid hh
  have HE := Lib.hid he
  have HB := Lib.hid ((Below.refl w.heap.size w).alloc (Nat.le_refl _) (.cells #[.int .i64 47, .int .i64 c] 3))
  clear hh he hs hc
  go_enter Try.func69, Try.ntmps69
  go_wp2_with fail
  refine (impl_kh HR.out (by simp) HS.out).mono ?_
  rintro e w1 ⟨he, hw⟩
  rw [← HH.out] at he
  subst he
  have HB2 := Lib.hid (HB.out.trans (hw.mono (by simp)))
  clear hw
  go_wp2
  go_ret
  exact ⟨rint (by rw [HE.out]), HB2.out⟩

set_option maxHeartbeats 1000000 in
/-- spec.ChildSeed. -/
theorem spec_cs {w : World} {s c : Int} (hs : (Lit.int .i64 s).wf = true) (hc : (Lit.int .i64 c).wf = true) :
    Calls Try.prog 74 #[.int .i64 s, .int .i64 c] w fun e w' => e = .returned (.int .i64 (kid s c)) ∧ Below w.heap.size w w' := by
  have HR := Lib.hid (Rd.two 3 .i64 w 47 c (by decide) hc)
  have HS := Lib.hid hs
  have hb := kh_bound s [47, c]
  have hm : 0 ≤ kh s [47, c] * kh s [47, c] ∧ kh s [47, c] * kh s [47, c] ≤ 2147483646 * 2147483646 := ⟨Int.mul_nonneg hb.1 hb.1, Int.mul_le_mul hb.2 hb.2 hb.1 (by decide)⟩
  have he : kid s c = (kh s [47, c] * kh s [47, c] + 5) % 2147483647 := kid_eq s c
  obtain ⟨h, hh⟩ : ∃ h, h = kh s [47, c] := ⟨_, rfl⟩
  rw [← hh] at hb hm he
  have HH := Lib.hid hh
  have HE := Lib.hid he
  have HB := Lib.hid ((Below.refl w.heap.size w).alloc (Nat.le_refl _) (.cells #[.int .i64 47, .int .i64 c] 3))
  clear hh he hs hc
  go_enter Try.func74, Try.ntmps74
  go_wp2_with fail
  refine (spec_kh HR.out (by simp) HS.out (by simp)).mono ?_
  rintro e w1 ⟨he, hw⟩
  rw [← HH.out] at he
  subst he
  have HB2 := Lib.hid (HB.out.trans (hw.mono (by simp)))
  clear hw
  go_wp2
  go_ret
  exact ⟨rint (by rw [HE.out]), HB2.out⟩

end Go.Proofs.Ytjhmemdbngkelaa
