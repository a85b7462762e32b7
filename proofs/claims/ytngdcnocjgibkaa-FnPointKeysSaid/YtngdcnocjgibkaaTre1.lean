/- Trees of seeds: ChildSeed, ControlBit, isLeaf, sideAt, the program's and the document's. No conditions but numbers that a machine holds. -/
import Derived.Test.YtngdcnocjgibkaaTreN
import Derived.Test.YtngdcnocjgibkaaBaM
import Derived.WalkKit
import Derived.Handy
import Derived.Outline
import Derived.WalkSpells
import Derived.Lib.Hide
namespace Go.Proofs.Ytngdcnocjgibkaa
open Go Go.RowKit
set_option linter.unusedVariables false

theorem i64_and1 (n : Int) : bits .and .i64 n 1 = n % 2 := i64_mask 1 1 (by decide) (by decide) n

set_option maxHeartbeats 1000000 in
/-- impl.ChildSeed. -/
theorem impl_cs {w : World} {s c : Int} (hs : (Lit.int .i64 s).wf = true) (hc : (Lit.int .i64 c).wf = true) :
    Calls Try.prog 73 #[.int .i64 s, .int .i64 c] w fun e w' => e = .returned (.int .i64 (kid s c)) ∧ Below w.heap.size w w' := by
  have HR := Lib.hid (Rd.two 3 .i64 w 47 c (by decide) hc)
  have HS := Lib.hid hs
  have hb := kh_bound s [47, c]
  have hm : 0 ≤ kh s [47, c] * kh s [47, c] ∧ kh s [47, c] * kh s [47, c] ≤ 2147483646 * 2147483646 := ⟨Int.mul_nonneg hb.1 hb.1, Int.mul_le_mul hb.2 hb.2 hb.1 (by decide)⟩
  have he : kid s c = (kh s [47, c] * kh s [47, c] + 5) % 2147483647 := kid_eq s c
  obtain ⟨h, hh⟩ : ∃ h, h = kh s [47, c] := ⟨_, rfl⟩
  rw [← hh] at hb hm he
  have HH := Lib.hid hh
  have HE := Lib.hid he
  have HB := Lib.hid ((Below.refl w.heap.size w).alloc (Nat.le_refl _) (.cells #[.int .i64 47, .int .i64 c] 3))
  clear hh he hs hc
  go_enter Try.func73, Try.ntmps73
  go_wp2_with fail
  refine (impl_kh HR.out (by simp) HS.out).mono ?_
  rintro e w1 ⟨he, hw⟩
  rw [← HH.out] at he
  subst he
  have HB2 := Lib.hid (HB.out.trans (hw.mono (by simp)))
  clear hw
  go_wp2
  go_ret
  exact ⟨rint (by rw [HE.out]), HB2.out⟩

set_option maxHeartbeats 1000000 in
/-- spec.ChildSeed. -/
theorem spec_cs {w : World} {s c : Int} (hs : (Lit.int .i64 s).wf = true) (hc : (Lit.int .i64 c).wf = true) :
    Calls Try.prog 71 #[.int .i64 s, .int .i64 c] w fun e w' => e = .returned (.int .i64 (kid s c)) ∧ Below w.heap.size w w' := by
  have HR := Lib.hid (Rd.two 3 .i64 w 47 c (by decide) hc)
  have HS := Lib.hid hs
  have hb := kh_bound s [47, c]
  have hm : 0 ≤ kh s [47, c] * kh s [47, c] ∧ kh s [47, c] * kh s [47, c] ≤ 2147483646 * 2147483646 := ⟨Int.mul_nonneg hb.1 hb.1, Int.mul_le_mul hb.2 hb.2 hb.1 (by decide)⟩
  have he : kid s c = (kh s [47, c] * kh s [47, c] + 5) % 2147483647 := kid_eq s c
  obtain ⟨h, hh⟩ : ∃ h, h = kh s [47, c] := ⟨_, rfl⟩
  rw [← hh] at hb hm he
  have HH := Lib.hid hh
  have HE := Lib.hid he
  have HB := Lib.hid ((Below.refl w.heap.size w).alloc (Nat.le_refl _) (.cells #[.int .i64 47, .int .i64 c] 3))
  clear hh he hs hc
  go_enter Try.func71, Try.ntmps71
  go_wp2_with fail
  refine (spec_kh HR.out (by simp) HS.out (by simp)).mono ?_
  rintro e w1 ⟨he, hw⟩
  rw [← HH.out] at he
  subst he
  have HB2 := Lib.hid (HB.out.trans (hw.mono (by simp)))
  clear hw
  go_wp2
  go_ret
  exact ⟨rint (by rw [HE.out]), HB2.out⟩

set_option maxHeartbeats 1000000 in
/-- impl.ControlBit. -/
theorem impl_cb {w : World} {s c : Int} (hs : (Lit.int .i64 s).wf = true) (hc : (Lit.int .i64 c).wf = true) :
    Calls Try.prog 74 #[.int .i64 s, .int .i64 c] w fun e w' => e = .returned (.int .i64 (ctl s c)) ∧ Below w.heap.size w w' := by
  have HR := Lib.hid (Rd.two 3 .i64 w 53 c (by decide) hc)
  have HS := Lib.hid hs
  have hb := kh_bound s [53, c]
  have hm : 0 ≤ kh s [53, c] * kh s [53, c] ∧ kh s [53, c] * kh s [53, c] ≤ 2147483646 * 2147483646 := ⟨Int.mul_nonneg hb.1 hb.1, Int.mul_le_mul hb.2 hb.2 hb.1 (by decide)⟩
  have he : ctl s c = kh s [53, c] * kh s [53, c] % 2147483647 / 128 % 2 := ctl_eq s c
  obtain ⟨h, hh⟩ : ∃ h, h = kh s [53, c] := ⟨_, rfl⟩
  rw [← hh] at hb hm he
  have HH := Lib.hid hh
  have HE := Lib.hid he
  have HB := Lib.hid ((Below.refl w.heap.size w).alloc (Nat.le_refl _) (.cells #[.int .i64 53, .int .i64 c] 3))
  clear hh he hs hc
  go_enter Try.func74, Try.ntmps74
  go_wp2_with fail
  refine (impl_kh HR.out (by simp) HS.out).mono ?_
  rintro e w1 ⟨he, hw⟩
  rw [← HH.out] at he
  subst he
  have HB2 := Lib.hid (HB.out.trans (hw.mono (by simp)))
  clear hw
  go_wp2
  rw [i64_and1]
  go_wp2
  go_ret
  exact ⟨rint (by rw [HE.out]), HB2.out⟩

set_option maxHeartbeats 1000000 in
/-- spec.ControlBit. -/
theorem spec_cb {w : World} {s c : Int} (hs : (Lit.int .i64 s).wf = true) (hc : (Lit.int .i64 c).wf = true) :
    Calls Try.prog 72 #[.int .i64 s, .int .i64 c] w fun e w' => e = .returned (.int .i64 (ctl s c)) ∧ Below w.heap.size w w' := by
  have HR := Lib.hid (Rd.two 3 .i64 w 53 c (by decide) hc)
  have HS := Lib.hid hs
  have hb := kh_bound s [53, c]
  have hm : 0 ≤ kh s [53, c] * kh s [53, c] ∧ kh s [53, c] * kh s [53, c] ≤ 2147483646 * 2147483646 := ⟨Int.mul_nonneg hb.1 hb.1, Int.mul_le_mul hb.2 hb.2 hb.1 (by decide)⟩
  have he : ctl s c = kh s [53, c] * kh s [53, c] % 2147483647 / 128 % 2 := ctl_eq s c
  obtain ⟨h, hh⟩ : ∃ h, h = kh s [53, c] := ⟨_, rfl⟩
  rw [← hh] at hb hm he
  have HH := Lib.hid hh
  have HE := Lib.hid he
  have HB := Lib.hid ((Below.refl w.heap.size w).alloc (Nat.le_refl _) (.cells #[.int .i64 53, .int .i64 c] 3))
  clear hh he hs hc
  go_enter Try.func72, Try.ntmps72
  go_wp2_with fail
  refine (spec_kh HR.out (by simp) HS.out (by simp)).mono ?_
  rintro e w1 ⟨he, hw⟩
  rw [← HH.out] at he
  subst he
  have HB2 := Lib.hid (HB.out.trans (hw.mono (by simp)))
  clear hw
  go_wp2
  rw [i64_and1]
  go_wp2
  go_ret
  exact ⟨rint (by rw [HE.out]), HB2.out⟩

set_option maxHeartbeats 1000000 in
/-- impl.isLeaf. -/
theorem impl_leaf (w : World) {d i : Int} (hd : (Lit.int .i64 d).wf = true) (hi : (Lit.int .i64 i).wf = true) :
    Calls Try.prog 50 #[.int .i64 d, .int .i64 i] w fun e w' => e = .returned (.bool (leafOk d i)) ∧ w' = w := by
  have HD := Lib.hid hd
  have HI := Lib.hid hi
  clear hd hi
  by_cases h1 : 0 ≤ d ∧ d ≤ 6
  · have Hr : Hid (inR d 0 6 = true) := Lib.hid (inR_yes h1)
    obtain ⟨D, rfl⟩ : ∃ D : Nat, d = (D : Int) := ⟨d.toNat, by omega⟩
    have HE : Hid (inR i 0 (2 ^ D - 1) = leafOk (D : Int) i) := Lib.hid (by unfold leafOk; rw [Hr.out, Bool.true_and, Int.toNat_natCast])
    have h6 : D ≤ 6 := by omega
    have hp := pow_le6 h6
    have hp1 : 1 ≤ (2 : Int) ^ D ∧ (2 : Int) ^ D ≤ 64 := by
      rw [show (2 : Int) ^ D = ((2 ^ D : Nat) : Int) by simp]
      omega
    obtain ⟨hp2, hp3⟩ := hp1
    clear hp
    clear h1
    go_enter Try.func50, Try.ntmps50
    go_wp2_with fail
    refine (impl_in _ _ _ _ HD.out).mono ?_
    rw [Hr.out]
    rintro e w1 ⟨rfl, hw1⟩
    subst hw1
    go_wp2_with fail
    refine (impl_in _ _ _ _ HI.out).mono ?_
    rw [HE.out]
    rintro e w2 ⟨rfl, hw2⟩
    subst hw2
    go_wp2_with fail
    go_ret
    exact ⟨rfl, rfl⟩
  · have Hr : Hid (inR d 0 6 = false) := Lib.hid (inR_no h1)
    have HE : Hid (false = leafOk d i) := Lib.hid (by unfold leafOk; rw [Hr.out, Bool.false_and])
    clear h1
    go_enter Try.func50, Try.ntmps50
    go_wp2_with fail
    refine (impl_in _ _ _ _ HD.out).mono ?_
    rw [Hr.out]
    rintro e w1 ⟨rfl, hw1⟩
    subst hw1
    go_wp2_with fail
    go_ret
    exact ⟨by rw [← HE.out]; rfl, rfl⟩

set_option maxHeartbeats 1000000 in
/-- impl.sideAt. -/
theorem impl_side (w : World) (I L : Nat) (hI : I ≤ 63) (hL : L ≤ 6) :
    Calls Try.prog 52 #[.int .i64 (I : Int), .int .i64 (L : Int)] w fun e w' => e = .returned (.int .i64 (bt I L)) ∧ w' = w := by
  go_enter Try.func52, Try.ntmps52
  go_wp2_with fail
  rw [i64_and1]
  go_wp2
  go_ret
  exact ⟨rint (by rw [bt_of_mod]; simp), rfl⟩

end Go.Proofs.Ytngdcnocjgibkaa
