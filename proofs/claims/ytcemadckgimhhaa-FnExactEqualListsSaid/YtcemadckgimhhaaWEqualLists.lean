/- FnExactEqualLists: the walk. No conditions. -/
import Derived.Test.YtcemadckgimhhaaXor2
import Derived.Test.YtcemadckgimhhaaDeepByte
import Derived.Test.YtcemadckgimhhaaIval
namespace Go.Proofs.Ytcemadckgimhhaa
open Go Go.RowKit
set_option linter.unusedVariables false

set_option maxHeartbeats 4000000 in
set_option maxRecDepth 20000 in
theorem fnExactEqualLists_walk (a0 : Option Addr) (len0 cap0 : Nat) (z0 : List (List Int)) (a1 : Option Addr) (len1 cap1 : Nat) (z1 : List (List Int)) (w : World) (w0 : Rd2 w.heap.size .u8 w (.slice a0 len0 cap0) z0) (w1 : Rd2 w.heap.size .u8 w (.slice a1 len1 cap1) z1) :
    Calls Try.prog 10 #[.slice a0 len0 cap0, .slice a1 len1 cap1] w fun e w' => e = .returned (.bool true) ∧ Below w.heap.size w w' := by
  obtain ⟨s0, A0, l0⟩ : ∃ s, Rd2 w.heap.size .u8 w (.slice a0 len0 cap0) s ∧ len0 = s.length := ⟨z0, w0, w0.len_eq⟩
  subst l0
  replace A0 := Lib.hid A0
  clear w0
  have m0 : s0.length ≤ 9223372036854775807 := by have := A0.out.len; unfold maxLen at this; omega
  obtain ⟨s1, A1, l1⟩ : ∃ s, Rd2 w.heap.size .u8 w (.slice a1 len1 cap1) s ∧ len1 = s.length := ⟨z1, w1, w1.len_eq⟩
  subst l1
  replace A1 := Lib.hid A1
  clear w1
  have m1 : s1.length ≤ 9223372036854775807 := by have := A1.out.len; unfold maxLen at this; omega
  by_cases b0z : (tot s0 : Int) ≤ (1048576 : Int)
  case neg =>
    have c0 := Lib.hid b0z
    go_enter Try.func10, Try.ntmps10
    go_wp2_with fail
    refine (szByteSS_any A0.out (by omega) (by omega) (Nat.le_refl _)).mono ?_
    rintro e v0_ ⟨he, hw⟩
    obtain rfl : w = v0_ := hw.symm
    rw [if_neg (by have := c0.out; omega)] at he
    subst he
    go_wp2_with fail
    go_ret
    exact ⟨rfl, Below.refl _ _⟩
  have c0 := Lib.hid b0z
  obtain ⟨q0, hq0⟩ : ∃ q : Int, q = (1048576 : Int) - (tot s0 : Int) := ⟨_, rfl⟩
  have d0q : decide (q0 < 0) = false := by simp; omega
  have e0q : 0 ≤ q0 ∧ q0 ≤ 1048576 := by omega
  have b0t : tot s0 ≤ 1048576 := by omega
  have H0q := Lib.hid hq0
  clear hq0 b0z
  by_cases b1z : (tot s1 : Int) ≤ q0
  case neg =>
    have c1 := Lib.hid b1z
    go_enter Try.func10, Try.ntmps10
    go_wp2_with fail
    refine (szByteSS_any A0.out (by omega) (by omega) (Nat.le_refl _)).mono ?_
    rintro e v0_ ⟨he, hw⟩
    obtain rfl : w = v0_ := hw.symm
    rw [if_pos (by have := c0.out; omega), ← H0q.out] at he
    subst he
    go_wp2_with fail
    refine (szByteSS_any A1.out (by omega) (by omega) (Nat.le_refl _)).mono ?_
    rintro e v1_ ⟨he, hw⟩
    obtain rfl : w = v1_ := hw.symm
    rw [if_neg (by have := c1.out; omega)] at he
    subst he
    go_wp2_with fail
    go_ret
    exact ⟨rfl, Below.refl _ _⟩
  have c1 := Lib.hid b1z
  obtain ⟨q1, hq1⟩ : ∃ q : Int, q = q0 - (tot s1 : Int) := ⟨_, rfl⟩
  have d1q : decide (q1 < 0) = false := by simp; omega
  have e1q : 0 ≤ q1 ∧ q1 ≤ 1048576 := by omega
  have b1t : tot s1 ≤ 1048576 := by omega
  have H1q := Lib.hid hq1
  clear hq1 b1z
  have HB := Lib.hid (Below.refl w.heap.size w)
  go_enter Try.func10, Try.ntmps10
  go_wp2_with fail
  refine (szByteSS_any A0.out (by omega) (by omega) (Nat.le_refl _)).mono ?_
  rintro e v0_ ⟨he, hw⟩
  obtain rfl : w = v0_ := hw.symm
  rw [if_pos (by have := c0.out; omega), ← H0q.out] at he
  subst he
  go_wp2_with fail
  refine (szByteSS_any A1.out (by omega) (by omega) (Nat.le_refl _)).mono ?_
  rintro e v1_ ⟨he, hw⟩
  obtain rfl : w = v1_ := hw.symm
  rw [if_pos (by have := c1.out; omega), ← H1q.out] at he
  subst he
  -- ('sz', 0, 'ByteSS')
  -- ('sz', 1, 'ByteSS')
  -- ('call', 'spec', 'EqualLists', [('copy', 0, 'ByteSS'), ('copy', 1, 'ByteSS')], ['w0'])
  go_wp2_with fail
  refine (toByteSS_any A0.out HB.out.size (by omega)).mono ?_
  rintro e w1_ ⟨v_t1, he, hO, hb⟩
  subst he
  have D_t1 := Lib.hid HB.out.size
  have S_t1 : Hid (w1_.heap.size ≤ w1_.heap.size) := Lib.hid (Nat.le_refl _)
  replace A0 := Lib.hid (A0.out.behind (hb.mono HB.out.size))
  replace A1 := Lib.hid (A1.out.behind (hb.mono HB.out.size))
  replace HB := Lib.hid (HB.out.trans (hb.mono HB.out.size))
  clear hb
  have O_t1 := Lib.hid hO
  clear hO
  go_wp2_with fail
  refine (toByteSS_any A1.out HB.out.size (by omega)).mono ?_
  rintro e w2_ ⟨v_t2, he, hO, hb⟩
  subst he
  have D_t2 := Lib.hid HB.out.size
  have S_t2 : Hid (w2_.heap.size ≤ w2_.heap.size) := Lib.hid (Nat.le_refl _)
  replace A0 := Lib.hid (A0.out.behind (hb.mono HB.out.size))
  replace A1 := Lib.hid (A1.out.behind (hb.mono HB.out.size))
  replace O_t1 := Lib.hid (O_t1.out.next hb)
  replace S_t1 := Lib.hid (Nat.le_trans S_t1.out hb.size)
  replace HB := Lib.hid (HB.out.trans (hb.mono HB.out.size))
  clear hb
  have O_t2 := Lib.hid hO
  clear hO
  go_wp2_with fail
  refine (spec_elb O_t1.out.rd2 O_t2.out.rd2 (Nat.le_refl _) (Nat.le_refl _)).mono ?_
  rintro e w3_ ⟨he, hb⟩
  obtain ⟨q_w0, hq⟩ : ∃ q, q = el s0 s1 := ⟨_, rfl⟩
  rw [← hq] at he
  have Q_w0 := Lib.hid hq
  clear hq
  subst he
  replace A0 := Lib.hid (A0.out.behind (hb.mono HB.out.size))
  replace A1 := Lib.hid (A1.out.behind (hb.mono HB.out.size))
  replace O_t1 := Lib.hid (O_t1.out.next hb)
  replace S_t1 := Lib.hid (Nat.le_trans S_t1.out hb.size)
  replace O_t2 := Lib.hid (O_t2.out.next hb)
  replace S_t2 := Lib.hid (Nat.le_trans S_t2.out hb.size)
  replace HB := Lib.hid (HB.out.trans (hb.mono HB.out.size))
  clear hb
  clear O_t1 S_t1 D_t1
  clear O_t2 S_t2 D_t2
  -- ('copy', 'x0', 0, 'ByteSS')
  go_wp2_with fail
  refine (toByteSS_any A0.out HB.out.size (by omega)).mono ?_
  rintro e w4_ ⟨v_x0, he, hO, hb⟩
  subst he
  have D_x0 := Lib.hid HB.out.size
  have S_x0 : Hid (w4_.heap.size ≤ w4_.heap.size) := Lib.hid (Nat.le_refl _)
  replace A0 := Lib.hid (A0.out.behind (hb.mono HB.out.size))
  replace A1 := Lib.hid (A1.out.behind (hb.mono HB.out.size))
  replace HB := Lib.hid (HB.out.trans (hb.mono HB.out.size))
  clear hb
  have O_x0 := Lib.hid hO
  clear hO
  -- ('copy', 'x1', 1, 'ByteSS')
  go_wp2_with fail
  refine (toByteSS_any A1.out HB.out.size (by omega)).mono ?_
  rintro e w5_ ⟨v_x1, he, hO, hb⟩
  subst he
  have D_x1 := Lib.hid HB.out.size
  have S_x1 : Hid (w5_.heap.size ≤ w5_.heap.size) := Lib.hid (Nat.le_refl _)
  replace A0 := Lib.hid (A0.out.behind (hb.mono HB.out.size))
  replace A1 := Lib.hid (A1.out.behind (hb.mono HB.out.size))
  replace O_x0 := Lib.hid (O_x0.out.next hb)
  replace S_x0 := Lib.hid (Nat.le_trans S_x0.out hb.size)
  replace HB := Lib.hid (HB.out.trans (hb.mono HB.out.size))
  clear hb
  have O_x1 := Lib.hid hO
  clear hO
  -- ('call', 'impl', 'EqualLists', [('own', 'x0'), ('own', 'x1')], ['g0'])
  go_wp2_with fail
  refine (impl_elb O_x0.out.rd2 O_x1.out.rd2 (Nat.le_refl _) (Nat.le_refl _)).mono ?_
  rintro e w6_ ⟨he, hb⟩
  rw [← Q_w0.out] at he
  subst he
  replace A0 := Lib.hid (A0.out.behind (hb.mono HB.out.size))
  replace A1 := Lib.hid (A1.out.behind (hb.mono HB.out.size))
  replace O_x0 := Lib.hid (O_x0.out.next hb)
  replace S_x0 := Lib.hid (Nat.le_trans S_x0.out hb.size)
  replace O_x1 := Lib.hid (O_x1.out.next hb)
  replace S_x1 := Lib.hid (Nat.le_trans S_x1.out hb.size)
  replace HB := Lib.hid (HB.out.trans (hb.mono HB.out.size))
  clear hb
  -- ('eq', 'ByteSS', ('own', 'x0'), ('copy', 0, 'ByteSS'))
  go_wp2_with fail
  refine (toByteSS_any A0.out HB.out.size (by omega)).mono ?_
  rintro e w7_ ⟨v_t3, he, hO, hb⟩
  subst he
  have D_t3 := Lib.hid HB.out.size
  have S_t3 : Hid (w7_.heap.size ≤ w7_.heap.size) := Lib.hid (Nat.le_refl _)
  replace A0 := Lib.hid (A0.out.behind (hb.mono HB.out.size))
  replace A1 := Lib.hid (A1.out.behind (hb.mono HB.out.size))
  replace O_x0 := Lib.hid (O_x0.out.next hb)
  replace S_x0 := Lib.hid (Nat.le_trans S_x0.out hb.size)
  replace O_x1 := Lib.hid (O_x1.out.next hb)
  replace S_x1 := Lib.hid (Nat.le_trans S_x1.out hb.size)
  replace HB := Lib.hid (HB.out.trans (hb.mono HB.out.size))
  clear hb
  have O_t3 := Lib.hid hO
  clear hO
  go_wp2_with fail
  refine (eqByteSS_same O_x0.out.rd2 O_t3.out.rd2 (Nat.le_refl _) (Nat.le_refl _)).mono ?_
  rintro e w8_ ⟨he, hb⟩
  subst he
  replace A0 := Lib.hid (A0.out.behind (hb.mono HB.out.size))
  replace A1 := Lib.hid (A1.out.behind (hb.mono HB.out.size))
  replace O_x0 := Lib.hid (O_x0.out.next hb)
  replace S_x0 := Lib.hid (Nat.le_trans S_x0.out hb.size)
  replace O_x1 := Lib.hid (O_x1.out.next hb)
  replace S_x1 := Lib.hid (Nat.le_trans S_x1.out hb.size)
  replace O_t3 := Lib.hid (O_t3.out.next hb)
  replace S_t3 := Lib.hid (Nat.le_trans S_t3.out hb.size)
  replace HB := Lib.hid (HB.out.trans (hb.mono HB.out.size))
  clear hb
  clear O_x0 S_x0 D_x0
  clear O_t3 S_t3 D_t3
  clear A0
  -- ('eq', 'ByteSS', ('own', 'x1'), ('copy', 1, 'ByteSS'))
  go_wp2_with fail
  refine (toByteSS_any A1.out HB.out.size (by omega)).mono ?_
  rintro e w9_ ⟨v_t4, he, hO, hb⟩
  subst he
  have D_t4 := Lib.hid HB.out.size
  have S_t4 : Hid (w9_.heap.size ≤ w9_.heap.size) := Lib.hid (Nat.le_refl _)
  replace A1 := Lib.hid (A1.out.behind (hb.mono HB.out.size))
  replace O_x1 := Lib.hid (O_x1.out.next hb)
  replace S_x1 := Lib.hid (Nat.le_trans S_x1.out hb.size)
  replace HB := Lib.hid (HB.out.trans (hb.mono HB.out.size))
  clear hb
  have O_t4 := Lib.hid hO
  clear hO
  go_wp2_with fail
  refine (eqByteSS_same O_x1.out.rd2 O_t4.out.rd2 (Nat.le_refl _) (Nat.le_refl _)).mono ?_
  rintro e w10_ ⟨he, hb⟩
  subst he
  replace A1 := Lib.hid (A1.out.behind (hb.mono HB.out.size))
  replace O_x1 := Lib.hid (O_x1.out.next hb)
  replace S_x1 := Lib.hid (Nat.le_trans S_x1.out hb.size)
  replace O_t4 := Lib.hid (O_t4.out.next hb)
  replace S_t4 := Lib.hid (Nat.le_trans S_t4.out hb.size)
  replace HB := Lib.hid (HB.out.trans (hb.mono HB.out.size))
  clear hb
  clear O_x1 S_x1 D_x1
  clear O_t4 S_t4 D_t4
  clear A1
  go_wp2_with fail
  go_ret
  exact ⟨rfl, HB.out⟩

end Go.Proofs.Ytcemadckgimhhaa
