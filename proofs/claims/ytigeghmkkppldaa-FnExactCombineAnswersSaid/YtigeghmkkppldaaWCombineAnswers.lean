/- FnExactCombineAnswers: the walk. No conditions. -/
import Derived.Test.YtigeghmkkppldaaQu6
import Derived.Test.YtigeghmkkppldaaBa6
import Derived.Test.YtigeghmkkppldaaBa3
import Derived.Test.YtigeghmkkppldaaBa5
namespace Go.Proofs.Ytigeghmkkppldaa
open Go Go.RowKit
set_option linter.unusedVariables false

set_option maxHeartbeats 4000000 in
set_option maxRecDepth 20000 in
theorem fnExactCombineAnswers_walk (a0 : Option Addr) (len0 cap0 : Nat) (z0 : List (List Int)) (w : World) (w0 : Rd2 w.heap.size .u8 w (.slice a0 len0 cap0) z0) :
    Calls Try.prog 8 #[.slice a0 len0 cap0] w fun e w' => e = .returned (.bool true) ∧ Below w.heap.size w w' := by
  obtain ⟨s0, A0, l0⟩ : ∃ s, Rd2 w.heap.size .u8 w (.slice a0 len0 cap0) s ∧ len0 = s.length := ⟨z0, w0, w0.len_eq⟩
  subst l0
  replace A0 := Lib.hid A0
  clear w0
  have m0 : s0.length ≤ 9223372036854775807 := by have := A0.out.len; unfold maxLen at this; omega
  by_cases b0z : (tot s0 : Int) ≤ (1048576 : Int)
  case neg =>
    have c0 := Lib.hid b0z
    go_enter Try.func8, Try.ntmps8
    go_wp2_with fail
    refine (szByteSS_any A0.out (by omega) (by omega) (Nat.le_refl _)).mono ?_
    rintro e v0_ ⟨he, hw⟩
    obtain rfl : w = v0_ := hw.symm
    rw [if_neg (by have := c0.out; omega)] at he
    subst he
    go_wp2_with fail
    go_ret
    exact ⟨rfl, Below.refl _ _⟩
  have c0 := Lib.hid b0z
  obtain ⟨q0, hq0⟩ : ∃ q : Int, q = (1048576 : Int) - (tot s0 : Int) := ⟨_, rfl⟩
  have d0q : decide (q0 < 0) = false := by simp; omega
  have e0q : 0 ≤ q0 ∧ q0 ≤ 1048576 := by omega
  have b0t : tot s0 ≤ 1048576 := by omega
  have H0q := Lib.hid hq0
  clear hq0 b0z
  have HB := Lib.hid (Below.refl w.heap.size w)
  go_enter Try.func8, Try.ntmps8
  go_wp2_with fail
  refine (szByteSS_any A0.out (by omega) (by omega) (Nat.le_refl _)).mono ?_
  rintro e v0_ ⟨he, hw⟩
  obtain rfl : w = v0_ := hw.symm
  rw [if_pos (by have := c0.out; omega), ← H0q.out] at he
  subst he
  -- ('sz', 0, 'ByteSS')
  -- ('call', 'spec', 'CombineAnswers', [('copy', 0, 'ByteSS')], ['w0', 'w1'])
  go_wp2_with fail
  refine (toByteSS_any A0.out HB.out.size (by omega)).mono ?_
  rintro e w1_ ⟨v_t1, he, hO, hb⟩
  subst he
  have D_t1 := Lib.hid HB.out.size
  have S_t1 : Hid (w1_.heap.size ≤ w1_.heap.size) := Lib.hid (Nat.le_refl _)
  replace A0 := Lib.hid (A0.out.behind (hb.mono HB.out.size))
  replace HB := Lib.hid (HB.out.trans (hb.mono HB.out.size))
  clear hb
  have O_t1 := Lib.hid hO
  clear hO
  go_wp2_with fail
  refine (spec_ca O_t1.out.rd2 (Nat.le_refl _) (by omega)).mono ?_
  rintro e w2_ ⟨v_w0, he, hO, hb⟩
  subst he
  have D_w0 := Lib.hid HB.out.size
  have T_w0 := Lib.hid hO.lt
  have S_w0 : Hid (w2_.heap.size ≤ w2_.heap.size) := Lib.hid (Nat.le_refl _)
  replace hO := hO.mono HB.out.size
  replace A0 := Lib.hid (A0.out.behind (hb.mono HB.out.size))
  replace O_t1 := Lib.hid (O_t1.out.next hb)
  replace S_t1 := Lib.hid (Nat.le_trans S_t1.out hb.size)
  replace HB := Lib.hid (HB.out.trans (hb.mono HB.out.size))
  clear hb
  have O_w0 := Lib.hid hO
  clear hO
  clear O_t1 S_t1 D_t1
  -- ('copy', 'x0', 0, 'ByteSS')
  go_wp2_with fail
  refine (toByteSS_any A0.out HB.out.size (by omega)).mono ?_
  rintro e w3_ ⟨v_x0, he, hO, hb⟩
  subst he
  have P_w0_x0 := S_w0
  have D_x0 := Lib.hid HB.out.size
  have S_x0 : Hid (w3_.heap.size ≤ w3_.heap.size) := Lib.hid (Nat.le_refl _)
  replace A0 := Lib.hid (A0.out.behind (hb.mono HB.out.size))
  replace O_w0 := Lib.hid (O_w0.out.next hb)
  replace S_w0 := Lib.hid (Nat.le_trans S_w0.out hb.size)
  replace HB := Lib.hid (HB.out.trans (hb.mono HB.out.size))
  clear hb
  have O_x0 := Lib.hid hO
  clear hO
  -- ('call', 'impl', 'CombineAnswers', [('own', 'x0')], ['g0', 'g1'])
  go_wp2_with fail
  refine (impl_ca O_x0.out.rd2 (Nat.le_refl _) (by omega)).mono ?_
  rintro e w4_ ⟨v_g0, he, hO, hb⟩
  subst he
  have P_w0_g0 := S_w0
  have P_x0_g0 := S_x0
  have D_g0 := Lib.hid HB.out.size
  have T_g0 := Lib.hid hO.lt
  have S_g0 : Hid (w4_.heap.size ≤ w4_.heap.size) := Lib.hid (Nat.le_refl _)
  replace hO := hO.mono HB.out.size
  replace A0 := Lib.hid (A0.out.behind (hb.mono HB.out.size))
  replace O_w0 := Lib.hid (O_w0.out.next hb)
  replace S_w0 := Lib.hid (Nat.le_trans S_w0.out hb.size)
  replace O_x0 := Lib.hid (O_x0.out.next hb)
  replace S_x0 := Lib.hid (Nat.le_trans S_x0.out hb.size)
  replace HB := Lib.hid (HB.out.trans (hb.mono HB.out.size))
  clear hb
  have O_g0 := Lib.hid hO
  clear hO
  -- ('eq', 'Byte', ('own', 'g0'), ('own', 'w0'))
  go_wp2_with fail
  refine (eqByteS_same O_g0.out.rd O_w0.out.rd (Nat.le_refl _) (Nat.le_refl _)).mono ?_
  rintro e w5_ ⟨he, hb⟩
  subst he
  replace A0 := Lib.hid (A0.out.behind (hb.mono HB.out.size))
  replace O_w0 := Lib.hid (O_w0.out.next hb)
  replace S_w0 := Lib.hid (Nat.le_trans S_w0.out hb.size)
  replace O_x0 := Lib.hid (O_x0.out.next hb)
  replace S_x0 := Lib.hid (Nat.le_trans S_x0.out hb.size)
  replace O_g0 := Lib.hid (O_g0.out.next hb)
  replace S_g0 := Lib.hid (Nat.le_trans S_g0.out hb.size)
  replace HB := Lib.hid (HB.out.trans (hb.mono HB.out.size))
  clear hb
  -- ('eq', 'ByteSS', ('own', 'x0'), ('copy', 0, 'ByteSS'))
  go_wp2_with fail
  refine (toByteSS_any A0.out HB.out.size (by omega)).mono ?_
  rintro e w6_ ⟨v_t2, he, hO, hb⟩
  subst he
  have P_x0_t2 := S_x0
  have P_g0_t2 := S_g0
  have D_t2 := Lib.hid HB.out.size
  have S_t2 : Hid (w6_.heap.size ≤ w6_.heap.size) := Lib.hid (Nat.le_refl _)
  replace A0 := Lib.hid (A0.out.behind (hb.mono HB.out.size))
  replace O_w0 := Lib.hid (O_w0.out.next hb)
  replace S_w0 := Lib.hid (Nat.le_trans S_w0.out hb.size)
  replace O_x0 := Lib.hid (O_x0.out.next hb)
  replace S_x0 := Lib.hid (Nat.le_trans S_x0.out hb.size)
  replace O_g0 := Lib.hid (O_g0.out.next hb)
  replace S_g0 := Lib.hid (Nat.le_trans S_g0.out hb.size)
  replace HB := Lib.hid (HB.out.trans (hb.mono HB.out.size))
  clear hb
  have O_t2 := Lib.hid hO
  clear hO
  go_wp2_with fail
  refine (eqByteSS_same O_x0.out.rd2 O_t2.out.rd2 (Nat.le_refl _) (Nat.le_refl _)).mono ?_
  rintro e w7_ ⟨he, hb⟩
  subst he
  replace A0 := Lib.hid (A0.out.behind (hb.mono HB.out.size))
  replace O_w0 := Lib.hid (O_w0.out.next hb)
  replace S_w0 := Lib.hid (Nat.le_trans S_w0.out hb.size)
  replace O_x0 := Lib.hid (O_x0.out.next hb)
  replace S_x0 := Lib.hid (Nat.le_trans S_x0.out hb.size)
  replace O_g0 := Lib.hid (O_g0.out.next hb)
  replace S_g0 := Lib.hid (Nat.le_trans S_g0.out hb.size)
  replace O_t2 := Lib.hid (O_t2.out.next hb)
  replace S_t2 := Lib.hid (Nat.le_trans S_t2.out hb.size)
  replace HB := Lib.hid (HB.out.trans (hb.mono HB.out.size))
  clear hb
  clear O_t2 S_t2 D_t2
  clear P_x0_t2
  clear P_g0_t2
  -- ('set', 'k', '1')
  -- ('mark', 'k', 'ByteSS', 'x0', 'k')
  have hF7 : fl (s0) ≤ 1099511627776 := by have := fl_tot s0; omega
  obtain ⟨K7, hK7⟩ : ∃ K : Int, K = 1 + ((fl (s0) : Nat) : Int) := ⟨_, rfl⟩
  go_wp2_with fail
  refine (markByteSS_any (k0 := 1) O_x0.out (by omega) (by omega)).mono ?_
  rintro e w8_ ⟨he, hO, hG⟩
  rw [← hK7] at he
  subst he
  have hb := hG.below (B := w.heap.size) (fun b hb => Nat.le_trans D_x0.out hb.1) HB.out.size
  replace A0 := Lib.hid (A0.out.behind hb)
  replace O_w0 := Lib.hid (O_w0.out.keptF hG (not_ival T_w0.out (.inl P_w0_x0.out)))
  replace S_w0 := Lib.hid (Nat.le_trans S_w0.out hb.size)
  replace O_g0 := Lib.hid (O_g0.out.keptF hG (not_ival T_g0.out (.inr P_x0_g0.out)))
  replace S_g0 := Lib.hid (Nat.le_trans S_g0.out hb.size)
  replace O_x0 := Lib.hid hO
  replace S_x0 := Lib.hid (Nat.le_trans S_x0.out hb.size)
  replace HB := Lib.hid (HB.out.trans hb)
  clear hb hO hG
  have lK7 : 0 ≤ K7 ∧ K7 ≤ 1099511627777 := by omega
  have dK7 : decide (K7 < 0) = false := by simp; omega
  have HK7 := Lib.hid hK7
  clear hK7 hF7
  clear O_x0 S_x0 D_x0
  clear P_w0_x0
  clear P_x0_g0
  -- ('eq', 'Byte', ('own', 'g0'), ('own', 'w0'))
  go_wp2_with fail
  refine (eqByteS_same O_g0.out.rd O_w0.out.rd (Nat.le_refl _) (Nat.le_refl _)).mono ?_
  rintro e w9_ ⟨he, hb⟩
  subst he
  replace A0 := Lib.hid (A0.out.behind (hb.mono HB.out.size))
  replace O_w0 := Lib.hid (O_w0.out.next hb)
  replace S_w0 := Lib.hid (Nat.le_trans S_w0.out hb.size)
  replace O_g0 := Lib.hid (O_g0.out.next hb)
  replace S_g0 := Lib.hid (Nat.le_trans S_g0.out hb.size)
  replace HB := Lib.hid (HB.out.trans (hb.mono HB.out.size))
  clear hb
  -- ('set', 'm', '1')
  -- ('mark', 'm', 'Byte', 'g0', 'm')
  have hF10 : ((ca s0)).length ≤ 1099511627776 := by have := ca_len s0; have := fl_tot s0; omega
  obtain ⟨K10, hK10⟩ : ∃ K : Int, K = 1 + ((((ca s0)).length : Nat) : Int) := ⟨_, rfl⟩
  go_wp2_with fail
  refine (markByteS_any (k0 := 1) O_g0.out (by omega) (by omega)).mono ?_
  rintro e w10_ ⟨he, hO, hG⟩
  rw [← hK10] at he
  subst he
  have hb := O_g0.out.below (Nat.le_refl _) hG
  replace A0 := Lib.hid (A0.out.behind hb)
  replace O_w0 := Lib.hid (O_w0.out.beside (apart_ival T_w0.out T_g0.out (.inl P_w0_g0.out)) hG)
  replace S_w0 := Lib.hid (Nat.le_trans S_w0.out hb.size)
  replace O_g0 := Lib.hid hO
  replace S_g0 := Lib.hid (Nat.le_trans S_g0.out hb.size)
  replace HB := Lib.hid (HB.out.trans hb)
  clear hb hO hG
  have lK10 : 0 ≤ K10 ∧ K10 ≤ 1099511627777 := by omega
  have dK10 : decide (K10 < 0) = false := by simp; omega
  have HK10 := Lib.hid hK10
  clear hK10 hF10
  -- ('set', 'q', '1')
  -- ('held', 'q', 'Byte', 'g0', 'q')
  go_wp2_with fail
  refine (heldByteS_any (k0 := 1) O_g0.out.rd (Nat.le_refl _) (by omega) (by have := HK10.out; omega)).mono ?_
  rintro e w11_ ⟨he, hb⟩
  rw [← HK10.out] at he
  subst he
  replace A0 := Lib.hid (A0.out.behind (hb.mono HB.out.size))
  replace O_w0 := Lib.hid (O_w0.out.next hb)
  replace S_w0 := Lib.hid (Nat.le_trans S_w0.out hb.size)
  replace O_g0 := Lib.hid (O_g0.out.next hb)
  replace S_g0 := Lib.hid (Nat.le_trans S_g0.out hb.size)
  replace HB := Lib.hid (HB.out.trans (hb.mono HB.out.size))
  clear hb
  -- ('call', 'impl', 'CombineAnswers', [('copy', 0, 'ByteSS')], ['h0', 'h1'])
  go_wp2_with fail
  refine (toByteSS_any A0.out HB.out.size (by omega)).mono ?_
  rintro e w12_ ⟨v_t3, he, hO, hb⟩
  subst he
  have D_t3 := Lib.hid HB.out.size
  have S_t3 : Hid (w12_.heap.size ≤ w12_.heap.size) := Lib.hid (Nat.le_refl _)
  replace A0 := Lib.hid (A0.out.behind (hb.mono HB.out.size))
  replace O_w0 := Lib.hid (O_w0.out.next hb)
  replace S_w0 := Lib.hid (Nat.le_trans S_w0.out hb.size)
  replace O_g0 := Lib.hid (O_g0.out.next hb)
  replace S_g0 := Lib.hid (Nat.le_trans S_g0.out hb.size)
  replace HB := Lib.hid (HB.out.trans (hb.mono HB.out.size))
  clear hb
  have O_t3 := Lib.hid hO
  clear hO
  go_wp2_with fail
  refine (impl_ca O_t3.out.rd2 (Nat.le_refl _) (by omega)).mono ?_
  rintro e w13_ ⟨v_h0, he, hO, hb⟩
  subst he
  have D_h0 := Lib.hid HB.out.size
  have T_h0 := Lib.hid hO.lt
  have S_h0 : Hid (w13_.heap.size ≤ w13_.heap.size) := Lib.hid (Nat.le_refl _)
  replace hO := hO.mono HB.out.size
  replace A0 := Lib.hid (A0.out.behind (hb.mono HB.out.size))
  replace O_w0 := Lib.hid (O_w0.out.next hb)
  replace S_w0 := Lib.hid (Nat.le_trans S_w0.out hb.size)
  replace O_g0 := Lib.hid (O_g0.out.next hb)
  replace S_g0 := Lib.hid (Nat.le_trans S_g0.out hb.size)
  replace O_t3 := Lib.hid (O_t3.out.next hb)
  replace S_t3 := Lib.hid (Nat.le_trans S_t3.out hb.size)
  replace HB := Lib.hid (HB.out.trans (hb.mono HB.out.size))
  clear hb
  have O_h0 := Lib.hid hO
  clear hO
  clear O_t3 S_t3 D_t3
  clear A0
  -- ('eq', 'Byte', ('own', 'h0'), ('own', 'w0'))
  go_wp2_with fail
  refine (eqByteS_same O_h0.out.rd O_w0.out.rd (Nat.le_refl _) (Nat.le_refl _)).mono ?_
  rintro e w14_ ⟨he, hb⟩
  subst he
  replace O_w0 := Lib.hid (O_w0.out.next hb)
  replace S_w0 := Lib.hid (Nat.le_trans S_w0.out hb.size)
  replace O_g0 := Lib.hid (O_g0.out.next hb)
  replace S_g0 := Lib.hid (Nat.le_trans S_g0.out hb.size)
  replace O_h0 := Lib.hid (O_h0.out.next hb)
  replace S_h0 := Lib.hid (Nat.le_trans S_h0.out hb.size)
  replace HB := Lib.hid (HB.out.trans (hb.mono HB.out.size))
  clear hb
  clear O_w0 S_w0 D_w0
  clear T_w0
  clear P_w0_g0
  clear O_h0 S_h0 D_h0
  clear T_h0
  -- ('set', 'q', '1')
  -- ('held', 'q', 'Byte', 'g0', 'q')
  go_wp2_with fail
  refine (heldByteS_any (k0 := 1) O_g0.out.rd (Nat.le_refl _) (by omega) (by have := HK10.out; omega)).mono ?_
  rintro e w15_ ⟨he, hb⟩
  rw [← HK10.out] at he
  subst he
  replace O_g0 := Lib.hid (O_g0.out.next hb)
  replace S_g0 := Lib.hid (Nat.le_trans S_g0.out hb.size)
  replace HB := Lib.hid (HB.out.trans (hb.mono HB.out.size))
  clear hb
  clear O_g0 S_g0 D_g0
  clear T_g0
  go_wp2_with fail
  go_ret
  exact ⟨rfl, HB.out⟩

end Go.Proofs.Ytigeghmkkppldaa
