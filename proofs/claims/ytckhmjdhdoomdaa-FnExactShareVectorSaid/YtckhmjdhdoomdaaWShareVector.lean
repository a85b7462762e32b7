/- FnExactShareVector: the walk. No conditions. -/
import Derived.Test.YtckhmjdhdoomdaaSk8
import Derived.Test.YtckhmjdhdoomdaaBa3
import Derived.Test.YtckhmjdhdoomdaaBa6
import Derived.Test.YtckhmjdhdoomdaaBa5
namespace Go.Proofs.Ytckhmjdhdoomdaa
open Go Go.RowKit
set_option linter.unusedVariables false

set_option maxHeartbeats 4000000 in
set_option maxRecDepth 20000 in
theorem fnExactShareVector_walk (a0 : Option Addr) (len0 cap0 : Nat) (z0 : List Int) (a1 : Option Addr) (len1 cap1 : Nat) (z1 : List Int) (w : World) (w0 : IsRow .i64 w a0 len0 cap0 z0) (w1 : IsRow .i64 w a1 len1 cap1 z1) :
    Calls Try.prog 6 #[.slice a0 len0 cap0, .slice a1 len1 cap1] w fun e w' => e = .returned (.bool true) ∧ Below w.heap.size w w' := by
  obtain ⟨s0, A0, l0⟩ : ∃ s, Rd w.heap.size .i64 w (.slice a0 len0 cap0) s ∧ len0 = s.length := ⟨z0.take len0, w0.rd, w0.rd.len_eq⟩
  subst l0
  replace A0 := Lib.hid A0
  clear w0
  have m0 : s0.length ≤ 9223372036854775807 := by have := A0.out.len; unfold maxLen at this; omega
  obtain ⟨s1, A1, l1⟩ : ∃ s, Rd w.heap.size .i64 w (.slice a1 len1 cap1) s ∧ len1 = s.length := ⟨z1.take len1, w1.rd, w1.rd.len_eq⟩
  subst l1
  replace A1 := Lib.hid A1
  clear w1
  have m1 : s1.length ≤ 9223372036854775807 := by have := A1.out.len; unfold maxLen at this; omega
  by_cases b0 : 1048576 < s0.length
  · have b0' : decide ((1048576 : Int) < (s0.length : Int)) = true := by simp; omega
    go_enter Try.func6, Try.ntmps6
    go_wp2_with fail
    go_ret
    exact ⟨rfl, Below.refl _ _⟩
  have b0' : decide ((1048576 : Int) < (s0.length : Int)) = false := by simp; omega
  by_cases b1 : 1048576 < s1.length
  · have b1' : decide ((1048576 : Int) < (s1.length : Int)) = true := by simp; omega
    go_enter Try.func6, Try.ntmps6
    go_wp2_with fail
    go_ret
    exact ⟨rfl, Below.refl _ _⟩
  have b1' : decide ((1048576 : Int) < (s1.length : Int)) = false := by simp; omega
  have HB := Lib.hid (Below.refl w.heap.size w)
  go_enter Try.func6, Try.ntmps6
  -- ('big', 0)
  -- ('big', 1)
  -- ('call', 'spec', 'ShareVector', [('copy', 0, 'Int'), ('copy', 1, 'Int')], ['w0'])
  go_wp2_with fail
  refine (toIntS_any A0.out HB.out.size (by omega)).mono ?_
  rintro e w1_ ⟨v_t1, he, hO, hb⟩
  subst he
  have D_t1 := Lib.hid HB.out.size
  have T_t1 := Lib.hid hO.lt
  have S_t1 : Hid (w1_.heap.size ≤ w1_.heap.size) := Lib.hid (Nat.le_refl _)
  replace hO := hO.mono HB.out.size
  replace A0 := Lib.hid (A0.out.behind (hb.mono HB.out.size))
  replace A1 := Lib.hid (A1.out.behind (hb.mono HB.out.size))
  replace HB := Lib.hid (HB.out.trans (hb.mono HB.out.size))
  clear hb
  have O_t1 := Lib.hid hO
  clear hO
  go_wp2_with fail
  refine (toIntS_any A1.out HB.out.size (by omega)).mono ?_
  rintro e w2_ ⟨v_t2, he, hO, hb⟩
  subst he
  have D_t2 := Lib.hid HB.out.size
  have T_t2 := Lib.hid hO.lt
  have S_t2 : Hid (w2_.heap.size ≤ w2_.heap.size) := Lib.hid (Nat.le_refl _)
  replace hO := hO.mono HB.out.size
  replace A0 := Lib.hid (A0.out.behind (hb.mono HB.out.size))
  replace A1 := Lib.hid (A1.out.behind (hb.mono HB.out.size))
  replace O_t1 := Lib.hid (O_t1.out.next hb)
  replace S_t1 := Lib.hid (Nat.le_trans S_t1.out hb.size)
  replace HB := Lib.hid (HB.out.trans (hb.mono HB.out.size))
  clear hb
  have O_t2 := Lib.hid hO
  clear hO
  go_wp2_with fail
  refine (spec_shV O_t1.out.rd O_t2.out.rd (Nat.le_refl _) (Nat.le_refl _) (by omega)).mono ?_
  rintro e w3_ ⟨v_w0, he, hO, hb⟩
  subst he
  have D_w0 := Lib.hid HB.out.size
  have S_w0 : Hid (w3_.heap.size ≤ w3_.heap.size) := Lib.hid (Nat.le_refl _)
  replace A0 := Lib.hid (A0.out.behind (hb.mono HB.out.size))
  replace A1 := Lib.hid (A1.out.behind (hb.mono HB.out.size))
  replace O_t1 := Lib.hid (O_t1.out.next hb)
  replace S_t1 := Lib.hid (Nat.le_trans S_t1.out hb.size)
  replace O_t2 := Lib.hid (O_t2.out.next hb)
  replace S_t2 := Lib.hid (Nat.le_trans S_t2.out hb.size)
  replace HB := Lib.hid (HB.out.trans (hb.mono HB.out.size))
  clear hb
  have O_w0 := Lib.hid hO
  clear hO
  clear O_t1 S_t1 D_t1
  clear T_t1
  clear O_t2 S_t2 D_t2
  clear T_t2
  -- ('copy', 'x0', 0, 'Int')
  go_wp2_with fail
  refine (toIntS_any A0.out HB.out.size (by omega)).mono ?_
  rintro e w4_ ⟨v_x0, he, hO, hb⟩
  subst he
  have P_w0_x0 := S_w0
  have D_x0 := Lib.hid HB.out.size
  have T_x0 := Lib.hid hO.lt
  have S_x0 : Hid (w4_.heap.size ≤ w4_.heap.size) := Lib.hid (Nat.le_refl _)
  replace hO := hO.mono HB.out.size
  replace A0 := Lib.hid (A0.out.behind (hb.mono HB.out.size))
  replace A1 := Lib.hid (A1.out.behind (hb.mono HB.out.size))
  replace O_w0 := Lib.hid (O_w0.out.next hb)
  replace S_w0 := Lib.hid (Nat.le_trans S_w0.out hb.size)
  replace HB := Lib.hid (HB.out.trans (hb.mono HB.out.size))
  clear hb
  have O_x0 := Lib.hid hO
  clear hO
  -- ('copy', 'x1', 1, 'Int')
  go_wp2_with fail
  refine (toIntS_any A1.out HB.out.size (by omega)).mono ?_
  rintro e w5_ ⟨v_x1, he, hO, hb⟩
  subst he
  have P_w0_x1 := S_w0
  have P_x0_x1 := S_x0
  have D_x1 := Lib.hid HB.out.size
  have T_x1 := Lib.hid hO.lt
  have S_x1 : Hid (w5_.heap.size ≤ w5_.heap.size) := Lib.hid (Nat.le_refl _)
  replace hO := hO.mono HB.out.size
  replace A0 := Lib.hid (A0.out.behind (hb.mono HB.out.size))
  replace A1 := Lib.hid (A1.out.behind (hb.mono HB.out.size))
  replace O_w0 := Lib.hid (O_w0.out.next hb)
  replace S_w0 := Lib.hid (Nat.le_trans S_w0.out hb.size)
  replace O_x0 := Lib.hid (O_x0.out.next hb)
  replace S_x0 := Lib.hid (Nat.le_trans S_x0.out hb.size)
  replace HB := Lib.hid (HB.out.trans (hb.mono HB.out.size))
  clear hb
  have O_x1 := Lib.hid hO
  clear hO
  -- ('call', 'impl', 'ShareVector', [('own', 'x0'), ('own', 'x1')], ['g0'])
  go_wp2_with fail
  refine (impl_shV O_x0.out.rd O_x1.out.rd (Nat.le_refl _) (Nat.le_refl _) (by omega)).mono ?_
  rintro e w6_ ⟨v_g0, he, hO, hb⟩
  subst he
  have P_w0_g0 := S_w0
  have P_x0_g0 := S_x0
  have P_x1_g0 := S_x1
  have D_g0 := Lib.hid HB.out.size
  have S_g0 : Hid (w6_.heap.size ≤ w6_.heap.size) := Lib.hid (Nat.le_refl _)
  replace A0 := Lib.hid (A0.out.behind (hb.mono HB.out.size))
  replace A1 := Lib.hid (A1.out.behind (hb.mono HB.out.size))
  replace O_w0 := Lib.hid (O_w0.out.next hb)
  replace S_w0 := Lib.hid (Nat.le_trans S_w0.out hb.size)
  replace O_x0 := Lib.hid (O_x0.out.next hb)
  replace S_x0 := Lib.hid (Nat.le_trans S_x0.out hb.size)
  replace O_x1 := Lib.hid (O_x1.out.next hb)
  replace S_x1 := Lib.hid (Nat.le_trans S_x1.out hb.size)
  replace HB := Lib.hid (HB.out.trans (hb.mono HB.out.size))
  clear hb
  have O_g0 := Lib.hid hO
  clear hO
  -- ('eq', 'IntSS', ('own', 'g0'), ('own', 'w0'))
  go_wp2_with fail
  refine (eqIntSS_same O_g0.out.rd2 O_w0.out.rd2 (Nat.le_refl _) (Nat.le_refl _)).mono ?_
  rintro e w7_ ⟨he, hb⟩
  subst he
  replace A0 := Lib.hid (A0.out.behind (hb.mono HB.out.size))
  replace A1 := Lib.hid (A1.out.behind (hb.mono HB.out.size))
  replace O_w0 := Lib.hid (O_w0.out.next hb)
  replace S_w0 := Lib.hid (Nat.le_trans S_w0.out hb.size)
  replace O_x0 := Lib.hid (O_x0.out.next hb)
  replace S_x0 := Lib.hid (Nat.le_trans S_x0.out hb.size)
  replace O_x1 := Lib.hid (O_x1.out.next hb)
  replace S_x1 := Lib.hid (Nat.le_trans S_x1.out hb.size)
  replace O_g0 := Lib.hid (O_g0.out.next hb)
  replace S_g0 := Lib.hid (Nat.le_trans S_g0.out hb.size)
  replace HB := Lib.hid (HB.out.trans (hb.mono HB.out.size))
  clear hb
  -- ('eq', 'Int', ('own', 'x0'), ('copy', 0, 'Int'))
  go_wp2_with fail
  refine (toIntS_any A0.out HB.out.size (by omega)).mono ?_
  rintro e w8_ ⟨v_t3, he, hO, hb⟩
  subst he
  have P_x0_t3 := S_x0
  have P_x1_t3 := S_x1
  have P_g0_t3 := S_g0
  have D_t3 := Lib.hid HB.out.size
  have T_t3 := Lib.hid hO.lt
  have S_t3 : Hid (w8_.heap.size ≤ w8_.heap.size) := Lib.hid (Nat.le_refl _)
  replace hO := hO.mono HB.out.size
  replace A0 := Lib.hid (A0.out.behind (hb.mono HB.out.size))
  replace A1 := Lib.hid (A1.out.behind (hb.mono HB.out.size))
  replace O_w0 := Lib.hid (O_w0.out.next hb)
  replace S_w0 := Lib.hid (Nat.le_trans S_w0.out hb.size)
  replace O_x0 := Lib.hid (O_x0.out.next hb)
  replace S_x0 := Lib.hid (Nat.le_trans S_x0.out hb.size)
  replace O_x1 := Lib.hid (O_x1.out.next hb)
  replace S_x1 := Lib.hid (Nat.le_trans S_x1.out hb.size)
  replace O_g0 := Lib.hid (O_g0.out.next hb)
  replace S_g0 := Lib.hid (Nat.le_trans S_g0.out hb.size)
  replace HB := Lib.hid (HB.out.trans (hb.mono HB.out.size))
  clear hb
  have O_t3 := Lib.hid hO
  clear hO
  go_wp2_with fail
  refine (eqIntS_same O_x0.out.rd O_t3.out.rd (Nat.le_refl _) (Nat.le_refl _)).mono ?_
  rintro e w9_ ⟨he, hb⟩
  subst he
  replace A0 := Lib.hid (A0.out.behind (hb.mono HB.out.size))
  replace A1 := Lib.hid (A1.out.behind (hb.mono HB.out.size))
  replace O_w0 := Lib.hid (O_w0.out.next hb)
  replace S_w0 := Lib.hid (Nat.le_trans S_w0.out hb.size)
  replace O_x0 := Lib.hid (O_x0.out.next hb)
  replace S_x0 := Lib.hid (Nat.le_trans S_x0.out hb.size)
  replace O_x1 := Lib.hid (O_x1.out.next hb)
  replace S_x1 := Lib.hid (Nat.le_trans S_x1.out hb.size)
  replace O_g0 := Lib.hid (O_g0.out.next hb)
  replace S_g0 := Lib.hid (Nat.le_trans S_g0.out hb.size)
  replace O_t3 := Lib.hid (O_t3.out.next hb)
  replace S_t3 := Lib.hid (Nat.le_trans S_t3.out hb.size)
  replace HB := Lib.hid (HB.out.trans (hb.mono HB.out.size))
  clear hb
  clear O_t3 S_t3 D_t3
  clear T_t3
  clear P_x0_t3
  clear P_x1_t3
  clear P_g0_t3
  -- ('eq', 'Int', ('own', 'x1'), ('copy', 1, 'Int'))
  go_wp2_with fail
  refine (toIntS_any A1.out HB.out.size (by omega)).mono ?_
  rintro e w10_ ⟨v_t4, he, hO, hb⟩
  subst he
  have P_x0_t4 := S_x0
  have P_x1_t4 := S_x1
  have P_g0_t4 := S_g0
  have D_t4 := Lib.hid HB.out.size
  have T_t4 := Lib.hid hO.lt
  have S_t4 : Hid (w10_.heap.size ≤ w10_.heap.size) := Lib.hid (Nat.le_refl _)
  replace hO := hO.mono HB.out.size
  replace A0 := Lib.hid (A0.out.behind (hb.mono HB.out.size))
  replace A1 := Lib.hid (A1.out.behind (hb.mono HB.out.size))
  replace O_w0 := Lib.hid (O_w0.out.next hb)
  replace S_w0 := Lib.hid (Nat.le_trans S_w0.out hb.size)
  replace O_x0 := Lib.hid (O_x0.out.next hb)
  replace S_x0 := Lib.hid (Nat.le_trans S_x0.out hb.size)
  replace O_x1 := Lib.hid (O_x1.out.next hb)
  replace S_x1 := Lib.hid (Nat.le_trans S_x1.out hb.size)
  replace O_g0 := Lib.hid (O_g0.out.next hb)
  replace S_g0 := Lib.hid (Nat.le_trans S_g0.out hb.size)
  replace HB := Lib.hid (HB.out.trans (hb.mono HB.out.size))
  clear hb
  have O_t4 := Lib.hid hO
  clear hO
  go_wp2_with fail
  refine (eqIntS_same O_x1.out.rd O_t4.out.rd (Nat.le_refl _) (Nat.le_refl _)).mono ?_
  rintro e w11_ ⟨he, hb⟩
  subst he
  replace A0 := Lib.hid (A0.out.behind (hb.mono HB.out.size))
  replace A1 := Lib.hid (A1.out.behind (hb.mono HB.out.size))
  replace O_w0 := Lib.hid (O_w0.out.next hb)
  replace S_w0 := Lib.hid (Nat.le_trans S_w0.out hb.size)
  replace O_x0 := Lib.hid (O_x0.out.next hb)
  replace S_x0 := Lib.hid (Nat.le_trans S_x0.out hb.size)
  replace O_x1 := Lib.hid (O_x1.out.next hb)
  replace S_x1 := Lib.hid (Nat.le_trans S_x1.out hb.size)
  replace O_g0 := Lib.hid (O_g0.out.next hb)
  replace S_g0 := Lib.hid (Nat.le_trans S_g0.out hb.size)
  replace O_t4 := Lib.hid (O_t4.out.next hb)
  replace S_t4 := Lib.hid (Nat.le_trans S_t4.out hb.size)
  replace HB := Lib.hid (HB.out.trans (hb.mono HB.out.size))
  clear hb
  clear O_t4 S_t4 D_t4
  clear T_t4
  clear P_x0_t4
  clear P_x1_t4
  clear P_g0_t4
  -- ('set', 'k', '1')
  -- ('mark', 'k', 'Int', 'x0', 'k')
  have hF10 : (s0).length ≤ 1099511627776 := by omega
  obtain ⟨K10, hK10⟩ : ∃ K : Int, K = 1 + (((s0).length : Nat) : Int) := ⟨_, rfl⟩
  go_wp2_with fail
  refine (markIntS_any (k0 := 1) O_x0.out (by omega) (by omega)).mono ?_
  rintro e w12_ ⟨he, hO, hG⟩
  rw [← hK10] at he
  subst he
  have hb := O_x0.out.below (Nat.le_refl _) hG
  replace A0 := Lib.hid (A0.out.behind hb)
  replace A1 := Lib.hid (A1.out.behind hb)
  replace O_w0 := Lib.hid (O_w0.out.keptF (KeptF.of_grown hG (ival_of T_x0.out)) (ival_disj (.inl P_w0_x0.out)))
  replace S_w0 := Lib.hid (Nat.le_trans S_w0.out hb.size)
  replace O_x1 := Lib.hid (O_x1.out.beside (apart_ival T_x1.out T_x0.out (.inr P_x0_x1.out)) hG)
  replace S_x1 := Lib.hid (Nat.le_trans S_x1.out hb.size)
  replace O_g0 := Lib.hid (O_g0.out.keptF (KeptF.of_grown hG (ival_of T_x0.out)) (ival_disj (.inr P_x0_g0.out)))
  replace S_g0 := Lib.hid (Nat.le_trans S_g0.out hb.size)
  replace O_x0 := Lib.hid hO
  replace S_x0 := Lib.hid (Nat.le_trans S_x0.out hb.size)
  replace HB := Lib.hid (HB.out.trans hb)
  clear hb hO hG
  have lK10 : 0 ≤ K10 ∧ K10 ≤ 1099511627777 := by omega
  have dK10 : decide (K10 < 0) = false := by simp; omega
  have HK10 := Lib.hid hK10
  clear hK10 hF10
  clear O_x0 S_x0 D_x0
  clear T_x0
  clear P_w0_x0
  clear P_x0_x1
  clear P_x0_g0
  -- ('mark', 'k', 'Int', 'x1', 'k')
  have hF11 : (s1).length ≤ 1099511627776 := by omega
  obtain ⟨K11, hK11⟩ : ∃ K : Int, K = K10 + (((s1).length : Nat) : Int) := ⟨_, rfl⟩
  go_wp2_with fail
  refine (markIntS_any (k0 := K10) O_x1.out (by omega) (by omega)).mono ?_
  rintro e w13_ ⟨he, hO, hG⟩
  rw [← hK11] at he
  subst he
  have hb := O_x1.out.below (Nat.le_refl _) hG
  replace A0 := Lib.hid (A0.out.behind hb)
  replace A1 := Lib.hid (A1.out.behind hb)
  replace O_w0 := Lib.hid (O_w0.out.keptF (KeptF.of_grown hG (ival_of T_x1.out)) (ival_disj (.inl P_w0_x1.out)))
  replace S_w0 := Lib.hid (Nat.le_trans S_w0.out hb.size)
  replace O_g0 := Lib.hid (O_g0.out.keptF (KeptF.of_grown hG (ival_of T_x1.out)) (ival_disj (.inr P_x1_g0.out)))
  replace S_g0 := Lib.hid (Nat.le_trans S_g0.out hb.size)
  replace O_x1 := Lib.hid hO
  replace S_x1 := Lib.hid (Nat.le_trans S_x1.out hb.size)
  replace HB := Lib.hid (HB.out.trans hb)
  clear hb hO hG
  have lK11 : 0 ≤ K11 ∧ K11 ≤ 2199023255553 := by omega
  have dK11 : decide (K11 < 0) = false := by simp; omega
  have HK11 := Lib.hid hK11
  clear hK11 hF11
  clear O_x1 S_x1 D_x1
  clear T_x1
  clear P_w0_x1
  clear P_x1_g0
  -- ('eq', 'IntSS', ('own', 'g0'), ('own', 'w0'))
  go_wp2_with fail
  refine (eqIntSS_same O_g0.out.rd2 O_w0.out.rd2 (Nat.le_refl _) (Nat.le_refl _)).mono ?_
  rintro e w14_ ⟨he, hb⟩
  subst he
  replace A0 := Lib.hid (A0.out.behind (hb.mono HB.out.size))
  replace A1 := Lib.hid (A1.out.behind (hb.mono HB.out.size))
  replace O_w0 := Lib.hid (O_w0.out.next hb)
  replace S_w0 := Lib.hid (Nat.le_trans S_w0.out hb.size)
  replace O_g0 := Lib.hid (O_g0.out.next hb)
  replace S_g0 := Lib.hid (Nat.le_trans S_g0.out hb.size)
  replace HB := Lib.hid (HB.out.trans (hb.mono HB.out.size))
  clear hb
  -- ('set', 'm', '1')
  -- ('mark', 'm', 'IntSS', 'g0', 'm')
  have hF14 : fl ((shV s0 s1)) ≤ 1099511627776 := by have := shV_fl s0 s1; omega
  obtain ⟨K14, hK14⟩ : ∃ K : Int, K = 1 + ((fl ((shV s0 s1)) : Nat) : Int) := ⟨_, rfl⟩
  go_wp2_with fail
  refine (markIntSS_any (k0 := 1) O_g0.out (by omega) (by omega)).mono ?_
  rintro e w15_ ⟨he, hO, hG⟩
  rw [← hK14] at he
  subst he
  have hb := hG.below (B := w.heap.size) (fun b hb => Nat.le_trans D_g0.out hb.1) HB.out.size
  replace A0 := Lib.hid (A0.out.behind hb)
  replace A1 := Lib.hid (A1.out.behind hb)
  replace O_w0 := Lib.hid (O_w0.out.keptF hG (ival_disj (.inl P_w0_g0.out)))
  replace S_w0 := Lib.hid (Nat.le_trans S_w0.out hb.size)
  replace O_g0 := Lib.hid hO
  replace S_g0 := Lib.hid (Nat.le_trans S_g0.out hb.size)
  replace HB := Lib.hid (HB.out.trans hb)
  clear hb hO hG
  have lK14 : 0 ≤ K14 ∧ K14 ≤ 1099511627777 := by omega
  have dK14 : decide (K14 < 0) = false := by simp; omega
  have HK14 := Lib.hid hK14
  clear hK14 hF14
  -- ('set', 'q', '1')
  -- ('held', 'q', 'IntSS', 'g0', 'q')
  go_wp2_with fail
  refine (heldIntSS_any (k0 := 1) O_g0.out.rd2 (Nat.le_refl _) (by omega) (by have := HK14.out; omega)).mono ?_
  rintro e w16_ ⟨he, hb⟩
  rw [← HK14.out] at he
  subst he
  replace A0 := Lib.hid (A0.out.behind (hb.mono HB.out.size))
  replace A1 := Lib.hid (A1.out.behind (hb.mono HB.out.size))
  replace O_w0 := Lib.hid (O_w0.out.next hb)
  replace S_w0 := Lib.hid (Nat.le_trans S_w0.out hb.size)
  replace O_g0 := Lib.hid (O_g0.out.next hb)
  replace S_g0 := Lib.hid (Nat.le_trans S_g0.out hb.size)
  replace HB := Lib.hid (HB.out.trans (hb.mono HB.out.size))
  clear hb
  -- ('call', 'impl', 'ShareVector', [('copy', 0, 'Int'), ('copy', 1, 'Int')], ['h0'])
  go_wp2_with fail
  refine (toIntS_any A0.out HB.out.size (by omega)).mono ?_
  rintro e w17_ ⟨v_t5, he, hO, hb⟩
  subst he
  have D_t5 := Lib.hid HB.out.size
  have T_t5 := Lib.hid hO.lt
  have S_t5 : Hid (w17_.heap.size ≤ w17_.heap.size) := Lib.hid (Nat.le_refl _)
  replace hO := hO.mono HB.out.size
  replace A0 := Lib.hid (A0.out.behind (hb.mono HB.out.size))
  replace A1 := Lib.hid (A1.out.behind (hb.mono HB.out.size))
  replace O_w0 := Lib.hid (O_w0.out.next hb)
  replace S_w0 := Lib.hid (Nat.le_trans S_w0.out hb.size)
  replace O_g0 := Lib.hid (O_g0.out.next hb)
  replace S_g0 := Lib.hid (Nat.le_trans S_g0.out hb.size)
  replace HB := Lib.hid (HB.out.trans (hb.mono HB.out.size))
  clear hb
  have O_t5 := Lib.hid hO
  clear hO
  go_wp2_with fail
  refine (toIntS_any A1.out HB.out.size (by omega)).mono ?_
  rintro e w18_ ⟨v_t6, he, hO, hb⟩
  subst he
  have D_t6 := Lib.hid HB.out.size
  have T_t6 := Lib.hid hO.lt
  have S_t6 : Hid (w18_.heap.size ≤ w18_.heap.size) := Lib.hid (Nat.le_refl _)
  replace hO := hO.mono HB.out.size
  replace A0 := Lib.hid (A0.out.behind (hb.mono HB.out.size))
  replace A1 := Lib.hid (A1.out.behind (hb.mono HB.out.size))
  replace O_w0 := Lib.hid (O_w0.out.next hb)
  replace S_w0 := Lib.hid (Nat.le_trans S_w0.out hb.size)
  replace O_g0 := Lib.hid (O_g0.out.next hb)
  replace S_g0 := Lib.hid (Nat.le_trans S_g0.out hb.size)
  replace O_t5 := Lib.hid (O_t5.out.next hb)
  replace S_t5 := Lib.hid (Nat.le_trans S_t5.out hb.size)
  replace HB := Lib.hid (HB.out.trans (hb.mono HB.out.size))
  clear hb
  have O_t6 := Lib.hid hO
  clear hO
  go_wp2_with fail
  refine (impl_shV O_t5.out.rd O_t6.out.rd (Nat.le_refl _) (Nat.le_refl _) (by omega)).mono ?_
  rintro e w19_ ⟨v_h0, he, hO, hb⟩
  subst he
  have D_h0 := Lib.hid HB.out.size
  have S_h0 : Hid (w19_.heap.size ≤ w19_.heap.size) := Lib.hid (Nat.le_refl _)
  replace A0 := Lib.hid (A0.out.behind (hb.mono HB.out.size))
  replace A1 := Lib.hid (A1.out.behind (hb.mono HB.out.size))
  replace O_w0 := Lib.hid (O_w0.out.next hb)
  replace S_w0 := Lib.hid (Nat.le_trans S_w0.out hb.size)
  replace O_g0 := Lib.hid (O_g0.out.next hb)
  replace S_g0 := Lib.hid (Nat.le_trans S_g0.out hb.size)
  replace O_t5 := Lib.hid (O_t5.out.next hb)
  replace S_t5 := Lib.hid (Nat.le_trans S_t5.out hb.size)
  replace O_t6 := Lib.hid (O_t6.out.next hb)
  replace S_t6 := Lib.hid (Nat.le_trans S_t6.out hb.size)
  replace HB := Lib.hid (HB.out.trans (hb.mono HB.out.size))
  clear hb
  have O_h0 := Lib.hid hO
  clear hO
  clear O_t5 S_t5 D_t5
  clear T_t5
  clear O_t6 S_t6 D_t6
  clear T_t6
  clear A0
  clear A1
  -- ('eq', 'IntSS', ('own', 'h0'), ('own', 'w0'))
  go_wp2_with fail
  refine (eqIntSS_same O_h0.out.rd2 O_w0.out.rd2 (Nat.le_refl _) (Nat.le_refl _)).mono ?_
  rintro e w20_ ⟨he, hb⟩
  subst he
  replace O_w0 := Lib.hid (O_w0.out.next hb)
  replace S_w0 := Lib.hid (Nat.le_trans S_w0.out hb.size)
  replace O_g0 := Lib.hid (O_g0.out.next hb)
  replace S_g0 := Lib.hid (Nat.le_trans S_g0.out hb.size)
  replace O_h0 := Lib.hid (O_h0.out.next hb)
  replace S_h0 := Lib.hid (Nat.le_trans S_h0.out hb.size)
  replace HB := Lib.hid (HB.out.trans (hb.mono HB.out.size))
  clear hb
  clear O_w0 S_w0 D_w0
  clear P_w0_g0
  clear O_h0 S_h0 D_h0
  -- ('set', 'q', '1')
  -- ('held', 'q', 'IntSS', 'g0', 'q')
  go_wp2_with fail
  refine (heldIntSS_any (k0 := 1) O_g0.out.rd2 (Nat.le_refl _) (by omega) (by have := HK14.out; omega)).mono ?_
  rintro e w21_ ⟨he, hb⟩
  rw [← HK14.out] at he
  subst he
  replace O_g0 := Lib.hid (O_g0.out.next hb)
  replace S_g0 := Lib.hid (Nat.le_trans S_g0.out hb.size)
  replace HB := Lib.hid (HB.out.trans (hb.mono HB.out.size))
  clear hb
  clear O_g0 S_g0 D_g0
  go_wp2_with fail
  go_ret
  exact ⟨rfl, HB.out⟩

end Go.Proofs.Ytckhmjdhdoomdaa
