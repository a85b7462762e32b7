/- FnExactMakeQuery: the walk. No conditions. -/
import Derived.Test.YtgkacdaimhdcoaaQu1
import Derived.Test.YtgkacdaimhdcoaaQu2
import Derived.Test.YtgkacdaimhdcoaaBa3
import Derived.Test.YtgkacdaimhdcoaaBa6
import Derived.Test.YtgkacdaimhdcoaaBa5
namespace Go.Proofs.Ytgkacdaimhdcoaa
open Go Go.RowKit
set_option linter.unusedVariables false

set_option maxHeartbeats 4000000 in
set_option maxRecDepth 20000 in
theorem fnExactMakeQuery_walk (a0 : Int) (a1 : Int) (a2 : Option Addr) (len2 cap2 : Nat) (z2 : List Int) (w : World) (w0 : (Lit.int .i64 a0).wf = true) (w1 : (Lit.int .i64 a1).wf = true) (w2 : IsRow .i64 w a2 len2 cap2 z2) :
    Calls Try.prog 5 #[.int .i64 a0, .int .i64 a1, .slice a2 len2 cap2] w fun e w' => e = .returned (.bool true) ∧ Below w.heap.size w w' := by
  obtain ⟨s2, A2, l2⟩ : ∃ s, Rd w.heap.size .i64 w (.slice a2 len2 cap2) s ∧ len2 = s.length := ⟨z2.take len2, w2.rd, w2.rd.len_eq⟩
  subst l2
  replace A2 := Lib.hid A2
  clear w2
  have m2 : s2.length ≤ 9223372036854775807 := by have := A2.out.len; unfold maxLen at this; omega
  have W0 := Lib.hid w0
  have w0b := wf_i64 w0
  clear w0
  have W1 := Lib.hid w1
  have w1b := wf_i64 w1
  clear w1
  by_cases b2 : 1048576 < s2.length
  · have b2' : decide ((1048576 : Int) < (s2.length : Int)) = true := by simp; omega
    go_enter Try.func5, Try.ntmps5
    go_wp2_with fail
    go_ret
    exact ⟨rfl, Below.refl _ _⟩
  have b2' : decide ((1048576 : Int) < (s2.length : Int)) = false := by simp; omega
  have HB := Lib.hid (Below.refl w.heap.size w)
  go_enter Try.func5, Try.ntmps5
  -- ('big', 2)
  -- ('call', 'spec', 'MakeQuery', [('arg', 0), ('arg', 1), ('copy', 2, 'Int')], ['w0'])
  go_wp2_with fail
  refine (toIntS_any A2.out HB.out.size (by omega)).mono ?_
  rintro e w1_ ⟨v_t1, he, hO, hb⟩
  subst he
  have D_t1 := Lib.hid HB.out.size
  have T_t1 := Lib.hid hO.lt
  have S_t1 : Hid (w1_.heap.size ≤ w1_.heap.size) := Lib.hid (Nat.le_refl _)
  replace hO := hO.mono HB.out.size
  replace A2 := Lib.hid (A2.out.behind (hb.mono HB.out.size))
  replace HB := Lib.hid (HB.out.trans (hb.mono HB.out.size))
  clear hb
  have O_t1 := Lib.hid hO
  clear hO
  go_wp2_with fail
  refine (spec_mkq O_t1.out.rd (Nat.le_refl _) W0.out W1.out (by omega)).mono ?_
  rintro e w2_ ⟨v_w0, he, hO, hb⟩
  subst he
  have D_w0 := Lib.hid HB.out.size
  have S_w0 : Hid (w2_.heap.size ≤ w2_.heap.size) := Lib.hid (Nat.le_refl _)
  replace A2 := Lib.hid (A2.out.behind (hb.mono HB.out.size))
  replace O_t1 := Lib.hid (O_t1.out.next hb)
  replace S_t1 := Lib.hid (Nat.le_trans S_t1.out hb.size)
  replace HB := Lib.hid (HB.out.trans (hb.mono HB.out.size))
  clear hb
  have O_w0 := Lib.hid hO
  clear hO
  clear O_t1 S_t1 D_t1
  clear T_t1
  -- ('copy', 'x2', 2, 'Int')
  go_wp2_with fail
  refine (toIntS_any A2.out HB.out.size (by omega)).mono ?_
  rintro e w3_ ⟨v_x2, he, hO, hb⟩
  subst he
  have P_w0_x2 := S_w0
  have D_x2 := Lib.hid HB.out.size
  have T_x2 := Lib.hid hO.lt
  have S_x2 : Hid (w3_.heap.size ≤ w3_.heap.size) := Lib.hid (Nat.le_refl _)
  replace hO := hO.mono HB.out.size
  replace A2 := Lib.hid (A2.out.behind (hb.mono HB.out.size))
  replace O_w0 := Lib.hid (O_w0.out.next hb)
  replace S_w0 := Lib.hid (Nat.le_trans S_w0.out hb.size)
  replace HB := Lib.hid (HB.out.trans (hb.mono HB.out.size))
  clear hb
  have O_x2 := Lib.hid hO
  clear hO
  -- ('call', 'impl', 'MakeQuery', [('arg', 0), ('arg', 1), ('own', 'x2')], ['g0'])
  go_wp2_with fail
  refine (impl_mkq O_x2.out.rd (Nat.le_refl _) W0.out W1.out (by omega)).mono ?_
  rintro e w4_ ⟨v_g0, he, hO, hb⟩
  subst he
  have P_w0_g0 := S_w0
  have P_x2_g0 := S_x2
  have D_g0 := Lib.hid HB.out.size
  have S_g0 : Hid (w4_.heap.size ≤ w4_.heap.size) := Lib.hid (Nat.le_refl _)
  replace A2 := Lib.hid (A2.out.behind (hb.mono HB.out.size))
  replace O_w0 := Lib.hid (O_w0.out.next hb)
  replace S_w0 := Lib.hid (Nat.le_trans S_w0.out hb.size)
  replace O_x2 := Lib.hid (O_x2.out.next hb)
  replace S_x2 := Lib.hid (Nat.le_trans S_x2.out hb.size)
  replace HB := Lib.hid (HB.out.trans (hb.mono HB.out.size))
  clear hb
  have O_g0 := Lib.hid hO
  clear hO
  -- ('eq', 'IntSS', ('own', 'g0'), ('own', 'w0'))
  go_wp2_with fail
  refine (eqIntSS_same O_g0.out.rd2 O_w0.out.rd2 (Nat.le_refl _) (Nat.le_refl _)).mono ?_
  rintro e w5_ ⟨he, hb⟩
  subst he
  replace A2 := Lib.hid (A2.out.behind (hb.mono HB.out.size))
  replace O_w0 := Lib.hid (O_w0.out.next hb)
  replace S_w0 := Lib.hid (Nat.le_trans S_w0.out hb.size)
  replace O_x2 := Lib.hid (O_x2.out.next hb)
  replace S_x2 := Lib.hid (Nat.le_trans S_x2.out hb.size)
  replace O_g0 := Lib.hid (O_g0.out.next hb)
  replace S_g0 := Lib.hid (Nat.le_trans S_g0.out hb.size)
  replace HB := Lib.hid (HB.out.trans (hb.mono HB.out.size))
  clear hb
  -- ('eq', 'Int', ('own', 'x2'), ('copy', 2, 'Int'))
  go_wp2_with fail
  refine (toIntS_any A2.out HB.out.size (by omega)).mono ?_
  rintro e w6_ ⟨v_t2, he, hO, hb⟩
  subst he
  have P_x2_t2 := S_x2
  have P_g0_t2 := S_g0
  have D_t2 := Lib.hid HB.out.size
  have T_t2 := Lib.hid hO.lt
  have S_t2 : Hid (w6_.heap.size ≤ w6_.heap.size) := Lib.hid (Nat.le_refl _)
  replace hO := hO.mono HB.out.size
  replace A2 := Lib.hid (A2.out.behind (hb.mono HB.out.size))
  replace O_w0 := Lib.hid (O_w0.out.next hb)
  replace S_w0 := Lib.hid (Nat.le_trans S_w0.out hb.size)
  replace O_x2 := Lib.hid (O_x2.out.next hb)
  replace S_x2 := Lib.hid (Nat.le_trans S_x2.out hb.size)
  replace O_g0 := Lib.hid (O_g0.out.next hb)
  replace S_g0 := Lib.hid (Nat.le_trans S_g0.out hb.size)
  replace HB := Lib.hid (HB.out.trans (hb.mono HB.out.size))
  clear hb
  have O_t2 := Lib.hid hO
  clear hO
  go_wp2_with fail
  refine (eqIntS_same O_x2.out.rd O_t2.out.rd (Nat.le_refl _) (Nat.le_refl _)).mono ?_
  rintro e w7_ ⟨he, hb⟩
  subst he
  replace A2 := Lib.hid (A2.out.behind (hb.mono HB.out.size))
  replace O_w0 := Lib.hid (O_w0.out.next hb)
  replace S_w0 := Lib.hid (Nat.le_trans S_w0.out hb.size)
  replace O_x2 := Lib.hid (O_x2.out.next hb)
  replace S_x2 := Lib.hid (Nat.le_trans S_x2.out hb.size)
  replace O_g0 := Lib.hid (O_g0.out.next hb)
  replace S_g0 := Lib.hid (Nat.le_trans S_g0.out hb.size)
  replace O_t2 := Lib.hid (O_t2.out.next hb)
  replace S_t2 := Lib.hid (Nat.le_trans S_t2.out hb.size)
  replace HB := Lib.hid (HB.out.trans (hb.mono HB.out.size))
  clear hb
  clear O_t2 S_t2 D_t2
  clear T_t2
  clear P_x2_t2
  clear P_g0_t2
  -- ('set', 'k', '1')
  -- ('mark', 'k', 'Int', 'x2', 'k')
  have hF7 : (s2).length ≤ 1099511627776 := by omega
  obtain ⟨K7, hK7⟩ : ∃ K : Int, K = 1 + (((s2).length : Nat) : Int) := ⟨_, rfl⟩
  go_wp2_with fail
  refine (markIntS_any (k0 := 1) O_x2.out (by omega) (by omega)).mono ?_
  rintro e w8_ ⟨he, hO, hG⟩
  rw [← hK7] at he
  subst he
  have hb := O_x2.out.below (Nat.le_refl _) hG
  replace A2 := Lib.hid (A2.out.behind hb)
  replace O_w0 := Lib.hid (O_w0.out.keptF (KeptF.of_grown hG (ival_of T_x2.out)) (ival_disj (.inl P_w0_x2.out)))
  replace S_w0 := Lib.hid (Nat.le_trans S_w0.out hb.size)
  replace O_g0 := Lib.hid (O_g0.out.keptF (KeptF.of_grown hG (ival_of T_x2.out)) (ival_disj (.inr P_x2_g0.out)))
  replace S_g0 := Lib.hid (Nat.le_trans S_g0.out hb.size)
  replace O_x2 := Lib.hid hO
  replace S_x2 := Lib.hid (Nat.le_trans S_x2.out hb.size)
  replace HB := Lib.hid (HB.out.trans hb)
  clear hb hO hG
  have lK7 : 0 ≤ K7 ∧ K7 ≤ 1099511627777 := by omega
  have dK7 : decide (K7 < 0) = false := by simp; omega
  have HK7 := Lib.hid hK7
  clear hK7 hF7
  clear O_x2 S_x2 D_x2
  clear T_x2
  clear P_w0_x2
  clear P_x2_g0
  -- ('eq', 'IntSS', ('own', 'g0'), ('own', 'w0'))
  go_wp2_with fail
  refine (eqIntSS_same O_g0.out.rd2 O_w0.out.rd2 (Nat.le_refl _) (Nat.le_refl _)).mono ?_
  rintro e w9_ ⟨he, hb⟩
  subst he
  replace A2 := Lib.hid (A2.out.behind (hb.mono HB.out.size))
  replace O_w0 := Lib.hid (O_w0.out.next hb)
  replace S_w0 := Lib.hid (Nat.le_trans S_w0.out hb.size)
  replace O_g0 := Lib.hid (O_g0.out.next hb)
  replace S_g0 := Lib.hid (Nat.le_trans S_g0.out hb.size)
  replace HB := Lib.hid (HB.out.trans (hb.mono HB.out.size))
  clear hb
  -- ('set', 'm', '1')
  -- ('mark', 'm', 'IntSS', 'g0', 'm')
  have hF10 : fl ((mkq a0 a1 s2)) ≤ 1099511627776 := by have := mkq_fl a0 a1 s2; omega
  obtain ⟨K10, hK10⟩ : ∃ K : Int, K = 1 + ((fl ((mkq a0 a1 s2)) : Nat) : Int) := ⟨_, rfl⟩
  go_wp2_with fail
  refine (markIntSS_any (k0 := 1) O_g0.out (by omega) (by omega)).mono ?_
  rintro e w10_ ⟨he, hO, hG⟩
  rw [← hK10] at he
  subst he
  have hb := hG.below (B := w.heap.size) (fun b hb => Nat.le_trans D_g0.out hb.1) HB.out.size
  replace A2 := Lib.hid (A2.out.behind hb)
  replace O_w0 := Lib.hid (O_w0.out.keptF hG (ival_disj (.inl P_w0_g0.out)))
  replace S_w0 := Lib.hid (Nat.le_trans S_w0.out hb.size)
  replace O_g0 := Lib.hid hO
  replace S_g0 := Lib.hid (Nat.le_trans S_g0.out hb.size)
  replace HB := Lib.hid (HB.out.trans hb)
  clear hb hO hG
  have lK10 : 0 ≤ K10 ∧ K10 ≤ 1099511627777 := by omega
  have dK10 : decide (K10 < 0) = false := by simp; omega
  have HK10 := Lib.hid hK10
  clear hK10 hF10
  -- ('set', 'q', '1')
  -- ('held', 'q', 'IntSS', 'g0', 'q')
  go_wp2_with fail
  refine (heldIntSS_any (k0 := 1) O_g0.out.rd2 (Nat.le_refl _) (by omega) (by have := HK10.out; omega)).mono ?_
  rintro e w11_ ⟨he, hb⟩
  rw [← HK10.out] at he
  subst he
  replace A2 := Lib.hid (A2.out.behind (hb.mono HB.out.size))
  replace O_w0 := Lib.hid (O_w0.out.next hb)
  replace S_w0 := Lib.hid (Nat.le_trans S_w0.out hb.size)
  replace O_g0 := Lib.hid (O_g0.out.next hb)
  replace S_g0 := Lib.hid (Nat.le_trans S_g0.out hb.size)
  replace HB := Lib.hid (HB.out.trans (hb.mono HB.out.size))
  clear hb
  -- ('call', 'impl', 'MakeQuery', [('arg', 0), ('arg', 1), ('copy', 2, 'Int')], ['h0'])
  go_wp2_with fail
  refine (toIntS_any A2.out HB.out.size (by omega)).mono ?_
  rintro e w12_ ⟨v_t3, he, hO, hb⟩
  subst he
  have D_t3 := Lib.hid HB.out.size
  have T_t3 := Lib.hid hO.lt
  have S_t3 : Hid (w12_.heap.size ≤ w12_.heap.size) := Lib.hid (Nat.le_refl _)
  replace hO := hO.mono HB.out.size
  replace A2 := Lib.hid (A2.out.behind (hb.mono HB.out.size))
  replace O_w0 := Lib.hid (O_w0.out.next hb)
  replace S_w0 := Lib.hid (Nat.le_trans S_w0.out hb.size)
  replace O_g0 := Lib.hid (O_g0.out.next hb)
  replace S_g0 := Lib.hid (Nat.le_trans S_g0.out hb.size)
  replace HB := Lib.hid (HB.out.trans (hb.mono HB.out.size))
  clear hb
  have O_t3 := Lib.hid hO
  clear hO
  go_wp2_with fail
  refine (impl_mkq O_t3.out.rd (Nat.le_refl _) W0.out W1.out (by omega)).mono ?_
  rintro e w13_ ⟨v_h0, he, hO, hb⟩
  subst he
  have D_h0 := Lib.hid HB.out.size
  have S_h0 : Hid (w13_.heap.size ≤ w13_.heap.size) := Lib.hid (Nat.le_refl _)
  replace A2 := Lib.hid (A2.out.behind (hb.mono HB.out.size))
  replace O_w0 := Lib.hid (O_w0.out.next hb)
  replace S_w0 := Lib.hid (Nat.le_trans S_w0.out hb.size)
  replace O_g0 := Lib.hid (O_g0.out.next hb)
  replace S_g0 := Lib.hid (Nat.le_trans S_g0.out hb.size)
  replace O_t3 := Lib.hid (O_t3.out.next hb)
  replace S_t3 := Lib.hid (Nat.le_trans S_t3.out hb.size)
  replace HB := Lib.hid (HB.out.trans (hb.mono HB.out.size))
  clear hb
  have O_h0 := Lib.hid hO
  clear hO
  clear O_t3 S_t3 D_t3
  clear T_t3
  clear A2
  -- ('eq', 'IntSS', ('own', 'h0'), ('own', 'w0'))
  go_wp2_with fail
  refine (eqIntSS_same O_h0.out.rd2 O_w0.out.rd2 (Nat.le_refl _) (Nat.le_refl _)).mono ?_
  rintro e w14_ ⟨he, hb⟩
  subst he
  replace O_w0 := Lib.hid (O_w0.out.next hb)
  replace S_w0 := Lib.hid (Nat.le_trans S_w0.out hb.size)
  replace O_g0 := Lib.hid (O_g0.out.next hb)
  replace S_g0 := Lib.hid (Nat.le_trans S_g0.out hb.size)
  replace O_h0 := Lib.hid (O_h0.out.next hb)
  replace S_h0 := Lib.hid (Nat.le_trans S_h0.out hb.size)
  replace HB := Lib.hid (HB.out.trans (hb.mono HB.out.size))
  clear hb
  clear O_w0 S_w0 D_w0
  clear P_w0_g0
  clear O_h0 S_h0 D_h0
  -- ('set', 'q', '1')
  -- ('held', 'q', 'IntSS', 'g0', 'q')
  go_wp2_with fail
  refine (heldIntSS_any (k0 := 1) O_g0.out.rd2 (Nat.le_refl _) (by omega) (by have := HK10.out; omega)).mono ?_
  rintro e w15_ ⟨he, hb⟩
  rw [← HK10.out] at he
  subst he
  replace O_g0 := Lib.hid (O_g0.out.next hb)
  replace S_g0 := Lib.hid (Nat.le_trans S_g0.out hb.size)
  replace HB := Lib.hid (HB.out.trans (hb.mono HB.out.size))
  clear hb
  clear O_g0 S_g0 D_g0
  go_wp2_with fail
  go_ret
  exact ⟨rfl, HB.out⟩

end Go.Proofs.Ytgkacdaimhdcoaa
