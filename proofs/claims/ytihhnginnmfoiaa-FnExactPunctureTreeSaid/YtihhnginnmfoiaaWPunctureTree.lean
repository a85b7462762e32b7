/- FnExactPunctureTree: the walk. No conditions. -/
import Derived.Test.YtihhnginnmfoiaaTre5
import Derived.Test.YtihhnginnmfoiaaCopyInt
import Derived.Test.YtihhnginnmfoiaaIval
namespace Go.Proofs.Ytihhnginnmfoiaa
open Go Go.RowKit
set_option linter.unusedVariables false

set_option maxHeartbeats 4000000 in
set_option maxRecDepth 20000 in
theorem fnExactPunctureTree_walk (a0 : Int) (a1 : Int) (a2 : Int) (w : World) (w0 : (Lit.int .i64 a0).wf = true) (w1 : (Lit.int .i64 a1).wf = true) (w2 : (Lit.int .i64 a2).wf = true) :
    Calls Try.prog 9 #[.int .i64 a0, .int .i64 a1, .int .i64 a2] w fun e w' => e = .returned (.bool true) ∧ Below w.heap.size w w' := by
  have W0 := Lib.hid w0
  have w0b := wf_i64 w0
  clear w0
  have W1 := Lib.hid w1
  have w1b := wf_i64 w1
  clear w1
  have W2 := Lib.hid w2
  have w2b := wf_i64 w2
  clear w2
  have HB := Lib.hid (Below.refl w.heap.size w)
  go_enter Try.func9, Try.ntmps9
  -- ('call', 'spec', 'PunctureTree', [('arg', 0), ('arg', 1), ('arg', 2)], ['w0'])
  go_wp2_with fail
  refine (spec_pt W0.out W1.out W2.out).mono ?_
  rintro e w1_ ⟨v_w0, he, hO, hb⟩
  subst he
  have D_w0 := Lib.hid HB.out.size
  have T_w0 := Lib.hid hO.lt
  have S_w0 : Hid (w1_.heap.size ≤ w1_.heap.size) := Lib.hid (Nat.le_refl _)
  replace hO := hO.mono HB.out.size
  replace HB := Lib.hid (HB.out.trans (hb.mono HB.out.size))
  clear hb
  have O_w0 := Lib.hid hO
  clear hO
  -- ('call', 'impl', 'PunctureTree', [('arg', 0), ('arg', 1), ('arg', 2)], ['g0'])
  go_wp2_with fail
  refine (impl_pt W0.out W1.out W2.out).mono ?_
  rintro e w2_ ⟨v_g0, he, hO, hb⟩
  subst he
  have P_w0_g0 := S_w0
  have D_g0 := Lib.hid HB.out.size
  have T_g0 := Lib.hid hO.lt
  have S_g0 : Hid (w2_.heap.size ≤ w2_.heap.size) := Lib.hid (Nat.le_refl _)
  replace hO := hO.mono HB.out.size
  replace O_w0 := Lib.hid (O_w0.out.next hb)
  replace S_w0 := Lib.hid (Nat.le_trans S_w0.out hb.size)
  replace HB := Lib.hid (HB.out.trans (hb.mono HB.out.size))
  clear hb
  have O_g0 := Lib.hid hO
  clear hO
  -- ('eq', 'Int', ('own', 'g0'), ('own', 'w0'))
  go_wp2_with fail
  refine (eqIntS_same O_g0.out.rd O_w0.out.rd (Nat.le_refl _) (Nat.le_refl _)).mono ?_
  rintro e w3_ ⟨he, hb⟩
  subst he
  replace O_w0 := Lib.hid (O_w0.out.next hb)
  replace S_w0 := Lib.hid (Nat.le_trans S_w0.out hb.size)
  replace O_g0 := Lib.hid (O_g0.out.next hb)
  replace S_g0 := Lib.hid (Nat.le_trans S_g0.out hb.size)
  replace HB := Lib.hid (HB.out.trans (hb.mono HB.out.size))
  clear hb
  -- ('set', 'm', '1')
  -- ('mark', 'm', 'Int', 'g0', 'm')
  have hF4 : ((pun a0 a1 a2)).length ≤ 1099511627776 := by have := pun_len a0 a1 a2; omega
  obtain ⟨K4, hK4⟩ : ∃ K : Int, K = 1 + ((((pun a0 a1 a2)).length : Nat) : Int) := ⟨_, rfl⟩
  go_wp2_with fail
  refine (markIntS_any (k0 := 1) O_g0.out (by omega) (by omega)).mono ?_
  rintro e w4_ ⟨he, hO, hG⟩
  rw [← hK4] at he
  subst he
  have hb := O_g0.out.below (Nat.le_refl _) hG
  replace O_w0 := Lib.hid (O_w0.out.beside (apart_ival T_w0.out T_g0.out (.inl P_w0_g0.out)) hG)
  replace S_w0 := Lib.hid (Nat.le_trans S_w0.out hb.size)
  replace O_g0 := Lib.hid hO
  replace S_g0 := Lib.hid (Nat.le_trans S_g0.out hb.size)
  replace HB := Lib.hid (HB.out.trans hb)
  clear hb hO hG
  have lK4 : 0 ≤ K4 ∧ K4 ≤ 1099511627777 := by omega
  have dK4 : decide (K4 < 0) = false := by simp; omega
  have HK4 := Lib.hid hK4
  clear hK4 hF4
  -- ('set', 'q', '1')
  -- ('held', 'q', 'Int', 'g0', 'q')
  go_wp2_with fail
  refine (heldIntS_any (k0 := 1) O_g0.out.rd (Nat.le_refl _) (by omega) (by have := HK4.out; omega)).mono ?_
  rintro e w5_ ⟨he, hb⟩
  rw [← HK4.out] at he
  subst he
  replace O_w0 := Lib.hid (O_w0.out.next hb)
  replace S_w0 := Lib.hid (Nat.le_trans S_w0.out hb.size)
  replace O_g0 := Lib.hid (O_g0.out.next hb)
  replace S_g0 := Lib.hid (Nat.le_trans S_g0.out hb.size)
  replace HB := Lib.hid (HB.out.trans (hb.mono HB.out.size))
  clear hb
  -- ('call', 'impl', 'PunctureTree', [('arg', 0), ('arg', 1), ('arg', 2)], ['h0'])
  go_wp2_with fail
  refine (impl_pt W0.out W1.out W2.out).mono ?_
  rintro e w6_ ⟨v_h0, he, hO, hb⟩
  subst he
  have D_h0 := Lib.hid HB.out.size
  have T_h0 := Lib.hid hO.lt
  have S_h0 : Hid (w6_.heap.size ≤ w6_.heap.size) := Lib.hid (Nat.le_refl _)
  replace hO := hO.mono HB.out.size
  replace O_w0 := Lib.hid (O_w0.out.next hb)
  replace S_w0 := Lib.hid (Nat.le_trans S_w0.out hb.size)
  replace O_g0 := Lib.hid (O_g0.out.next hb)
  replace S_g0 := Lib.hid (Nat.le_trans S_g0.out hb.size)
  replace HB := Lib.hid (HB.out.trans (hb.mono HB.out.size))
  clear hb
  have O_h0 := Lib.hid hO
  clear hO
  -- ('eq', 'Int', ('own', 'h0'), ('own', 'w0'))
  go_wp2_with fail
  refine (eqIntS_same O_h0.out.rd O_w0.out.rd (Nat.le_refl _) (Nat.le_refl _)).mono ?_
  rintro e w7_ ⟨he, hb⟩
  subst he
  replace O_w0 := Lib.hid (O_w0.out.next hb)
  replace S_w0 := Lib.hid (Nat.le_trans S_w0.out hb.size)
  replace O_g0 := Lib.hid (O_g0.out.next hb)
  replace S_g0 := Lib.hid (Nat.le_trans S_g0.out hb.size)
  replace O_h0 := Lib.hid (O_h0.out.next hb)
  replace S_h0 := Lib.hid (Nat.le_trans S_h0.out hb.size)
  replace HB := Lib.hid (HB.out.trans (hb.mono HB.out.size))
  clear hb
  clear O_w0 S_w0 D_w0
  clear T_w0
  clear P_w0_g0
  clear O_h0 S_h0 D_h0
  clear T_h0
  -- ('set', 'q', '1')
  -- ('held', 'q', 'Int', 'g0', 'q')
  go_wp2_with fail
  refine (heldIntS_any (k0 := 1) O_g0.out.rd (Nat.le_refl _) (by omega) (by have := HK4.out; omega)).mono ?_
  rintro e w8_ ⟨he, hb⟩
  rw [← HK4.out] at he
  subst he
  replace O_g0 := Lib.hid (O_g0.out.next hb)
  replace S_g0 := Lib.hid (Nat.le_trans S_g0.out hb.size)
  replace HB := Lib.hid (HB.out.trans (hb.mono HB.out.size))
  clear hb
  clear O_g0 S_g0 D_g0
  clear T_g0
  go_wp2_with fail
  go_ret
  exact ⟨rfl, HB.out⟩

end Go.Proofs.Ytihhnginnmfoiaa
