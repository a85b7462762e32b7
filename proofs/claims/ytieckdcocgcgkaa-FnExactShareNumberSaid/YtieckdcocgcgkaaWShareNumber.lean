/- FnExactShareNumber: the walk. No conditions. -/
import Derived.Test.YtieckdcocgcgkaaSh4
import Derived.Test.YtieckdcocgcgkaaBa3
import Derived.Test.YtieckdcocgcgkaaBa5
namespace Go.Proofs.Ytieckdcocgcgkaa
open Go Go.RowKit
set_option linter.unusedVariables false

set_option maxHeartbeats 4000000 in
set_option maxRecDepth 20000 in
theorem fnExactShareNumber_walk (a0 : Int) (a1 : Option Addr) (len1 cap1 : Nat) (z1 : List Int) (w : World) (w0 : (Lit.int .i64 a0).wf = true) (w1 : IsRow .i64 w a1 len1 cap1 z1) :
    Calls Try.prog 9 #[.int .i64 a0, .slice a1 len1 cap1] w fun e w' => e = .returned (.bool true) ∧ Below w.heap.size w w' := by
  obtain ⟨s1, A1, l1⟩ : ∃ s, Rd w.heap.size .i64 w (.slice a1 len1 cap1) s ∧ len1 = s.length := ⟨z1.take len1, w1.rd, w1.rd.len_eq⟩
  subst l1
  replace A1 := Lib.hid A1
  clear w1
  have m1 : s1.length ≤ 9223372036854775807 := by have := A1.out.len; unfold maxLen at this; omega
  have W0 := Lib.hid w0
  have w0b := wf_i64 w0
  clear w0
  by_cases b1 : 1048576 < s1.length
  · have b1' : decide ((1048576 : Int) < (s1.length : Int)) = true := by simp; omega
    go_enter Try.func9, Try.ntmps9
    go_wp2_with fail
    go_ret
    exact ⟨rfl, Below.refl _ _⟩
  have b1' : decide ((1048576 : Int) < (s1.length : Int)) = false := by simp; omega
  have HB := Lib.hid (Below.refl w.heap.size w)
  go_enter Try.func9, Try.ntmps9
  -- ('big', 1)
  -- ('call', 'spec', 'ShareNumber', [('arg', 0), ('copy', 1, 'Int')], ['w0'])
  go_wp2_with fail
  refine (toIntS_any A1.out HB.out.size (by omega)).mono ?_
  rintro e w1_ ⟨v_t1, he, hO, hb⟩
  subst he
  have D_t1 := Lib.hid HB.out.size
  have T_t1 := Lib.hid hO.lt
  have S_t1 : Hid (w1_.heap.size ≤ w1_.heap.size) := Lib.hid (Nat.le_refl _)
  replace hO := hO.mono HB.out.size
  replace A1 := Lib.hid (A1.out.behind (hb.mono HB.out.size))
  replace HB := Lib.hid (HB.out.trans (hb.mono HB.out.size))
  clear hb
  have O_t1 := Lib.hid hO
  clear hO
  go_wp2_with fail
  refine (spec_shN O_t1.out.rd (Nat.le_refl _) W0.out (by omega)).mono ?_
  rintro e w2_ ⟨v_w0, he, hO, hb⟩
  subst he
  have D_w0 := Lib.hid HB.out.size
  have T_w0 := Lib.hid hO.lt
  have S_w0 : Hid (w2_.heap.size ≤ w2_.heap.size) := Lib.hid (Nat.le_refl _)
  replace hO := hO.mono HB.out.size
  replace A1 := Lib.hid (A1.out.behind (hb.mono HB.out.size))
  replace O_t1 := Lib.hid (O_t1.out.next hb)
  replace S_t1 := Lib.hid (Nat.le_trans S_t1.out hb.size)
  replace HB := Lib.hid (HB.out.trans (hb.mono HB.out.size))
  clear hb
  have O_w0 := Lib.hid hO
  clear hO
  clear O_t1 S_t1 D_t1
  clear T_t1
  -- ('copy', 'x1', 1, 'Int')
  go_wp2_with fail
  refine (toIntS_any A1.out HB.out.size (by omega)).mono ?_
  rintro e w3_ ⟨v_x1, he, hO, hb⟩
  subst he
  have P_w0_x1 := S_w0
  have D_x1 := Lib.hid HB.out.size
  have T_x1 := Lib.hid hO.lt
  have S_x1 : Hid (w3_.heap.size ≤ w3_.heap.size) := Lib.hid (Nat.le_refl _)
  replace hO := hO.mono HB.out.size
  replace A1 := Lib.hid (A1.out.behind (hb.mono HB.out.size))
  replace O_w0 := Lib.hid (O_w0.out.next hb)
  replace S_w0 := Lib.hid (Nat.le_trans S_w0.out hb.size)
  replace HB := Lib.hid (HB.out.trans (hb.mono HB.out.size))
  clear hb
  have O_x1 := Lib.hid hO
  clear hO
  -- ('call', 'impl', 'ShareNumber', [('arg', 0), ('own', 'x1')], ['g0'])
  go_wp2_with fail
  refine (impl_shN O_x1.out.rd (Nat.le_refl _) W0.out (by omega)).mono ?_
  rintro e w4_ ⟨v_g0, he, hO, hb⟩
  subst he
  have P_w0_g0 := S_w0
  have P_x1_g0 := S_x1
  have D_g0 := Lib.hid HB.out.size
  have T_g0 := Lib.hid hO.lt
  have S_g0 : Hid (w4_.heap.size ≤ w4_.heap.size) := Lib.hid (Nat.le_refl _)
  replace hO := hO.mono HB.out.size
  replace A1 := Lib.hid (A1.out.behind (hb.mono HB.out.size))
  replace O_w0 := Lib.hid (O_w0.out.next hb)
  replace S_w0 := Lib.hid (Nat.le_trans S_w0.out hb.size)
  replace O_x1 := Lib.hid (O_x1.out.next hb)
  replace S_x1 := Lib.hid (Nat.le_trans S_x1.out hb.size)
  replace HB := Lib.hid (HB.out.trans (hb.mono HB.out.size))
  clear hb
  have O_g0 := Lib.hid hO
  clear hO
  -- ('eq', 'Int', ('own', 'g0'), ('own', 'w0'))
  go_wp2_with fail
  refine (eqIntS_same O_g0.out.rd O_w0.out.rd (Nat.le_refl _) (Nat.le_refl _)).mono ?_
  rintro e w5_ ⟨he, hb⟩
  subst he
  replace A1 := Lib.hid (A1.out.behind (hb.mono HB.out.size))
  replace O_w0 := Lib.hid (O_w0.out.next hb)
  replace S_w0 := Lib.hid (Nat.le_trans S_w0.out hb.size)
  replace O_x1 := Lib.hid (O_x1.out.next hb)
  replace S_x1 := Lib.hid (Nat.le_trans S_x1.out hb.size)
  replace O_g0 := Lib.hid (O_g0.out.next hb)
  replace S_g0 := Lib.hid (Nat.le_trans S_g0.out hb.size)
  replace HB := Lib.hid (HB.out.trans (hb.mono HB.out.size))
  clear hb
  -- ('eq', 'Int', ('own', 'x1'), ('copy', 1, 'Int'))
  go_wp2_with fail
  refine (toIntS_any A1.out HB.out.size (by omega)).mono ?_
  rintro e w6_ ⟨v_t2, he, hO, hb⟩
  subst he
  have P_x1_t2 := S_x1
  have P_g0_t2 := S_g0
  have D_t2 := Lib.hid HB.out.size
  have T_t2 := Lib.hid hO.lt
  have S_t2 : Hid (w6_.heap.size ≤ w6_.heap.size) := Lib.hid (Nat.le_refl _)
  replace hO := hO.mono HB.out.size
  replace A1 := Lib.hid (A1.out.behind (hb.mono HB.out.size))
  replace O_w0 := Lib.hid (O_w0.out.next hb)
  replace S_w0 := Lib.hid (Nat.le_trans S_w0.out hb.size)
  replace O_x1 := Lib.hid (O_x1.out.next hb)
  replace S_x1 := Lib.hid (Nat.le_trans S_x1.out hb.size)
  replace O_g0 := Lib.hid (O_g0.out.next hb)
  replace S_g0 := Lib.hid (Nat.le_trans S_g0.out hb.size)
  replace HB := Lib.hid (HB.out.trans (hb.mono HB.out.size))
  clear hb
  have O_t2 := Lib.hid hO
  clear hO
  go_wp2_with fail
  refine (eqIntS_same O_x1.out.rd O_t2.out.rd (Nat.le_refl _) (Nat.le_refl _)).mono ?_
  rintro e w7_ ⟨he, hb⟩
  subst he
  replace A1 := Lib.hid (A1.out.behind (hb.mono HB.out.size))
  replace O_w0 := Lib.hid (O_w0.out.next hb)
  replace S_w0 := Lib.hid (Nat.le_trans S_w0.out hb.size)
  replace O_x1 := Lib.hid (O_x1.out.next hb)
  replace S_x1 := Lib.hid (Nat.le_trans S_x1.out hb.size)
  replace O_g0 := Lib.hid (O_g0.out.next hb)
  replace S_g0 := Lib.hid (Nat.le_trans S_g0.out hb.size)
  replace O_t2 := Lib.hid (O_t2.out.next hb)
  replace S_t2 := Lib.hid (Nat.le_trans S_t2.out hb.size)
  replace HB := Lib.hid (HB.out.trans (hb.mono HB.out.size))
  clear hb
  clear O_t2 S_t2 D_t2
  clear T_t2
  clear P_x1_t2
  clear P_g0_t2
  -- ('set', 'k', '1')
  -- ('mark', 'k', 'Int', 'x1', 'k')
  have hF7 : (s1).length ≤ 1099511627776 := by omega
  obtain ⟨K7, hK7⟩ : ∃ K : Int, K = 1 + (((s1).length : Nat) : Int) := ⟨_, rfl⟩
  go_wp2_with fail
  refine (markIntS_any (k0 := 1) O_x1.out (by omega) (by omega)).mono ?_
  rintro e w8_ ⟨he, hO, hG⟩
  rw [← hK7] at he
  subst he
  have hb := O_x1.out.below (Nat.le_refl _) hG
  replace A1 := Lib.hid (A1.out.behind hb)
  replace O_w0 := Lib.hid (O_w0.out.beside (apart_ival T_w0.out T_x1.out (.inl P_w0_x1.out)) hG)
  replace S_w0 := Lib.hid (Nat.le_trans S_w0.out hb.size)
  replace O_g0 := Lib.hid (O_g0.out.beside (apart_ival T_g0.out T_x1.out (.inr P_x1_g0.out)) hG)
  replace S_g0 := Lib.hid (Nat.le_trans S_g0.out hb.size)
  replace O_x1 := Lib.hid hO
  replace S_x1 := Lib.hid (Nat.le_trans S_x1.out hb.size)
  replace HB := Lib.hid (HB.out.trans hb)
  clear hb hO hG
  have lK7 : 0 ≤ K7 ∧ K7 ≤ 1099511627777 := by omega
  have dK7 : decide (K7 < 0) = false := by simp; omega
  have HK7 := Lib.hid hK7
  clear hK7 hF7
  clear O_x1 S_x1 D_x1
  clear T_x1
  clear P_w0_x1
  clear P_x1_g0
  -- ('eq', 'Int', ('own', 'g0'), ('own', 'w0'))
  go_wp2_with fail
  refine (eqIntS_same O_g0.out.rd O_w0.out.rd (Nat.le_refl _) (Nat.le_refl _)).mono ?_
  rintro e w9_ ⟨he, hb⟩
  subst he
  replace A1 := Lib.hid (A1.out.behind (hb.mono HB.out.size))
  replace O_w0 := Lib.hid (O_w0.out.next hb)
  replace S_w0 := Lib.hid (Nat.le_trans S_w0.out hb.size)
  replace O_g0 := Lib.hid (O_g0.out.next hb)
  replace S_g0 := Lib.hid (Nat.le_trans S_g0.out hb.size)
  replace HB := Lib.hid (HB.out.trans (hb.mono HB.out.size))
  clear hb
  -- ('set', 'm', '1')
  -- ('mark', 'm', 'Int', 'g0', 'm')
  have hF10 : ((shN a0 s1)).length ≤ 1099511627776 := by have := shN_len a0 s1; omega
  obtain ⟨K10, hK10⟩ : ∃ K : Int, K = 1 + ((((shN a0 s1)).length : Nat) : Int) := ⟨_, rfl⟩
  go_wp2_with fail
  refine (markIntS_any (k0 := 1) O_g0.out (by omega) (by omega)).mono ?_
  rintro e w10_ ⟨he, hO, hG⟩
  rw [← hK10] at he
  subst he
  have hb := O_g0.out.below (Nat.le_refl _) hG
  replace A1 := Lib.hid (A1.out.behind hb)
  replace O_w0 := Lib.hid (O_w0.out.beside (apart_ival T_w0.out T_g0.out (.inl P_w0_g0.out)) hG)
  replace S_w0 := Lib.hid (Nat.le_trans S_w0.out hb.size)
  replace O_g0 := Lib.hid hO
  replace S_g0 := Lib.hid (Nat.le_trans S_g0.out hb.size)
  replace HB := Lib.hid (HB.out.trans hb)
  clear hb hO hG
  have lK10 : 0 ≤ K10 ∧ K10 ≤ 1099511627777 := by omega
  have dK10 : decide (K10 < 0) = false := by simp; omega
  have HK10 := Lib.hid hK10
  clear hK10 hF10
  -- ('set', 'q', '1')
  -- ('held', 'q', 'Int', 'g0', 'q')
  go_wp2_with fail
  refine (heldIntS_any (k0 := 1) O_g0.out.rd (Nat.le_refl _) (by omega) (by have := HK10.out; omega)).mono ?_
  rintro e w11_ ⟨he, hb⟩
  rw [← HK10.out] at he
  subst he
  replace A1 := Lib.hid (A1.out.behind (hb.mono HB.out.size))
  replace O_w0 := Lib.hid (O_w0.out.next hb)
  replace S_w0 := Lib.hid (Nat.le_trans S_w0.out hb.size)
  replace O_g0 := Lib.hid (O_g0.out.next hb)
  replace S_g0 := Lib.hid (Nat.le_trans S_g0.out hb.size)
  replace HB := Lib.hid (HB.out.trans (hb.mono HB.out.size))
  clear hb
  -- ('call', 'impl', 'ShareNumber', [('arg', 0), ('copy', 1, 'Int')], ['h0'])
  go_wp2_with fail
  refine (toIntS_any A1.out HB.out.size (by omega)).mono ?_
  rintro e w12_ ⟨v_t3, he, hO, hb⟩
  subst he
  have D_t3 := Lib.hid HB.out.size
  have T_t3 := Lib.hid hO.lt
  have S_t3 : Hid (w12_.heap.size ≤ w12_.heap.size) := Lib.hid (Nat.le_refl _)
  replace hO := hO.mono HB.out.size
  replace A1 := Lib.hid (A1.out.behind (hb.mono HB.out.size))
  replace O_w0 := Lib.hid (O_w0.out.next hb)
  replace S_w0 := Lib.hid (Nat.le_trans S_w0.out hb.size)
  replace O_g0 := Lib.hid (O_g0.out.next hb)
  replace S_g0 := Lib.hid (Nat.le_trans S_g0.out hb.size)
  replace HB := Lib.hid (HB.out.trans (hb.mono HB.out.size))
  clear hb
  have O_t3 := Lib.hid hO
  clear hO
  go_wp2_with fail
  refine (impl_shN O_t3.out.rd (Nat.le_refl _) W0.out (by omega)).mono ?_
  rintro e w13_ ⟨v_h0, he, hO, hb⟩
  subst he
  have D_h0 := Lib.hid HB.out.size
  have T_h0 := Lib.hid hO.lt
  have S_h0 : Hid (w13_.heap.size ≤ w13_.heap.size) := Lib.hid (Nat.le_refl _)
  replace hO := hO.mono HB.out.size
  replace A1 := Lib.hid (A1.out.behind (hb.mono HB.out.size))
  replace O_w0 := Lib.hid (O_w0.out.next hb)
  replace S_w0 := Lib.hid (Nat.le_trans S_w0.out hb.size)
  replace O_g0 := Lib.hid (O_g0.out.next hb)
  replace S_g0 := Lib.hid (Nat.le_trans S_g0.out hb.size)
  replace O_t3 := Lib.hid (O_t3.out.next hb)
  replace S_t3 := Lib.hid (Nat.le_trans S_t3.out hb.size)
  replace HB := Lib.hid (HB.out.trans (hb.mono HB.out.size))
  clear hb
  have O_h0 := Lib.hid hO
  clear hO
  clear O_t3 S_t3 D_t3
  clear T_t3
  clear A1
  -- ('eq', 'Int', ('own', 'h0'), ('own', 'w0'))
  go_wp2_with fail
  refine (eqIntS_same O_h0.out.rd O_w0.out.rd (Nat.le_refl _) (Nat.le_refl _)).mono ?_
  rintro e w14_ ⟨he, hb⟩
  subst he
  replace O_w0 := Lib.hid (O_w0.out.next hb)
  replace S_w0 := Lib.hid (Nat.le_trans S_w0.out hb.size)
  replace O_g0 := Lib.hid (O_g0.out.next hb)
  replace S_g0 := Lib.hid (Nat.le_trans S_g0.out hb.size)
  replace O_h0 := Lib.hid (O_h0.out.next hb)
  replace S_h0 := Lib.hid (Nat.le_trans S_h0.out hb.size)
  replace HB := Lib.hid (HB.out.trans (hb.mono HB.out.size))
  clear hb
  clear O_w0 S_w0 D_w0
  clear T_w0
  clear P_w0_g0
  clear O_h0 S_h0 D_h0
  clear T_h0
  -- ('set', 'q', '1')
  -- ('held', 'q', 'Int', 'g0', 'q')
  go_wp2_with fail
  refine (heldIntS_any (k0 := 1) O_g0.out.rd (Nat.le_refl _) (by omega) (by have := HK10.out; omega)).mono ?_
  rintro e w15_ ⟨he, hb⟩
  rw [← HK10.out] at he
  subst he
  replace O_g0 := Lib.hid (O_g0.out.next hb)
  replace S_g0 := Lib.hid (Nat.le_trans S_g0.out hb.size)
  replace HB := Lib.hid (HB.out.trans (hb.mono HB.out.size))
  clear hb
  clear O_g0 S_g0 D_g0
  clear T_g0
  go_wp2_with fail
  go_ret
  exact ⟨rfl, HB.out⟩

end Go.Proofs.Ytieckdcocgcgkaa
