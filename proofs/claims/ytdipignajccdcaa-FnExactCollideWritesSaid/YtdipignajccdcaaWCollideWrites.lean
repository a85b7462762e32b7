/- FnExactCollideWrites: the walk. No conditions. -/
import Derived.Test.YtdipignajccdcaaWrW
import Derived.Test.YtdipignajccdcaaCells
import Derived.Deep.RegionHeld3
import Derived.Deep.DeepCutAuto
namespace Go.Proofs.Ytdipignajccdcaa
open Go Go.RowKit
set_option linter.unusedVariables false
attribute [local irreducible] kh

set_option maxHeartbeats 4000000 in
set_option maxRecDepth 100000 in
theorem fnExactCollideWrites_walk (v0 : Value) (s0 : List Int) (v1 : Value) (s1 : List Int) (w : World) (w0 : (sliceT 5 u8T).rd w.heap.size w [v0] s0) (w1 : (sliceT 5 u8T).rd w.heap.size w [v1] s1) :
    Calls Try.prog 8 #[v0, v1] w fun e w' => e = .returned (.bool true) ∧ Below w.heap.size w w' := by
  obtain ⟨av0, cv0, hv0, lv0, mv0, _⟩ := sl_open w0
  have hw0 := (List.cons.inj hv0).1
  clear hv0
  subst hw0
  unfold maxLen at mv0
  have A0 := Lib.hid w0
  clear w0
  obtain ⟨av1, cv1, hv1, lv1, mv1, _⟩ := sl_open w1
  have hw1 := (List.cons.inj hv1).1
  clear hv1
  subst hw1
  unfold maxLen at mv1
  have A1 := Lib.hid w1
  clear w1
  by_cases by0 : (s0.length : Int) ≤ 1048576
  case neg =>
    have db0 : decide ((1048576 : Int) < (s0.length : Int)) = true := by simp; omega
    go_enter Try.func8, Try.ntmps8
    have HB := Lib.hid (Below.refl w.heap.size w)
    go_wp2_with fail
    go_ret
    exact ⟨rfl, HB.out⟩
  have db0 : decide ((1048576 : Int) < (s0.length : Int)) = false := by simp; omega
  have B0t : Hid ((sliceT 5 u8T).tot s0 ≤ 1048576) := Lib.hid (by show totL (intT _ _ _) _ ≤ _; rw [totL_int]; omega)
  have L0t : Hid (s0.length ≤ 1048576) := Lib.hid (by omega)
  clear by0
  by_cases by1 : (s1.length : Int) ≤ 1048576
  case neg =>
    have db1 : decide ((1048576 : Int) < (s1.length : Int)) = true := by simp; omega
    go_enter Try.func8, Try.ntmps8
    have HB := Lib.hid (Below.refl w.heap.size w)
    go_wp2_with fail
    go_ret
    exact ⟨rfl, HB.out⟩
  have db1 : decide ((1048576 : Int) < (s1.length : Int)) = false := by simp; omega
  have B1t : Hid ((sliceT 5 u8T).tot s1 ≤ 1048576) := Lib.hid (by show totL (intT _ _ _) _ ≤ _; rw [totL_int]; omega)
  have L1t : Hid (s1.length ≤ 1048576) := Lib.hid (by omega)
  clear by1
  go_enter Try.func8, Try.ntmps8
  have HB := Lib.hid (Below.refl w.heap.size w)
  -- ('big', 0)
  -- ('big', 1)
  -- ('call', 'spec', 'CollideWrites', [('copy', 0, '[]byte'), ('copy', 1, '[]byte')], ['w0'])
  go_wp2_with fail
  refine (toByteS_t A0.out HB.out.size (Nat.le_trans B0t.out (by decide))).mono ?_
  rintro e w1_ ⟨v_t1, he, hO_t1, hb⟩
  subst he
  have hF_t1 : ∀ b, (ival w.heap.size w1_.heap.size) b → w.heap.size ≤ b ∧ b < w1_.heap.size := fun b h => h
  have D_t1 : Hid (∀ b, (ival w.heap.size w1_.heap.size) b → w.heap.size ≤ b) := Lib.hid (fun b h => Nat.le_trans HB.out.size (hF_t1 b h).1)
  replace A0 := Lib.hid ((sliceT 5 u8T).behind A0.out (hb.mono HB.out.size))
  replace A1 := Lib.hid ((sliceT 5 u8T).behind A1.out (hb.mono HB.out.size))
  replace HB := Lib.hid (HB.out.trans (hb.mono HB.out.size))
  clear hb
  have O_t1 := Lib.hid hO_t1
  have E_t1 : Hid (∀ b, (ival w.heap.size w1_.heap.size) b → b < w1_.heap.size) := Lib.hid (fun b h => (hF_t1 b h).2)
  clear hO_t1 hF_t1
  go_wp2_with fail
  refine (toByteS_t A1.out HB.out.size (Nat.le_trans B1t.out (by decide))).mono ?_
  rintro e w2_ ⟨v_t2, he, hO_t2, hb⟩
  subst he
  have hF_t2 : ∀ b, (ival w1_.heap.size w2_.heap.size) b → w1_.heap.size ≤ b ∧ b < w2_.heap.size := fun b h => h
  have D_t2 : Hid (∀ b, (ival w1_.heap.size w2_.heap.size) b → w.heap.size ≤ b) := Lib.hid (fun b h => Nat.le_trans HB.out.size (hF_t2 b h).1)
  replace A0 := Lib.hid ((sliceT 5 u8T).behind A0.out (hb.mono HB.out.size))
  replace A1 := Lib.hid ((sliceT 5 u8T).behind A1.out (hb.mono HB.out.size))
  replace O_t1 := Lib.hid ((sliceT 5 u8T).onext O_t1.out hb)
  replace E_t1 : Hid (∀ b, (ival w.heap.size w1_.heap.size) b → b < w2_.heap.size) := Lib.hid (fun b h => Nat.lt_of_lt_of_le (E_t1.out b h) hb.size)
  replace HB := Lib.hid (HB.out.trans (hb.mono HB.out.size))
  clear hb
  have O_t2 := Lib.hid hO_t2
  have E_t2 : Hid (∀ b, (ival w1_.heap.size w2_.heap.size) b → b < w2_.heap.size) := Lib.hid (fun b h => (hF_t2 b h).2)
  clear hO_t2 hF_t2
  go_wp2_with fail
  refine (spec_cw_t ((sliceT 5 u8T).ord O_t1.out) (Nat.le_refl _) ((sliceT 5 u8T).ord O_t2.out) (Nat.le_refl _) (by have h1 := L0t.out; have h2 := L1t.out; omega)).mono ?_
  obtain ⟨Y0, hY0⟩ : ∃ y : List Int, y = xorl s0 s1 := ⟨_, rfl⟩
  rintro e w3_ ⟨v_w0, F_w0, he, hO_w0, hF_w0, hb⟩
  replace hO_w0 : (sliceT 5 u8T).own F_w0 w3_ [v_w0] (xorl s0 s1) := hO_w0
  rw [← hY0] at hO_w0
  have HY0 := Lib.hid hY0
  clear hY0
  subst he
  have D_w0 : Hid (∀ b, F_w0 b → w.heap.size ≤ b) := Lib.hid (fun b h => Nat.le_trans HB.out.size (hF_w0 b h).1)
  replace A0 := Lib.hid ((sliceT 5 u8T).behind A0.out (hb.mono HB.out.size))
  replace A1 := Lib.hid ((sliceT 5 u8T).behind A1.out (hb.mono HB.out.size))
  replace O_t1 := Lib.hid ((sliceT 5 u8T).onext O_t1.out hb)
  replace E_t1 : Hid (∀ b, (ival w.heap.size w1_.heap.size) b → b < w3_.heap.size) := Lib.hid (fun b h => Nat.lt_of_lt_of_le (E_t1.out b h) hb.size)
  replace O_t2 := Lib.hid ((sliceT 5 u8T).onext O_t2.out hb)
  replace E_t2 : Hid (∀ b, (ival w1_.heap.size w2_.heap.size) b → b < w3_.heap.size) := Lib.hid (fun b h => Nat.lt_of_lt_of_le (E_t2.out b h) hb.size)
  replace HB := Lib.hid (HB.out.trans (hb.mono HB.out.size))
  clear hb
  have O_w0 := Lib.hid hO_w0
  have E_w0 : Hid (∀ b, F_w0 b → b < w3_.heap.size) := Lib.hid (fun b h => (hF_w0 b h).2)
  clear hO_w0 hF_w0
  clear O_t1 E_t1 D_t1
  clear O_t2 E_t2 D_t2
  -- ('copy', 'x0', 0, '[]byte')
  go_wp2_with fail
  refine (toByteS_t A0.out HB.out.size (Nat.le_trans B0t.out (by decide))).mono ?_
  rintro e w4_ ⟨v_x0, he, hO_x0, hb⟩
  subst he
  have hF_x0 : ∀ b, (ival w3_.heap.size w4_.heap.size) b → w3_.heap.size ≤ b ∧ b < w4_.heap.size := fun b h => h
  have X_w0_x0 : Hid (∀ b, F_w0 b → ¬ (ival w3_.heap.size w4_.heap.size) b) := Lib.hid (fun b h1 h2 => by have := E_w0.out b h1; have := (hF_x0 b h2).1; omega)
  have D_x0 : Hid (∀ b, (ival w3_.heap.size w4_.heap.size) b → w.heap.size ≤ b) := Lib.hid (fun b h => Nat.le_trans HB.out.size (hF_x0 b h).1)
  replace A0 := Lib.hid ((sliceT 5 u8T).behind A0.out (hb.mono HB.out.size))
  replace A1 := Lib.hid ((sliceT 5 u8T).behind A1.out (hb.mono HB.out.size))
  replace O_w0 := Lib.hid ((sliceT 5 u8T).onext O_w0.out hb)
  replace E_w0 : Hid (∀ b, F_w0 b → b < w4_.heap.size) := Lib.hid (fun b h => Nat.lt_of_lt_of_le (E_w0.out b h) hb.size)
  replace HB := Lib.hid (HB.out.trans (hb.mono HB.out.size))
  clear hb
  have O_x0 := Lib.hid hO_x0
  have E_x0 : Hid (∀ b, (ival w3_.heap.size w4_.heap.size) b → b < w4_.heap.size) := Lib.hid (fun b h => (hF_x0 b h).2)
  clear hO_x0 hF_x0
  -- ('copy', 'x1', 1, '[]byte')
  go_wp2_with fail
  refine (toByteS_t A1.out HB.out.size (Nat.le_trans B1t.out (by decide))).mono ?_
  rintro e w5_ ⟨v_x1, he, hO_x1, hb⟩
  subst he
  have hF_x1 : ∀ b, (ival w4_.heap.size w5_.heap.size) b → w4_.heap.size ≤ b ∧ b < w5_.heap.size := fun b h => h
  have X_w0_x1 : Hid (∀ b, F_w0 b → ¬ (ival w4_.heap.size w5_.heap.size) b) := Lib.hid (fun b h1 h2 => by have := E_w0.out b h1; have := (hF_x1 b h2).1; omega)
  have X_x0_x1 : Hid (∀ b, (ival w3_.heap.size w4_.heap.size) b → ¬ (ival w4_.heap.size w5_.heap.size) b) := Lib.hid (fun b h1 h2 => by have := E_x0.out b h1; have := (hF_x1 b h2).1; omega)
  have D_x1 : Hid (∀ b, (ival w4_.heap.size w5_.heap.size) b → w.heap.size ≤ b) := Lib.hid (fun b h => Nat.le_trans HB.out.size (hF_x1 b h).1)
  replace A0 := Lib.hid ((sliceT 5 u8T).behind A0.out (hb.mono HB.out.size))
  replace A1 := Lib.hid ((sliceT 5 u8T).behind A1.out (hb.mono HB.out.size))
  replace O_w0 := Lib.hid ((sliceT 5 u8T).onext O_w0.out hb)
  replace E_w0 : Hid (∀ b, F_w0 b → b < w5_.heap.size) := Lib.hid (fun b h => Nat.lt_of_lt_of_le (E_w0.out b h) hb.size)
  replace O_x0 := Lib.hid ((sliceT 5 u8T).onext O_x0.out hb)
  replace E_x0 : Hid (∀ b, (ival w3_.heap.size w4_.heap.size) b → b < w5_.heap.size) := Lib.hid (fun b h => Nat.lt_of_lt_of_le (E_x0.out b h) hb.size)
  replace HB := Lib.hid (HB.out.trans (hb.mono HB.out.size))
  clear hb
  have O_x1 := Lib.hid hO_x1
  have E_x1 : Hid (∀ b, (ival w4_.heap.size w5_.heap.size) b → b < w5_.heap.size) := Lib.hid (fun b h => (hF_x1 b h).2)
  clear hO_x1 hF_x1
  -- ('call', 'impl', 'CollideWrites', [('own', 'x0'), ('own', 'x1')], ['g0'])
  go_wp2_with fail
  refine (impl_cw_t ((sliceT 5 u8T).ord O_x0.out) (Nat.le_refl _) ((sliceT 5 u8T).ord O_x1.out) (Nat.le_refl _) (by have h1 := L0t.out; have h2 := L1t.out; omega)).mono ?_
  rintro e w6_ ⟨v_g0, F_g0, he, hO_g0, hF_g0, hb⟩
  replace hO_g0 : (sliceT 5 u8T).own F_g0 w6_ [v_g0] (xorl s0 s1) := hO_g0
  rw [← HY0.out] at hO_g0
  subst he
  have X_w0_g0 : Hid (∀ b, F_w0 b → ¬ F_g0 b) := Lib.hid (fun b h1 h2 => by have := E_w0.out b h1; have := (hF_g0 b h2).1; omega)
  have X_x0_g0 : Hid (∀ b, (ival w3_.heap.size w4_.heap.size) b → ¬ F_g0 b) := Lib.hid (fun b h1 h2 => by have := E_x0.out b h1; have := (hF_g0 b h2).1; omega)
  have X_x1_g0 : Hid (∀ b, (ival w4_.heap.size w5_.heap.size) b → ¬ F_g0 b) := Lib.hid (fun b h1 h2 => by have := E_x1.out b h1; have := (hF_g0 b h2).1; omega)
  have D_g0 : Hid (∀ b, F_g0 b → w.heap.size ≤ b) := Lib.hid (fun b h => Nat.le_trans HB.out.size (hF_g0 b h).1)
  replace A0 := Lib.hid ((sliceT 5 u8T).behind A0.out (hb.mono HB.out.size))
  replace A1 := Lib.hid ((sliceT 5 u8T).behind A1.out (hb.mono HB.out.size))
  replace O_w0 := Lib.hid ((sliceT 5 u8T).onext O_w0.out hb)
  replace E_w0 : Hid (∀ b, F_w0 b → b < w6_.heap.size) := Lib.hid (fun b h => Nat.lt_of_lt_of_le (E_w0.out b h) hb.size)
  replace O_x0 := Lib.hid ((sliceT 5 u8T).onext O_x0.out hb)
  replace E_x0 : Hid (∀ b, (ival w3_.heap.size w4_.heap.size) b → b < w6_.heap.size) := Lib.hid (fun b h => Nat.lt_of_lt_of_le (E_x0.out b h) hb.size)
  replace O_x1 := Lib.hid ((sliceT 5 u8T).onext O_x1.out hb)
  replace E_x1 : Hid (∀ b, (ival w4_.heap.size w5_.heap.size) b → b < w6_.heap.size) := Lib.hid (fun b h => Nat.lt_of_lt_of_le (E_x1.out b h) hb.size)
  replace HB := Lib.hid (HB.out.trans (hb.mono HB.out.size))
  clear hb
  have O_g0 := Lib.hid hO_g0
  have E_g0 : Hid (∀ b, F_g0 b → b < w6_.heap.size) := Lib.hid (fun b h => (hF_g0 b h).2)
  clear hO_g0 hF_g0
  -- ('eq', '[]byte', ('own', 'g0'), ('own', 'w0'))
  go_wp2_with fail
  refine (eqByteS_same_t ((sliceT 5 u8T).ord O_g0.out) ((sliceT 5 u8T).ord O_w0.out) (Nat.le_refl _) (Nat.le_refl _)).mono ?_
  rintro e w7_ ⟨he, hb⟩
  subst he
  replace A0 := Lib.hid ((sliceT 5 u8T).behind A0.out (hb.mono HB.out.size))
  replace A1 := Lib.hid ((sliceT 5 u8T).behind A1.out (hb.mono HB.out.size))
  replace O_w0 := Lib.hid ((sliceT 5 u8T).onext O_w0.out hb)
  replace E_w0 : Hid (∀ b, F_w0 b → b < w7_.heap.size) := Lib.hid (fun b h => Nat.lt_of_lt_of_le (E_w0.out b h) hb.size)
  replace O_x0 := Lib.hid ((sliceT 5 u8T).onext O_x0.out hb)
  replace E_x0 : Hid (∀ b, (ival w3_.heap.size w4_.heap.size) b → b < w7_.heap.size) := Lib.hid (fun b h => Nat.lt_of_lt_of_le (E_x0.out b h) hb.size)
  replace O_x1 := Lib.hid ((sliceT 5 u8T).onext O_x1.out hb)
  replace E_x1 : Hid (∀ b, (ival w4_.heap.size w5_.heap.size) b → b < w7_.heap.size) := Lib.hid (fun b h => Nat.lt_of_lt_of_le (E_x1.out b h) hb.size)
  replace O_g0 := Lib.hid ((sliceT 5 u8T).onext O_g0.out hb)
  replace E_g0 : Hid (∀ b, F_g0 b → b < w7_.heap.size) := Lib.hid (fun b h => Nat.lt_of_lt_of_le (E_g0.out b h) hb.size)
  replace HB := Lib.hid (HB.out.trans (hb.mono HB.out.size))
  clear hb
  -- ('eq', '[]byte', ('own', 'x0'), ('copy', 0, '[]byte'))
  go_wp2_with fail
  refine (toByteS_t A0.out HB.out.size (Nat.le_trans B0t.out (by decide))).mono ?_
  rintro e w8_ ⟨v_t3, he, hO_t3, hb⟩
  subst he
  have hF_t3 : ∀ b, (ival w7_.heap.size w8_.heap.size) b → w7_.heap.size ≤ b ∧ b < w8_.heap.size := fun b h => h
  have X_x0_t3 : Hid (∀ b, (ival w3_.heap.size w4_.heap.size) b → ¬ (ival w7_.heap.size w8_.heap.size) b) := Lib.hid (fun b h1 h2 => by have := E_x0.out b h1; have := (hF_t3 b h2).1; omega)
  have X_x1_t3 : Hid (∀ b, (ival w4_.heap.size w5_.heap.size) b → ¬ (ival w7_.heap.size w8_.heap.size) b) := Lib.hid (fun b h1 h2 => by have := E_x1.out b h1; have := (hF_t3 b h2).1; omega)
  have X_g0_t3 : Hid (∀ b, F_g0 b → ¬ (ival w7_.heap.size w8_.heap.size) b) := Lib.hid (fun b h1 h2 => by have := E_g0.out b h1; have := (hF_t3 b h2).1; omega)
  have D_t3 : Hid (∀ b, (ival w7_.heap.size w8_.heap.size) b → w.heap.size ≤ b) := Lib.hid (fun b h => Nat.le_trans HB.out.size (hF_t3 b h).1)
  replace A0 := Lib.hid ((sliceT 5 u8T).behind A0.out (hb.mono HB.out.size))
  replace A1 := Lib.hid ((sliceT 5 u8T).behind A1.out (hb.mono HB.out.size))
  replace O_w0 := Lib.hid ((sliceT 5 u8T).onext O_w0.out hb)
  replace E_w0 : Hid (∀ b, F_w0 b → b < w8_.heap.size) := Lib.hid (fun b h => Nat.lt_of_lt_of_le (E_w0.out b h) hb.size)
  replace O_x0 := Lib.hid ((sliceT 5 u8T).onext O_x0.out hb)
  replace E_x0 : Hid (∀ b, (ival w3_.heap.size w4_.heap.size) b → b < w8_.heap.size) := Lib.hid (fun b h => Nat.lt_of_lt_of_le (E_x0.out b h) hb.size)
  replace O_x1 := Lib.hid ((sliceT 5 u8T).onext O_x1.out hb)
  replace E_x1 : Hid (∀ b, (ival w4_.heap.size w5_.heap.size) b → b < w8_.heap.size) := Lib.hid (fun b h => Nat.lt_of_lt_of_le (E_x1.out b h) hb.size)
  replace O_g0 := Lib.hid ((sliceT 5 u8T).onext O_g0.out hb)
  replace E_g0 : Hid (∀ b, F_g0 b → b < w8_.heap.size) := Lib.hid (fun b h => Nat.lt_of_lt_of_le (E_g0.out b h) hb.size)
  replace HB := Lib.hid (HB.out.trans (hb.mono HB.out.size))
  clear hb
  have O_t3 := Lib.hid hO_t3
  have E_t3 : Hid (∀ b, (ival w7_.heap.size w8_.heap.size) b → b < w8_.heap.size) := Lib.hid (fun b h => (hF_t3 b h).2)
  clear hO_t3 hF_t3
  go_wp2_with fail
  refine (eqByteS_same_t ((sliceT 5 u8T).ord O_x0.out) ((sliceT 5 u8T).ord O_t3.out) (Nat.le_refl _) (Nat.le_refl _)).mono ?_
  rintro e w9_ ⟨he, hb⟩
  subst he
  replace A0 := Lib.hid ((sliceT 5 u8T).behind A0.out (hb.mono HB.out.size))
  replace A1 := Lib.hid ((sliceT 5 u8T).behind A1.out (hb.mono HB.out.size))
  replace O_w0 := Lib.hid ((sliceT 5 u8T).onext O_w0.out hb)
  replace E_w0 : Hid (∀ b, F_w0 b → b < w9_.heap.size) := Lib.hid (fun b h => Nat.lt_of_lt_of_le (E_w0.out b h) hb.size)
  replace O_x0 := Lib.hid ((sliceT 5 u8T).onext O_x0.out hb)
  replace E_x0 : Hid (∀ b, (ival w3_.heap.size w4_.heap.size) b → b < w9_.heap.size) := Lib.hid (fun b h => Nat.lt_of_lt_of_le (E_x0.out b h) hb.size)
  replace O_x1 := Lib.hid ((sliceT 5 u8T).onext O_x1.out hb)
  replace E_x1 : Hid (∀ b, (ival w4_.heap.size w5_.heap.size) b → b < w9_.heap.size) := Lib.hid (fun b h => Nat.lt_of_lt_of_le (E_x1.out b h) hb.size)
  replace O_g0 := Lib.hid ((sliceT 5 u8T).onext O_g0.out hb)
  replace E_g0 : Hid (∀ b, F_g0 b → b < w9_.heap.size) := Lib.hid (fun b h => Nat.lt_of_lt_of_le (E_g0.out b h) hb.size)
  replace O_t3 := Lib.hid ((sliceT 5 u8T).onext O_t3.out hb)
  replace E_t3 : Hid (∀ b, (ival w7_.heap.size w8_.heap.size) b → b < w9_.heap.size) := Lib.hid (fun b h => Nat.lt_of_lt_of_le (E_t3.out b h) hb.size)
  replace HB := Lib.hid (HB.out.trans (hb.mono HB.out.size))
  clear hb
  clear O_t3 E_t3 D_t3
  clear X_x0_t3
  clear X_x1_t3
  clear X_g0_t3
  -- ('eq', '[]byte', ('own', 'x1'), ('copy', 1, '[]byte'))
  go_wp2_with fail
  refine (toByteS_t A1.out HB.out.size (Nat.le_trans B1t.out (by decide))).mono ?_
  rintro e w10_ ⟨v_t4, he, hO_t4, hb⟩
  subst he
  have hF_t4 : ∀ b, (ival w9_.heap.size w10_.heap.size) b → w9_.heap.size ≤ b ∧ b < w10_.heap.size := fun b h => h
  have X_x0_t4 : Hid (∀ b, (ival w3_.heap.size w4_.heap.size) b → ¬ (ival w9_.heap.size w10_.heap.size) b) := Lib.hid (fun b h1 h2 => by have := E_x0.out b h1; have := (hF_t4 b h2).1; omega)
  have X_x1_t4 : Hid (∀ b, (ival w4_.heap.size w5_.heap.size) b → ¬ (ival w9_.heap.size w10_.heap.size) b) := Lib.hid (fun b h1 h2 => by have := E_x1.out b h1; have := (hF_t4 b h2).1; omega)
  have X_g0_t4 : Hid (∀ b, F_g0 b → ¬ (ival w9_.heap.size w10_.heap.size) b) := Lib.hid (fun b h1 h2 => by have := E_g0.out b h1; have := (hF_t4 b h2).1; omega)
  have D_t4 : Hid (∀ b, (ival w9_.heap.size w10_.heap.size) b → w.heap.size ≤ b) := Lib.hid (fun b h => Nat.le_trans HB.out.size (hF_t4 b h).1)
  replace A0 := Lib.hid ((sliceT 5 u8T).behind A0.out (hb.mono HB.out.size))
  replace A1 := Lib.hid ((sliceT 5 u8T).behind A1.out (hb.mono HB.out.size))
  replace O_w0 := Lib.hid ((sliceT 5 u8T).onext O_w0.out hb)
  replace E_w0 : Hid (∀ b, F_w0 b → b < w10_.heap.size) := Lib.hid (fun b h => Nat.lt_of_lt_of_le (E_w0.out b h) hb.size)
  replace O_x0 := Lib.hid ((sliceT 5 u8T).onext O_x0.out hb)
  replace E_x0 : Hid (∀ b, (ival w3_.heap.size w4_.heap.size) b → b < w10_.heap.size) := Lib.hid (fun b h => Nat.lt_of_lt_of_le (E_x0.out b h) hb.size)
  replace O_x1 := Lib.hid ((sliceT 5 u8T).onext O_x1.out hb)
  replace E_x1 : Hid (∀ b, (ival w4_.heap.size w5_.heap.size) b → b < w10_.heap.size) := Lib.hid (fun b h => Nat.lt_of_lt_of_le (E_x1.out b h) hb.size)
  replace O_g0 := Lib.hid ((sliceT 5 u8T).onext O_g0.out hb)
  replace E_g0 : Hid (∀ b, F_g0 b → b < w10_.heap.size) := Lib.hid (fun b h => Nat.lt_of_lt_of_le (E_g0.out b h) hb.size)
  replace HB := Lib.hid (HB.out.trans (hb.mono HB.out.size))
  clear hb
  have O_t4 := Lib.hid hO_t4
  have E_t4 : Hid (∀ b, (ival w9_.heap.size w10_.heap.size) b → b < w10_.heap.size) := Lib.hid (fun b h => (hF_t4 b h).2)
  clear hO_t4 hF_t4
  go_wp2_with fail
  refine (eqByteS_same_t ((sliceT 5 u8T).ord O_x1.out) ((sliceT 5 u8T).ord O_t4.out) (Nat.le_refl _) (Nat.le_refl _)).mono ?_
  rintro e w11_ ⟨he, hb⟩
  subst he
  replace A0 := Lib.hid ((sliceT 5 u8T).behind A0.out (hb.mono HB.out.size))
  replace A1 := Lib.hid ((sliceT 5 u8T).behind A1.out (hb.mono HB.out.size))
  replace O_w0 := Lib.hid ((sliceT 5 u8T).onext O_w0.out hb)
  replace E_w0 : Hid (∀ b, F_w0 b → b < w11_.heap.size) := Lib.hid (fun b h => Nat.lt_of_lt_of_le (E_w0.out b h) hb.size)
  replace O_x0 := Lib.hid ((sliceT 5 u8T).onext O_x0.out hb)
  replace E_x0 : Hid (∀ b, (ival w3_.heap.size w4_.heap.size) b → b < w11_.heap.size) := Lib.hid (fun b h => Nat.lt_of_lt_of_le (E_x0.out b h) hb.size)
  replace O_x1 := Lib.hid ((sliceT 5 u8T).onext O_x1.out hb)
  replace E_x1 : Hid (∀ b, (ival w4_.heap.size w5_.heap.size) b → b < w11_.heap.size) := Lib.hid (fun b h => Nat.lt_of_lt_of_le (E_x1.out b h) hb.size)
  replace O_g0 := Lib.hid ((sliceT 5 u8T).onext O_g0.out hb)
  replace E_g0 : Hid (∀ b, F_g0 b → b < w11_.heap.size) := Lib.hid (fun b h => Nat.lt_of_lt_of_le (E_g0.out b h) hb.size)
  replace O_t4 := Lib.hid ((sliceT 5 u8T).onext O_t4.out hb)
  replace E_t4 : Hid (∀ b, (ival w9_.heap.size w10_.heap.size) b → b < w11_.heap.size) := Lib.hid (fun b h => Nat.lt_of_lt_of_le (E_t4.out b h) hb.size)
  replace HB := Lib.hid (HB.out.trans (hb.mono HB.out.size))
  clear hb
  clear O_t4 E_t4 D_t4
  clear X_x0_t4
  clear X_x1_t4
  clear X_g0_t4
  -- ('set', 'k', '1')
  -- ('mark', 'k', '[]byte', 'x0', 'k')
  have hF10 : (sliceT 5 u8T).vcnt s0 ≤ 1099511627776 := vb_ints L0t.out
  obtain ⟨K10, hK10⟩ : ∃ K : Int, K = 1 + (((sliceT 5 u8T).vcnt s0 : Nat) : Int) := ⟨_, rfl⟩
  have hB10 : 0 ≤ K10 ∧ K10 ≤ 1099511627786 := by omega
  have G10 := Lib.hid hK10
  clear hK10
  go_wp2_with fail
  refine (markByteS_t (k0 := 1) O_x0.out (by omega) (by omega)).mono ?_
  rintro e w12_ ⟨he, hO, hk⟩
  rw [← G10.out] at he
  subst he
  have hb := hk.below (B := w.heap.size) D_x0.out HB.out.size
  replace A0 := Lib.hid ((sliceT 5 u8T).behind A0.out hb)
  replace A1 := Lib.hid ((sliceT 5 u8T).behind A1.out hb)
  replace O_w0 := Lib.hid ((sliceT 5 u8T).okept O_w0.out hk X_w0_x0.out)
  replace E_w0 : Hid (∀ b, F_w0 b → b < w12_.heap.size) := Lib.hid (fun b h => Nat.lt_of_lt_of_le (E_w0.out b h) hk.size)
  replace E_x0 : Hid (∀ b, (ival w3_.heap.size w4_.heap.size) b → b < w12_.heap.size) := Lib.hid (fun b h => Nat.lt_of_lt_of_le (E_x0.out b h) hk.size)
  replace O_x1 := Lib.hid ((sliceT 5 u8T).okept O_x1.out hk (fun b h1 h2 => X_x0_x1.out b h2 h1))
  replace E_x1 : Hid (∀ b, (ival w4_.heap.size w5_.heap.size) b → b < w12_.heap.size) := Lib.hid (fun b h => Nat.lt_of_lt_of_le (E_x1.out b h) hk.size)
  replace O_g0 := Lib.hid ((sliceT 5 u8T).okept O_g0.out hk (fun b h1 h2 => X_x0_g0.out b h2 h1))
  replace E_g0 : Hid (∀ b, F_g0 b → b < w12_.heap.size) := Lib.hid (fun b h => Nat.lt_of_lt_of_le (E_g0.out b h) hk.size)
  replace HB := Lib.hid (HB.out.trans hb)
  replace O_x0 := Lib.hid hO
  clear hO hk hb
  clear O_x0 E_x0 D_x0
  clear X_w0_x0
  clear X_x0_x1
  clear X_x0_g0
  -- ('mark', 'k', '[]byte', 'x1', 'k')
  have hF11 : (sliceT 5 u8T).vcnt s1 ≤ 1099511627776 := vb_ints L1t.out
  obtain ⟨K11, hK11⟩ : ∃ K : Int, K = K10 + (((sliceT 5 u8T).vcnt s1 : Nat) : Int) := ⟨_, rfl⟩
  have hB11 : 0 ≤ K11 ∧ K11 ≤ 2199023255562 := by omega
  have G11 := Lib.hid hK11
  clear hK11
  go_wp2_with fail
  refine (markByteS_t (k0 := K10) O_x1.out (by omega) (by omega)).mono ?_
  rintro e w13_ ⟨he, hO, hk⟩
  rw [← G11.out] at he
  subst he
  have hb := hk.below (B := w.heap.size) D_x1.out HB.out.size
  replace A0 := Lib.hid ((sliceT 5 u8T).behind A0.out hb)
  replace A1 := Lib.hid ((sliceT 5 u8T).behind A1.out hb)
  replace O_w0 := Lib.hid ((sliceT 5 u8T).okept O_w0.out hk X_w0_x1.out)
  replace E_w0 : Hid (∀ b, F_w0 b → b < w13_.heap.size) := Lib.hid (fun b h => Nat.lt_of_lt_of_le (E_w0.out b h) hk.size)
  replace E_x1 : Hid (∀ b, (ival w4_.heap.size w5_.heap.size) b → b < w13_.heap.size) := Lib.hid (fun b h => Nat.lt_of_lt_of_le (E_x1.out b h) hk.size)
  replace O_g0 := Lib.hid ((sliceT 5 u8T).okept O_g0.out hk (fun b h1 h2 => X_x1_g0.out b h2 h1))
  replace E_g0 : Hid (∀ b, F_g0 b → b < w13_.heap.size) := Lib.hid (fun b h => Nat.lt_of_lt_of_le (E_g0.out b h) hk.size)
  replace HB := Lib.hid (HB.out.trans hb)
  replace O_x1 := Lib.hid hO
  clear hO hk hb
  clear O_x1 E_x1 D_x1
  clear X_w0_x1
  clear X_x1_g0
  -- ('eq', '[]byte', ('own', 'g0'), ('own', 'w0'))
  go_wp2_with fail
  refine (eqByteS_same_t ((sliceT 5 u8T).ord O_g0.out) ((sliceT 5 u8T).ord O_w0.out) (Nat.le_refl _) (Nat.le_refl _)).mono ?_
  rintro e w14_ ⟨he, hb⟩
  subst he
  replace A0 := Lib.hid ((sliceT 5 u8T).behind A0.out (hb.mono HB.out.size))
  replace A1 := Lib.hid ((sliceT 5 u8T).behind A1.out (hb.mono HB.out.size))
  replace O_w0 := Lib.hid ((sliceT 5 u8T).onext O_w0.out hb)
  replace E_w0 : Hid (∀ b, F_w0 b → b < w14_.heap.size) := Lib.hid (fun b h => Nat.lt_of_lt_of_le (E_w0.out b h) hb.size)
  replace O_g0 := Lib.hid ((sliceT 5 u8T).onext O_g0.out hb)
  replace E_g0 : Hid (∀ b, F_g0 b → b < w14_.heap.size) := Lib.hid (fun b h => Nat.lt_of_lt_of_le (E_g0.out b h) hb.size)
  replace HB := Lib.hid (HB.out.trans (hb.mono HB.out.size))
  clear hb
  -- ('set', 'm', '1')
  -- ('mark', 'm', '[]byte', 'g0', 'm')
  have hF14 : (sliceT 5 u8T).vcnt Y0 ≤ 1099511627776 := by rw [HY0.out]; exact vb_xorl L0t.out L1t.out
  obtain ⟨K14, hK14⟩ : ∃ K : Int, K = 1 + (((sliceT 5 u8T).vcnt Y0 : Nat) : Int) := ⟨_, rfl⟩
  have hB14 : 0 ≤ K14 ∧ K14 ≤ 3298534883338 := by omega
  have G14 := Lib.hid hK14
  clear hK14
  go_wp2_with fail
  refine (markByteS_t (k0 := 1) O_g0.out (by omega) (by omega)).mono ?_
  rintro e w15_ ⟨he, hO, hk⟩
  rw [← G14.out] at he
  subst he
  have hb := hk.below (B := w.heap.size) D_g0.out HB.out.size
  replace A0 := Lib.hid ((sliceT 5 u8T).behind A0.out hb)
  replace A1 := Lib.hid ((sliceT 5 u8T).behind A1.out hb)
  replace O_w0 := Lib.hid ((sliceT 5 u8T).okept O_w0.out hk X_w0_g0.out)
  replace E_w0 : Hid (∀ b, F_w0 b → b < w15_.heap.size) := Lib.hid (fun b h => Nat.lt_of_lt_of_le (E_w0.out b h) hk.size)
  replace E_g0 : Hid (∀ b, F_g0 b → b < w15_.heap.size) := Lib.hid (fun b h => Nat.lt_of_lt_of_le (E_g0.out b h) hk.size)
  replace HB := Lib.hid (HB.out.trans hb)
  replace O_g0 := Lib.hid hO
  clear hO hk hb
  -- ('set', 'q', '1')
  -- ('held', 'q', '[]byte', 'g0', 'q')
  go_wp2_with fail
  refine (heldByteS_t (x := Y0) (k0 := 1) ((sliceT 5 u8T).ord O_g0.out) (Nat.le_refl _) (by omega) (by omega)).mono ?_
  rintro e w16_ ⟨he, hb⟩
  rw [← G14.out] at he
  subst he
  replace A0 := Lib.hid ((sliceT 5 u8T).behind A0.out (hb.mono HB.out.size))
  replace A1 := Lib.hid ((sliceT 5 u8T).behind A1.out (hb.mono HB.out.size))
  replace O_w0 := Lib.hid ((sliceT 5 u8T).onext O_w0.out hb)
  replace E_w0 : Hid (∀ b, F_w0 b → b < w16_.heap.size) := Lib.hid (fun b h => Nat.lt_of_lt_of_le (E_w0.out b h) hb.size)
  replace O_g0 := Lib.hid ((sliceT 5 u8T).onext O_g0.out hb)
  replace E_g0 : Hid (∀ b, F_g0 b → b < w16_.heap.size) := Lib.hid (fun b h => Nat.lt_of_lt_of_le (E_g0.out b h) hb.size)
  replace HB := Lib.hid (HB.out.trans (hb.mono HB.out.size))
  clear hb
  have dd16 : decide (K14 < 0) = false := by simp; omega
  -- ('call', 'impl', 'CollideWrites', [('copy', 0, '[]byte'), ('copy', 1, '[]byte')], ['h0'])
  go_wp2_with fail
  refine (toByteS_t A0.out HB.out.size (Nat.le_trans B0t.out (by decide))).mono ?_
  rintro e w17_ ⟨v_t5, he, hO_t5, hb⟩
  subst he
  have hF_t5 : ∀ b, (ival w16_.heap.size w17_.heap.size) b → w16_.heap.size ≤ b ∧ b < w17_.heap.size := fun b h => h
  have D_t5 : Hid (∀ b, (ival w16_.heap.size w17_.heap.size) b → w.heap.size ≤ b) := Lib.hid (fun b h => Nat.le_trans HB.out.size (hF_t5 b h).1)
  replace A0 := Lib.hid ((sliceT 5 u8T).behind A0.out (hb.mono HB.out.size))
  replace A1 := Lib.hid ((sliceT 5 u8T).behind A1.out (hb.mono HB.out.size))
  replace O_w0 := Lib.hid ((sliceT 5 u8T).onext O_w0.out hb)
  replace E_w0 : Hid (∀ b, F_w0 b → b < w17_.heap.size) := Lib.hid (fun b h => Nat.lt_of_lt_of_le (E_w0.out b h) hb.size)
  replace O_g0 := Lib.hid ((sliceT 5 u8T).onext O_g0.out hb)
  replace E_g0 : Hid (∀ b, F_g0 b → b < w17_.heap.size) := Lib.hid (fun b h => Nat.lt_of_lt_of_le (E_g0.out b h) hb.size)
  replace HB := Lib.hid (HB.out.trans (hb.mono HB.out.size))
  clear hb
  have O_t5 := Lib.hid hO_t5
  have E_t5 : Hid (∀ b, (ival w16_.heap.size w17_.heap.size) b → b < w17_.heap.size) := Lib.hid (fun b h => (hF_t5 b h).2)
  clear hO_t5 hF_t5
  go_wp2_with fail
  refine (toByteS_t A1.out HB.out.size (Nat.le_trans B1t.out (by decide))).mono ?_
  rintro e w18_ ⟨v_t6, he, hO_t6, hb⟩
  subst he
  have hF_t6 : ∀ b, (ival w17_.heap.size w18_.heap.size) b → w17_.heap.size ≤ b ∧ b < w18_.heap.size := fun b h => h
  have D_t6 : Hid (∀ b, (ival w17_.heap.size w18_.heap.size) b → w.heap.size ≤ b) := Lib.hid (fun b h => Nat.le_trans HB.out.size (hF_t6 b h).1)
  replace A0 := Lib.hid ((sliceT 5 u8T).behind A0.out (hb.mono HB.out.size))
  replace A1 := Lib.hid ((sliceT 5 u8T).behind A1.out (hb.mono HB.out.size))
  replace O_w0 := Lib.hid ((sliceT 5 u8T).onext O_w0.out hb)
  replace E_w0 : Hid (∀ b, F_w0 b → b < w18_.heap.size) := Lib.hid (fun b h => Nat.lt_of_lt_of_le (E_w0.out b h) hb.size)
  replace O_g0 := Lib.hid ((sliceT 5 u8T).onext O_g0.out hb)
  replace E_g0 : Hid (∀ b, F_g0 b → b < w18_.heap.size) := Lib.hid (fun b h => Nat.lt_of_lt_of_le (E_g0.out b h) hb.size)
  replace O_t5 := Lib.hid ((sliceT 5 u8T).onext O_t5.out hb)
  replace E_t5 : Hid (∀ b, (ival w16_.heap.size w17_.heap.size) b → b < w18_.heap.size) := Lib.hid (fun b h => Nat.lt_of_lt_of_le (E_t5.out b h) hb.size)
  replace HB := Lib.hid (HB.out.trans (hb.mono HB.out.size))
  clear hb
  have O_t6 := Lib.hid hO_t6
  have E_t6 : Hid (∀ b, (ival w17_.heap.size w18_.heap.size) b → b < w18_.heap.size) := Lib.hid (fun b h => (hF_t6 b h).2)
  clear hO_t6 hF_t6
  go_wp2_with fail
  refine (impl_cw_t ((sliceT 5 u8T).ord O_t5.out) (Nat.le_refl _) ((sliceT 5 u8T).ord O_t6.out) (Nat.le_refl _) (by have h1 := L0t.out; have h2 := L1t.out; omega)).mono ?_
  rintro e w19_ ⟨v_h0, F_h0, he, hO_h0, hF_h0, hb⟩
  replace hO_h0 : (sliceT 5 u8T).own F_h0 w19_ [v_h0] (xorl s0 s1) := hO_h0
  rw [← HY0.out] at hO_h0
  subst he
  have D_h0 : Hid (∀ b, F_h0 b → w.heap.size ≤ b) := Lib.hid (fun b h => Nat.le_trans HB.out.size (hF_h0 b h).1)
  replace A0 := Lib.hid ((sliceT 5 u8T).behind A0.out (hb.mono HB.out.size))
  replace A1 := Lib.hid ((sliceT 5 u8T).behind A1.out (hb.mono HB.out.size))
  replace O_w0 := Lib.hid ((sliceT 5 u8T).onext O_w0.out hb)
  replace E_w0 : Hid (∀ b, F_w0 b → b < w19_.heap.size) := Lib.hid (fun b h => Nat.lt_of_lt_of_le (E_w0.out b h) hb.size)
  replace O_g0 := Lib.hid ((sliceT 5 u8T).onext O_g0.out hb)
  replace E_g0 : Hid (∀ b, F_g0 b → b < w19_.heap.size) := Lib.hid (fun b h => Nat.lt_of_lt_of_le (E_g0.out b h) hb.size)
  replace O_t5 := Lib.hid ((sliceT 5 u8T).onext O_t5.out hb)
  replace E_t5 : Hid (∀ b, (ival w16_.heap.size w17_.heap.size) b → b < w19_.heap.size) := Lib.hid (fun b h => Nat.lt_of_lt_of_le (E_t5.out b h) hb.size)
  replace O_t6 := Lib.hid ((sliceT 5 u8T).onext O_t6.out hb)
  replace E_t6 : Hid (∀ b, (ival w17_.heap.size w18_.heap.size) b → b < w19_.heap.size) := Lib.hid (fun b h => Nat.lt_of_lt_of_le (E_t6.out b h) hb.size)
  replace HB := Lib.hid (HB.out.trans (hb.mono HB.out.size))
  clear hb
  have O_h0 := Lib.hid hO_h0
  have E_h0 : Hid (∀ b, F_h0 b → b < w19_.heap.size) := Lib.hid (fun b h => (hF_h0 b h).2)
  clear hO_h0 hF_h0
  clear O_t5 E_t5 D_t5
  clear O_t6 E_t6 D_t6
  clear A0
  clear A1
  -- ('eq', '[]byte', ('own', 'h0'), ('own', 'w0'))
  go_wp2_with fail
  refine (eqByteS_same_t ((sliceT 5 u8T).ord O_h0.out) ((sliceT 5 u8T).ord O_w0.out) (Nat.le_refl _) (Nat.le_refl _)).mono ?_
  rintro e w20_ ⟨he, hb⟩
  subst he
  replace O_w0 := Lib.hid ((sliceT 5 u8T).onext O_w0.out hb)
  replace E_w0 : Hid (∀ b, F_w0 b → b < w20_.heap.size) := Lib.hid (fun b h => Nat.lt_of_lt_of_le (E_w0.out b h) hb.size)
  replace O_g0 := Lib.hid ((sliceT 5 u8T).onext O_g0.out hb)
  replace E_g0 : Hid (∀ b, F_g0 b → b < w20_.heap.size) := Lib.hid (fun b h => Nat.lt_of_lt_of_le (E_g0.out b h) hb.size)
  replace O_h0 := Lib.hid ((sliceT 5 u8T).onext O_h0.out hb)
  replace E_h0 : Hid (∀ b, F_h0 b → b < w20_.heap.size) := Lib.hid (fun b h => Nat.lt_of_lt_of_le (E_h0.out b h) hb.size)
  replace HB := Lib.hid (HB.out.trans (hb.mono HB.out.size))
  clear hb
  clear O_w0 E_w0 D_w0
  clear X_w0_g0
  clear O_h0 E_h0 D_h0
  -- ('set', 'q', '1')
  -- ('held', 'q', '[]byte', 'g0', 'q')
  go_wp2_with fail
  refine (heldByteS_t (x := Y0) (k0 := 1) ((sliceT 5 u8T).ord O_g0.out) (Nat.le_refl _) (by omega) (by omega)).mono ?_
  rintro e w21_ ⟨he, hb⟩
  rw [← G14.out] at he
  subst he
  replace O_g0 := Lib.hid ((sliceT 5 u8T).onext O_g0.out hb)
  replace E_g0 : Hid (∀ b, F_g0 b → b < w21_.heap.size) := Lib.hid (fun b h => Nat.lt_of_lt_of_le (E_g0.out b h) hb.size)
  replace HB := Lib.hid (HB.out.trans (hb.mono HB.out.size))
  clear hb
  have dd20 : decide (K14 < 0) = false := by simp; omega
  clear O_g0 E_g0 D_g0
  go_wp2_with fail
  go_ret
  exact ⟨rfl, HB.out⟩
  
end Go.Proofs.Ytdipignajccdcaa
