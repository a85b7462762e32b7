/- FnExactMakeInvitation: the walk. No conditions. -/
import Derived.Test.YtlhpjfhglkngfaaDlW
import Derived.Test.YtlhpjfhglkngfaaCells
import Derived.Deep.RegionHeld3
import Derived.Deep.DeepCutAuto
namespace Go.Proofs.Ytlhpjfhglkngfaa
open Go Go.RowKit
set_option linter.unusedVariables false
attribute [local irreducible] kh

set_option maxHeartbeats 4000000 in
set_option maxRecDepth 100000 in
theorem fnExactMakeInvitation_walk (c0 : List Value) (s0 : VIdentity) (a1 : Int) (a2 : Int) (w : World) (w0 : tyIdentity.rd w.heap.size w c0 s0) (w1 : (Lit.int .i64 a1).wf = true) (w2 : (Lit.int .i64 a2).wf = true) :
    Calls Try.prog 7 #[.agg c0.toArray, .int .i64 a1, .int .i64 a2] w fun e w' => e = .returned (.bool true) ∧ Below w.heap.size w w' := by
  obtain ⟨rfl, _⟩ := rd_Identity w0
  have A0 := Lib.hid w0
  clear w0
  have W1 := Lib.hid w1
  have w1b := wf_i64 w1
  clear w1
  have W2 := Lib.hid w2
  have w2b := wf_i64 w2
  clear w2
  go_enter Try.func7, Try.ntmps7
  have hb := ((Below.refl w.heap.size w).alloc (Nat.le_refl _) (.cells #[.int .i64 s0.1, .int .i64 s0.2] 27))
  have K_p0 := Lib.hid (heap_alloc_new w (.cells #[.int .i64 s0.1, .int .i64 s0.2] 27))
  replace A0 := Lib.hid (tyIdentity.behind A0.out hb)
  have HB := Lib.hid hb
  clear hb
  have k_p0_0 := blk_cell K_p0.out 0
  rw [cell2_0] at k_p0_0
  have k_p0_1 := blk_cell K_p0.out 1
  rw [cell2_1] at k_p0_1
  go_wp2_with fail
  clear k_p0_0 k_p0_1
  obtain ⟨w1_, hw⟩ : ∃ x, x = (w.alloc (.cells #[.int .i64 s0.1, .int .i64 s0.2] 27)) := ⟨_, rfl⟩
  rw [← hw] at HB A0 K_p0 ⊢
  clear hw
  -- ('call', 'spec', 'MakeInvitation', [('copy', 0, 'Identity'), ('arg', 1), ('arg', 2)], ['w0', 'w1'])
  refine (toIdentity_any A0.out HB.out.size (show (0 : Nat) ≤ 1073741824 by decide)).mono ?_
  rintro e w2_ ⟨c_t1, he, hO_t1, hb⟩
  subst he
  have hF_t1 : ∀ b, (ival w1_.heap.size w2_.heap.size) b → w1_.heap.size ≤ b ∧ b < w2_.heap.size := fun b h => h
  obtain ⟨rfl, _⟩ := own_Identity hO_t1
  have D_t1 : Hid (∀ b, (ival w1_.heap.size w2_.heap.size) b → w.heap.size ≤ b) := Lib.hid (fun b h => Nat.le_trans HB.out.size (hF_t1 b h).1)
  replace A0 := Lib.hid (tyIdentity.behind A0.out (hb.mono HB.out.size))
  replace K_p0 := Lib.hid ((hb.block _ (lt_of_block K_p0.out)).trans K_p0.out)
  replace HB := Lib.hid (HB.out.trans (hb.mono HB.out.size))
  clear hb
  have O_t1 := Lib.hid hO_t1
  have E_t1 : Hid (∀ b, (ival w1_.heap.size w2_.heap.size) b → b < w2_.heap.size) := Lib.hid (fun b h => (hF_t1 b h).2)
  clear hO_t1 hF_t1
  have k_p0_0 := blk_cell K_p0.out 0
  rw [cell2_0] at k_p0_0
  have k_p0_1 := blk_cell K_p0.out 1
  rw [cell2_1] at k_p0_1
  go_wp2_with fail
  clear k_p0_0 k_p0_1
  refine (spec_mki_t (tyIdentity.ord O_t1.out) (Nat.le_refl _) W1.out W2.out).mono ?_
  obtain ⟨Y0, hY0⟩ : ∃ y : List Int, y = icell s0.1 s0.2 a1 a2 := ⟨_, rfl⟩
  obtain ⟨Y1, hY1⟩ : ∃ y : Bool, y = iok s0.1 s0.2 a1 a2 := ⟨_, rfl⟩
  rintro e w3_ ⟨v_w0, F_w0, he, hO_w0, hF_w0, hb⟩
  replace hO_w0 : (sliceT 5 u8T).own F_w0 w3_ [v_w0] (icell s0.1 s0.2 a1 a2) := hO_w0
  rw [← hY0] at hO_w0
  rw [← hY1] at he
  have HY0 := Lib.hid hY0
  clear hY0
  have HY1 := Lib.hid hY1
  clear hY1
  subst he
  have D_w0 : Hid (∀ b, F_w0 b → w.heap.size ≤ b) := Lib.hid (fun b h => Nat.le_trans HB.out.size (hF_w0 b h).1)
  replace A0 := Lib.hid (tyIdentity.behind A0.out (hb.mono HB.out.size))
  replace O_t1 := Lib.hid (tyIdentity.onext O_t1.out hb)
  replace E_t1 : Hid (∀ b, (ival w1_.heap.size w2_.heap.size) b → b < w3_.heap.size) := Lib.hid (fun b h => Nat.lt_of_lt_of_le (E_t1.out b h) hb.size)
  replace K_p0 := Lib.hid ((hb.block _ (lt_of_block K_p0.out)).trans K_p0.out)
  replace HB := Lib.hid (HB.out.trans (hb.mono HB.out.size))
  clear hb
  have O_w0 := Lib.hid hO_w0
  have E_w0 : Hid (∀ b, F_w0 b → b < w3_.heap.size) := Lib.hid (fun b h => (hF_w0 b h).2)
  clear hO_w0 hF_w0
  clear O_t1 E_t1 D_t1
  -- ('call', 'impl', 'MakeInvitation', [('copy', 0, 'Identity'), ('arg', 1), ('arg', 2)], ['g0', 'g1'])
  have k_p0_0 := blk_cell K_p0.out 0
  rw [cell2_0] at k_p0_0
  have k_p0_1 := blk_cell K_p0.out 1
  rw [cell2_1] at k_p0_1
  go_wp2_with fail
  clear k_p0_0 k_p0_1
  refine (toIdentity_any A0.out HB.out.size (show (0 : Nat) ≤ 1073741824 by decide)).mono ?_
  rintro e w4_ ⟨c_t2, he, hO_t2, hb⟩
  subst he
  have hF_t2 : ∀ b, (ival w3_.heap.size w4_.heap.size) b → w3_.heap.size ≤ b ∧ b < w4_.heap.size := fun b h => h
  obtain ⟨rfl, _⟩ := own_Identity hO_t2
  have D_t2 : Hid (∀ b, (ival w3_.heap.size w4_.heap.size) b → w.heap.size ≤ b) := Lib.hid (fun b h => Nat.le_trans HB.out.size (hF_t2 b h).1)
  replace A0 := Lib.hid (tyIdentity.behind A0.out (hb.mono HB.out.size))
  replace O_w0 := Lib.hid ((sliceT 5 u8T).onext O_w0.out hb)
  replace E_w0 : Hid (∀ b, F_w0 b → b < w4_.heap.size) := Lib.hid (fun b h => Nat.lt_of_lt_of_le (E_w0.out b h) hb.size)
  replace K_p0 := Lib.hid ((hb.block _ (lt_of_block K_p0.out)).trans K_p0.out)
  replace HB := Lib.hid (HB.out.trans (hb.mono HB.out.size))
  clear hb
  have O_t2 := Lib.hid hO_t2
  have E_t2 : Hid (∀ b, (ival w3_.heap.size w4_.heap.size) b → b < w4_.heap.size) := Lib.hid (fun b h => (hF_t2 b h).2)
  clear hO_t2 hF_t2
  have k_p0_0 := blk_cell K_p0.out 0
  rw [cell2_0] at k_p0_0
  have k_p0_1 := blk_cell K_p0.out 1
  rw [cell2_1] at k_p0_1
  go_wp2_with fail
  clear k_p0_0 k_p0_1
  refine (impl_mki_t (tyIdentity.ord O_t2.out) (Nat.le_refl _) W1.out W2.out).mono ?_
  rintro e w5_ ⟨v_g0, F_g0, he, hO_g0, hF_g0, hb⟩
  replace hO_g0 : (sliceT 5 u8T).own F_g0 w5_ [v_g0] (icell s0.1 s0.2 a1 a2) := hO_g0
  rw [← HY0.out] at hO_g0
  rw [← HY1.out] at he
  subst he
  have X_w0_g0 : Hid (∀ b, F_w0 b → ¬ F_g0 b) := Lib.hid (fun b h1 h2 => by have := E_w0.out b h1; have := (hF_g0 b h2).1; omega)
  have X_t2_g0 : Hid (∀ b, (ival w3_.heap.size w4_.heap.size) b → ¬ F_g0 b) := Lib.hid (fun b h1 h2 => by have := E_t2.out b h1; have := (hF_g0 b h2).1; omega)
  have N_p0_g0 : Hid (¬ F_g0 (w.heap.size)) := Lib.hid (fun h => by have := (hF_g0 _ h).1; have := lt_of_block K_p0.out; omega)
  have D_g0 : Hid (∀ b, F_g0 b → w.heap.size ≤ b) := Lib.hid (fun b h => Nat.le_trans HB.out.size (hF_g0 b h).1)
  replace A0 := Lib.hid (tyIdentity.behind A0.out (hb.mono HB.out.size))
  replace O_w0 := Lib.hid ((sliceT 5 u8T).onext O_w0.out hb)
  replace E_w0 : Hid (∀ b, F_w0 b → b < w5_.heap.size) := Lib.hid (fun b h => Nat.lt_of_lt_of_le (E_w0.out b h) hb.size)
  replace O_t2 := Lib.hid (tyIdentity.onext O_t2.out hb)
  replace E_t2 : Hid (∀ b, (ival w3_.heap.size w4_.heap.size) b → b < w5_.heap.size) := Lib.hid (fun b h => Nat.lt_of_lt_of_le (E_t2.out b h) hb.size)
  replace K_p0 := Lib.hid ((hb.block _ (lt_of_block K_p0.out)).trans K_p0.out)
  replace HB := Lib.hid (HB.out.trans (hb.mono HB.out.size))
  clear hb
  have O_g0 := Lib.hid hO_g0
  have E_g0 : Hid (∀ b, F_g0 b → b < w5_.heap.size) := Lib.hid (fun b h => (hF_g0 b h).2)
  clear hO_g0 hF_g0
  clear O_t2 E_t2 D_t2
  clear X_t2_g0
  -- ('eq', '[]byte', ('own', 'g0'), ('own', 'w0'))
  have k_p0_0 := blk_cell K_p0.out 0
  rw [cell2_0] at k_p0_0
  have k_p0_1 := blk_cell K_p0.out 1
  rw [cell2_1] at k_p0_1
  go_wp2_with fail
  clear k_p0_0 k_p0_1
  refine (eqByteS_same_t ((sliceT 5 u8T).ord O_g0.out) ((sliceT 5 u8T).ord O_w0.out) (Nat.le_refl _) (Nat.le_refl _)).mono ?_
  rintro e w6_ ⟨he, hb⟩
  subst he
  replace A0 := Lib.hid (tyIdentity.behind A0.out (hb.mono HB.out.size))
  replace O_w0 := Lib.hid ((sliceT 5 u8T).onext O_w0.out hb)
  replace E_w0 : Hid (∀ b, F_w0 b → b < w6_.heap.size) := Lib.hid (fun b h => Nat.lt_of_lt_of_le (E_w0.out b h) hb.size)
  replace O_g0 := Lib.hid ((sliceT 5 u8T).onext O_g0.out hb)
  replace E_g0 : Hid (∀ b, F_g0 b → b < w6_.heap.size) := Lib.hid (fun b h => Nat.lt_of_lt_of_le (E_g0.out b h) hb.size)
  replace K_p0 := Lib.hid ((hb.block _ (lt_of_block K_p0.out)).trans K_p0.out)
  replace HB := Lib.hid (HB.out.trans (hb.mono HB.out.size))
  clear hb
  -- ('set', 'm', '1')
  -- ('mark', 'm', '[]byte', 'g0', 'm')
  have hF4 : (sliceT 5 u8T).vcnt Y0 ≤ 1099511627776 := by rw [HY0.out]; exact vb_ic _ _ _ _
  obtain ⟨K4, hK4⟩ : ∃ K : Int, K = 1 + (((sliceT 5 u8T).vcnt Y0 : Nat) : Int) := ⟨_, rfl⟩
  have hB4 : 0 ≤ K4 ∧ K4 ≤ 1099511627786 := by omega
  have G4 := Lib.hid hK4
  clear hK4
  have k_p0_0 := blk_cell K_p0.out 0
  rw [cell2_0] at k_p0_0
  have k_p0_1 := blk_cell K_p0.out 1
  rw [cell2_1] at k_p0_1
  go_wp2_with fail
  clear k_p0_0 k_p0_1
  refine (markByteS_t (k0 := 1) O_g0.out (by omega) (by omega)).mono ?_
  rintro e w7_ ⟨he, hO, hk⟩
  rw [← G4.out] at he
  subst he
  have hb := hk.below (B := w.heap.size) D_g0.out HB.out.size
  replace A0 := Lib.hid (tyIdentity.behind A0.out hb)
  replace O_w0 := Lib.hid ((sliceT 5 u8T).okept O_w0.out hk X_w0_g0.out)
  replace E_w0 : Hid (∀ b, F_w0 b → b < w7_.heap.size) := Lib.hid (fun b h => Nat.lt_of_lt_of_le (E_w0.out b h) hk.size)
  replace E_g0 : Hid (∀ b, F_g0 b → b < w7_.heap.size) := Lib.hid (fun b h => Nat.lt_of_lt_of_le (E_g0.out b h) hk.size)
  replace K_p0 := Lib.hid ((hk.block _ (lt_of_block K_p0.out) N_p0_g0.out).trans K_p0.out)
  replace HB := Lib.hid (HB.out.trans hb)
  replace O_g0 := Lib.hid hO
  clear hO hk hb
  -- ('set', 'q', '1')
  -- ('held', 'q', '[]byte', 'g0', 'q')
  have k_p0_0 := blk_cell K_p0.out 0
  rw [cell2_0] at k_p0_0
  have k_p0_1 := blk_cell K_p0.out 1
  rw [cell2_1] at k_p0_1
  go_wp2_with fail
  clear k_p0_0 k_p0_1
  refine (heldByteS_t (x := Y0) (k0 := 1) ((sliceT 5 u8T).ord O_g0.out) (Nat.le_refl _) (by omega) (by omega)).mono ?_
  rintro e w8_ ⟨he, hb⟩
  rw [← G4.out] at he
  subst he
  replace A0 := Lib.hid (tyIdentity.behind A0.out (hb.mono HB.out.size))
  replace O_w0 := Lib.hid ((sliceT 5 u8T).onext O_w0.out hb)
  replace E_w0 : Hid (∀ b, F_w0 b → b < w8_.heap.size) := Lib.hid (fun b h => Nat.lt_of_lt_of_le (E_w0.out b h) hb.size)
  replace O_g0 := Lib.hid ((sliceT 5 u8T).onext O_g0.out hb)
  replace E_g0 : Hid (∀ b, F_g0 b → b < w8_.heap.size) := Lib.hid (fun b h => Nat.lt_of_lt_of_le (E_g0.out b h) hb.size)
  replace K_p0 := Lib.hid ((hb.block _ (lt_of_block K_p0.out)).trans K_p0.out)
  replace HB := Lib.hid (HB.out.trans (hb.mono HB.out.size))
  clear hb
  have dd6 : decide (K4 < 0) = false := by simp; omega
  -- ('call', 'impl', 'MakeInvitation', [('copy', 0, 'Identity'), ('arg', 1), ('arg', 2)], ['h0', 'h1'])
  have k_p0_0 := blk_cell K_p0.out 0
  rw [cell2_0] at k_p0_0
  have k_p0_1 := blk_cell K_p0.out 1
  rw [cell2_1] at k_p0_1
  go_wp2_with fail
  clear k_p0_0 k_p0_1
  refine (toIdentity_any A0.out HB.out.size (show (0 : Nat) ≤ 1073741824 by decide)).mono ?_
  rintro e w9_ ⟨c_t3, he, hO_t3, hb⟩
  subst he
  have hF_t3 : ∀ b, (ival w8_.heap.size w9_.heap.size) b → w8_.heap.size ≤ b ∧ b < w9_.heap.size := fun b h => h
  obtain ⟨rfl, _⟩ := own_Identity hO_t3
  have D_t3 : Hid (∀ b, (ival w8_.heap.size w9_.heap.size) b → w.heap.size ≤ b) := Lib.hid (fun b h => Nat.le_trans HB.out.size (hF_t3 b h).1)
  replace A0 := Lib.hid (tyIdentity.behind A0.out (hb.mono HB.out.size))
  replace O_w0 := Lib.hid ((sliceT 5 u8T).onext O_w0.out hb)
  replace E_w0 : Hid (∀ b, F_w0 b → b < w9_.heap.size) := Lib.hid (fun b h => Nat.lt_of_lt_of_le (E_w0.out b h) hb.size)
  replace O_g0 := Lib.hid ((sliceT 5 u8T).onext O_g0.out hb)
  replace E_g0 : Hid (∀ b, F_g0 b → b < w9_.heap.size) := Lib.hid (fun b h => Nat.lt_of_lt_of_le (E_g0.out b h) hb.size)
  replace K_p0 := Lib.hid ((hb.block _ (lt_of_block K_p0.out)).trans K_p0.out)
  replace HB := Lib.hid (HB.out.trans (hb.mono HB.out.size))
  clear hb
  have O_t3 := Lib.hid hO_t3
  have E_t3 : Hid (∀ b, (ival w8_.heap.size w9_.heap.size) b → b < w9_.heap.size) := Lib.hid (fun b h => (hF_t3 b h).2)
  clear hO_t3 hF_t3
  have k_p0_0 := blk_cell K_p0.out 0
  rw [cell2_0] at k_p0_0
  have k_p0_1 := blk_cell K_p0.out 1
  rw [cell2_1] at k_p0_1
  go_wp2_with fail
  clear k_p0_0 k_p0_1
  refine (impl_mki_t (tyIdentity.ord O_t3.out) (Nat.le_refl _) W1.out W2.out).mono ?_
  rintro e w10_ ⟨v_h0, F_h0, he, hO_h0, hF_h0, hb⟩
  replace hO_h0 : (sliceT 5 u8T).own F_h0 w10_ [v_h0] (icell s0.1 s0.2 a1 a2) := hO_h0
  rw [← HY0.out] at hO_h0
  rw [← HY1.out] at he
  subst he
  have D_h0 : Hid (∀ b, F_h0 b → w.heap.size ≤ b) := Lib.hid (fun b h => Nat.le_trans HB.out.size (hF_h0 b h).1)
  replace A0 := Lib.hid (tyIdentity.behind A0.out (hb.mono HB.out.size))
  replace O_w0 := Lib.hid ((sliceT 5 u8T).onext O_w0.out hb)
  replace E_w0 : Hid (∀ b, F_w0 b → b < w10_.heap.size) := Lib.hid (fun b h => Nat.lt_of_lt_of_le (E_w0.out b h) hb.size)
  replace O_g0 := Lib.hid ((sliceT 5 u8T).onext O_g0.out hb)
  replace E_g0 : Hid (∀ b, F_g0 b → b < w10_.heap.size) := Lib.hid (fun b h => Nat.lt_of_lt_of_le (E_g0.out b h) hb.size)
  replace O_t3 := Lib.hid (tyIdentity.onext O_t3.out hb)
  replace E_t3 : Hid (∀ b, (ival w8_.heap.size w9_.heap.size) b → b < w10_.heap.size) := Lib.hid (fun b h => Nat.lt_of_lt_of_le (E_t3.out b h) hb.size)
  replace K_p0 := Lib.hid ((hb.block _ (lt_of_block K_p0.out)).trans K_p0.out)
  replace HB := Lib.hid (HB.out.trans (hb.mono HB.out.size))
  clear hb
  have O_h0 := Lib.hid hO_h0
  have E_h0 : Hid (∀ b, F_h0 b → b < w10_.heap.size) := Lib.hid (fun b h => (hF_h0 b h).2)
  clear hO_h0 hF_h0
  clear O_t3 E_t3 D_t3
  clear A0
  clear K_p0
  clear N_p0_g0
  -- ('eq', '[]byte', ('own', 'h0'), ('own', 'w0'))
  go_wp2_with fail
  refine (eqByteS_same_t ((sliceT 5 u8T).ord O_h0.out) ((sliceT 5 u8T).ord O_w0.out) (Nat.le_refl _) (Nat.le_refl _)).mono ?_
  rintro e w11_ ⟨he, hb⟩
  subst he
  replace O_w0 := Lib.hid ((sliceT 5 u8T).onext O_w0.out hb)
  replace E_w0 : Hid (∀ b, F_w0 b → b < w11_.heap.size) := Lib.hid (fun b h => Nat.lt_of_lt_of_le (E_w0.out b h) hb.size)
  replace O_g0 := Lib.hid ((sliceT 5 u8T).onext O_g0.out hb)
  replace E_g0 : Hid (∀ b, F_g0 b → b < w11_.heap.size) := Lib.hid (fun b h => Nat.lt_of_lt_of_le (E_g0.out b h) hb.size)
  replace O_h0 := Lib.hid ((sliceT 5 u8T).onext O_h0.out hb)
  replace E_h0 : Hid (∀ b, F_h0 b → b < w11_.heap.size) := Lib.hid (fun b h => Nat.lt_of_lt_of_le (E_h0.out b h) hb.size)
  replace HB := Lib.hid (HB.out.trans (hb.mono HB.out.size))
  clear hb
  clear O_w0 E_w0 D_w0
  clear X_w0_g0
  clear O_h0 E_h0 D_h0
  -- ('set', 'q', '1')
  -- ('held', 'q', '[]byte', 'g0', 'q')
  go_wp2_with fail
  refine (heldByteS_t (x := Y0) (k0 := 1) ((sliceT 5 u8T).ord O_g0.out) (Nat.le_refl _) (by omega) (by omega)).mono ?_
  rintro e w12_ ⟨he, hb⟩
  rw [← G4.out] at he
  subst he
  replace O_g0 := Lib.hid ((sliceT 5 u8T).onext O_g0.out hb)
  replace E_g0 : Hid (∀ b, F_g0 b → b < w12_.heap.size) := Lib.hid (fun b h => Nat.lt_of_lt_of_le (E_g0.out b h) hb.size)
  replace HB := Lib.hid (HB.out.trans (hb.mono HB.out.size))
  clear hb
  have dd10 : decide (K4 < 0) = false := by simp; omega
  clear O_g0 E_g0 D_g0
  go_wp2_with fail
  go_ret
  exact ⟨rfl, HB.out⟩
  
end Go.Proofs.Ytlhpjfhglkngfaa
