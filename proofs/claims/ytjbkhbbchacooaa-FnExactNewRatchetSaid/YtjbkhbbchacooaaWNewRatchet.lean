/- FnExactNewRatchet: the walk. No conditions. -/
import Derived.Test.YtjbkhbbchacooaaRtW
import Derived.Test.YtjbkhbbchacooaaCells
import Derived.Deep.RegionHeld3
import Derived.Deep.DeepCutAuto
namespace Go.Proofs.Ytjbkhbbchacooaa
open Go Go.RowKit
set_option linter.unusedVariables false
attribute [local irreducible] kh

set_option maxHeartbeats 4000000 in
set_option maxRecDepth 100000 in
theorem fnExactNewRatchet_walk (a0 : Int) (w : World) (w0 : (Lit.int .i64 a0).wf = true) :
    Calls Try.prog 3 #[.int .i64 a0] w fun e w' => e = .returned (.bool true) ∧ Below w.heap.size w w' := by
  have W0 := Lib.hid w0
  have w0b := wf_i64 w0
  clear w0
  go_enter Try.func3, Try.ntmps3
  have HB := Lib.hid (Below.refl w.heap.size w)
  -- ('call', 'spec', 'NewRatchet', [('arg', 0)], ['w0'])
  go_wp2_with fail
  refine (spec_nr_t W0.out).mono ?_
  obtain ⟨Y0, hY0⟩ : ∃ y : VRatchet, y = (nrC a0, 0, []) := ⟨_, rfl⟩
  rintro e w1_ ⟨c_w0, F_w0, he, hO_w0, hF_w0, hb⟩
  replace hO_w0 : tyRatchet.own F_w0 w1_ c_w0 ((nrC a0, 0, [])) := hO_w0
  rw [← hY0] at hO_w0
  have HY0 := Lib.hid hY0
  clear hY0
  subst he
  obtain ⟨aw0_2, nw0_2, _, rfl, _⟩ := own_Ratchet hO_w0
  have D_w0 : Hid (∀ b, F_w0 b → w.heap.size ≤ b) := Lib.hid (fun b h => Nat.le_trans HB.out.size (hF_w0 b h).1)
  replace HB := Lib.hid (HB.out.trans (hb.mono HB.out.size))
  clear hb
  have O_w0 := Lib.hid hO_w0
  have E_w0 : Hid (∀ b, F_w0 b → b < w1_.heap.size) := Lib.hid (fun b h => (hF_w0 b h).2)
  clear hO_w0 hF_w0
  have hb : Below w1_.heap.size w1_ (w1_.alloc (.cells #[.int .i64 Y0.1, .int .i64 Y0.2.1, .slice aw0_2 Y0.2.2.length nw0_2] 24)) := (Below.refl _ _).alloc (Nat.le_refl _) _
  replace O_w0 := Lib.hid (tyRatchet.onext O_w0.out hb)
  replace E_w0 : Hid (∀ b, F_w0 b → b < (w1_.alloc (.cells #[.int .i64 Y0.1, .int .i64 Y0.2.1, .slice aw0_2 Y0.2.2.length nw0_2] 24)).heap.size) := Lib.hid (fun b h => Nat.lt_of_lt_of_le (E_w0.out b h) hb.size)
  replace HB := Lib.hid (HB.out.trans (hb.mono HB.out.size))
  clear hb
  have K_w0 := Lib.hid (heap_alloc_new w1_ (.cells #[.int .i64 Y0.1, .int .i64 Y0.2.1, .slice aw0_2 Y0.2.2.length nw0_2] 24))
  have k_w0_0 := blk_cell K_w0.out 0
  rw [cell3_0] at k_w0_0
  have k_w0_1 := blk_cell K_w0.out 1
  rw [cell3_1] at k_w0_1
  have k_w0_2 := blk_cell K_w0.out 2
  rw [cell3_2] at k_w0_2
  go_wp2_with fail
  clear k_w0_0 k_w0_1 k_w0_2
  obtain ⟨w2_, hw⟩ : ∃ x, x = (w1_.alloc (.cells #[.int .i64 Y0.1, .int .i64 Y0.2.1, .slice aw0_2 Y0.2.2.length nw0_2] 24)) := ⟨_, rfl⟩
  rw [← hw] at HB  O_w0 E_w0 K_w0 ⊢
  clear hw
  -- ('call', 'impl', 'NewRatchet', [('arg', 0)], ['g0'])
  refine (impl_nr_t W0.out).mono ?_
  rintro e w3_ ⟨c_g0, F_g0, he, hO_g0, hF_g0, hb⟩
  replace hO_g0 : tyRatchet.own F_g0 w3_ c_g0 ((nrC a0, 0, [])) := hO_g0
  rw [← HY0.out] at hO_g0
  subst he
  obtain ⟨ag0_2, ng0_2, _, rfl, _⟩ := own_Ratchet hO_g0
  have X_w0_g0 : Hid (∀ b, F_w0 b → ¬ F_g0 b) := Lib.hid (fun b h1 h2 => by have := E_w0.out b h1; have := (hF_g0 b h2).1; omega)
  have N_w0_g0 : Hid (¬ F_g0 (w1_.heap.size)) := Lib.hid (fun h => by have := (hF_g0 _ h).1; have := lt_of_block K_w0.out; omega)
  have D_g0 : Hid (∀ b, F_g0 b → w.heap.size ≤ b) := Lib.hid (fun b h => Nat.le_trans HB.out.size (hF_g0 b h).1)
  replace O_w0 := Lib.hid (tyRatchet.onext O_w0.out hb)
  replace E_w0 : Hid (∀ b, F_w0 b → b < w3_.heap.size) := Lib.hid (fun b h => Nat.lt_of_lt_of_le (E_w0.out b h) hb.size)
  replace K_w0 := Lib.hid ((hb.block _ (lt_of_block K_w0.out)).trans K_w0.out)
  replace HB := Lib.hid (HB.out.trans (hb.mono HB.out.size))
  clear hb
  have O_g0 := Lib.hid hO_g0
  have E_g0 : Hid (∀ b, F_g0 b → b < w3_.heap.size) := Lib.hid (fun b h => (hF_g0 b h).2)
  clear hO_g0 hF_g0
  have N_g0_g0 : Hid (¬ F_g0 (w3_.heap.size)) := Lib.hid (fun h => by have := E_g0.out _ h; omega)
  have hb : Below w3_.heap.size w3_ (w3_.alloc (.cells #[.int .i64 Y0.1, .int .i64 Y0.2.1, .slice ag0_2 Y0.2.2.length ng0_2] 24)) := (Below.refl _ _).alloc (Nat.le_refl _) _
  replace O_w0 := Lib.hid (tyRatchet.onext O_w0.out hb)
  replace E_w0 : Hid (∀ b, F_w0 b → b < (w3_.alloc (.cells #[.int .i64 Y0.1, .int .i64 Y0.2.1, .slice ag0_2 Y0.2.2.length ng0_2] 24)).heap.size) := Lib.hid (fun b h => Nat.lt_of_lt_of_le (E_w0.out b h) hb.size)
  replace O_g0 := Lib.hid (tyRatchet.onext O_g0.out hb)
  replace E_g0 : Hid (∀ b, F_g0 b → b < (w3_.alloc (.cells #[.int .i64 Y0.1, .int .i64 Y0.2.1, .slice ag0_2 Y0.2.2.length ng0_2] 24)).heap.size) := Lib.hid (fun b h => Nat.lt_of_lt_of_le (E_g0.out b h) hb.size)
  replace K_w0 := Lib.hid ((hb.block _ (lt_of_block K_w0.out)).trans K_w0.out)
  replace HB := Lib.hid (HB.out.trans (hb.mono HB.out.size))
  clear hb
  have K_g0 := Lib.hid (heap_alloc_new w3_ (.cells #[.int .i64 Y0.1, .int .i64 Y0.2.1, .slice ag0_2 Y0.2.2.length ng0_2] 24))
  have k_w0_0 := blk_cell K_w0.out 0
  rw [cell3_0] at k_w0_0
  have k_w0_1 := blk_cell K_w0.out 1
  rw [cell3_1] at k_w0_1
  have k_w0_2 := blk_cell K_w0.out 2
  rw [cell3_2] at k_w0_2
  have k_g0_0 := blk_cell K_g0.out 0
  rw [cell3_0] at k_g0_0
  have k_g0_1 := blk_cell K_g0.out 1
  rw [cell3_1] at k_g0_1
  have k_g0_2 := blk_cell K_g0.out 2
  rw [cell3_2] at k_g0_2
  go_wp2_with fail
  clear k_w0_0 k_w0_1 k_w0_2 k_g0_0 k_g0_1 k_g0_2
  obtain ⟨w4_, hw⟩ : ∃ x, x = (w3_.alloc (.cells #[.int .i64 Y0.1, .int .i64 Y0.2.1, .slice ag0_2 Y0.2.2.length ng0_2] 24)) := ⟨_, rfl⟩
  rw [← hw] at HB  O_w0 E_w0 O_g0 E_g0 K_w0 K_g0 ⊢
  clear hw
  -- ('eq', 'Ratchet', ('own', 'g0'), ('own', 'w0'))
  refine (eqRatchet_same (tyRatchet.ord O_g0.out) (tyRatchet.ord O_w0.out) (Nat.le_refl _) (Nat.le_refl _)).mono ?_
  rintro e w5_ ⟨he, hb⟩
  subst he
  replace O_w0 := Lib.hid (tyRatchet.onext O_w0.out hb)
  replace E_w0 : Hid (∀ b, F_w0 b → b < w5_.heap.size) := Lib.hid (fun b h => Nat.lt_of_lt_of_le (E_w0.out b h) hb.size)
  replace O_g0 := Lib.hid (tyRatchet.onext O_g0.out hb)
  replace E_g0 : Hid (∀ b, F_g0 b → b < w5_.heap.size) := Lib.hid (fun b h => Nat.lt_of_lt_of_le (E_g0.out b h) hb.size)
  replace K_w0 := Lib.hid ((hb.block _ (lt_of_block K_w0.out)).trans K_w0.out)
  replace K_g0 := Lib.hid ((hb.block _ (lt_of_block K_g0.out)).trans K_g0.out)
  replace HB := Lib.hid (HB.out.trans (hb.mono HB.out.size))
  clear hb
  -- ('set', 'm', '1')
  -- ('mark', 'm', 'Ratchet', 'g0', 'm')
  have hF4 : tyRatchet.vcnt Y0 ≤ 1099511627776 := by rw [HY0.out]; exact vb_r0 _ _
  obtain ⟨K4, hK4⟩ : ∃ K : Int, K = 1 + ((tyRatchet.vcnt Y0 : Nat) : Int) := ⟨_, rfl⟩
  have hB4 : 0 ≤ K4 ∧ K4 ≤ 1099511627786 := by omega
  have G4 := Lib.hid hK4
  clear hK4
  have k_w0_0 := blk_cell K_w0.out 0
  rw [cell3_0] at k_w0_0
  have k_w0_1 := blk_cell K_w0.out 1
  rw [cell3_1] at k_w0_1
  have k_w0_2 := blk_cell K_w0.out 2
  rw [cell3_2] at k_w0_2
  have k_g0_0 := blk_cell K_g0.out 0
  rw [cell3_0] at k_g0_0
  have k_g0_1 := blk_cell K_g0.out 1
  rw [cell3_1] at k_g0_1
  have k_g0_2 := blk_cell K_g0.out 2
  rw [cell3_2] at k_g0_2
  go_wp2_with fail
  clear k_w0_0 k_w0_1 k_w0_2 k_g0_0 k_g0_1 k_g0_2
  refine (markRatchet_any (k0 := 1) O_g0.out E_g0.out (by omega) (by omega)).mono ?_
  rintro e w6_ ⟨he, hO, hk⟩
  rw [← G4.out] at he
  subst he
  have hb := hk.below (B := w.heap.size) D_g0.out HB.out.size
  replace O_w0 := Lib.hid (tyRatchet.okept O_w0.out hk X_w0_g0.out)
  replace E_w0 : Hid (∀ b, F_w0 b → b < w6_.heap.size) := Lib.hid (fun b h => Nat.lt_of_lt_of_le (E_w0.out b h) hk.size)
  replace E_g0 : Hid (∀ b, F_g0 b → b < w6_.heap.size) := Lib.hid (fun b h => Nat.lt_of_lt_of_le (E_g0.out b h) hk.size)
  replace K_w0 := Lib.hid ((hk.block _ (lt_of_block K_w0.out) N_w0_g0.out).trans K_w0.out)
  replace K_g0 := Lib.hid ((hk.block _ (lt_of_block K_g0.out) N_g0_g0.out).trans K_g0.out)
  replace HB := Lib.hid (HB.out.trans hb)
  replace O_g0 := Lib.hid hO
  clear hO hk hb
  -- ('set', 'q', '1')
  -- ('held', 'q', 'Ratchet', 'g0', 'q')
  have k_w0_0 := blk_cell K_w0.out 0
  rw [cell3_0] at k_w0_0
  have k_w0_1 := blk_cell K_w0.out 1
  rw [cell3_1] at k_w0_1
  have k_w0_2 := blk_cell K_w0.out 2
  rw [cell3_2] at k_w0_2
  have k_g0_0 := blk_cell K_g0.out 0
  rw [cell3_0] at k_g0_0
  have k_g0_1 := blk_cell K_g0.out 1
  rw [cell3_1] at k_g0_1
  have k_g0_2 := blk_cell K_g0.out 2
  rw [cell3_2] at k_g0_2
  go_wp2_with fail
  clear k_w0_0 k_w0_1 k_w0_2 k_g0_0 k_g0_1 k_g0_2
  refine (heldRatchet_any (x := Y0) (k0 := 1) (tyRatchet.ord O_g0.out) (Nat.le_refl _) (by omega) (by omega)).mono ?_
  rintro e w7_ ⟨he, hb⟩
  rw [← G4.out] at he
  subst he
  replace O_w0 := Lib.hid (tyRatchet.onext O_w0.out hb)
  replace E_w0 : Hid (∀ b, F_w0 b → b < w7_.heap.size) := Lib.hid (fun b h => Nat.lt_of_lt_of_le (E_w0.out b h) hb.size)
  replace O_g0 := Lib.hid (tyRatchet.onext O_g0.out hb)
  replace E_g0 : Hid (∀ b, F_g0 b → b < w7_.heap.size) := Lib.hid (fun b h => Nat.lt_of_lt_of_le (E_g0.out b h) hb.size)
  replace K_w0 := Lib.hid ((hb.block _ (lt_of_block K_w0.out)).trans K_w0.out)
  replace K_g0 := Lib.hid ((hb.block _ (lt_of_block K_g0.out)).trans K_g0.out)
  replace HB := Lib.hid (HB.out.trans (hb.mono HB.out.size))
  clear hb
  have dd6 : decide (K4 < 0) = false := by simp; omega
  -- ('call', 'impl', 'NewRatchet', [('arg', 0)], ['h0'])
  have k_w0_0 := blk_cell K_w0.out 0
  rw [cell3_0] at k_w0_0
  have k_w0_1 := blk_cell K_w0.out 1
  rw [cell3_1] at k_w0_1
  have k_w0_2 := blk_cell K_w0.out 2
  rw [cell3_2] at k_w0_2
  have k_g0_0 := blk_cell K_g0.out 0
  rw [cell3_0] at k_g0_0
  have k_g0_1 := blk_cell K_g0.out 1
  rw [cell3_1] at k_g0_1
  have k_g0_2 := blk_cell K_g0.out 2
  rw [cell3_2] at k_g0_2
  go_wp2_with fail
  clear k_w0_0 k_w0_1 k_w0_2 k_g0_0 k_g0_1 k_g0_2
  refine (impl_nr_t W0.out).mono ?_
  rintro e w8_ ⟨c_h0, F_h0, he, hO_h0, hF_h0, hb⟩
  replace hO_h0 : tyRatchet.own F_h0 w8_ c_h0 ((nrC a0, 0, [])) := hO_h0
  rw [← HY0.out] at hO_h0
  subst he
  obtain ⟨ah0_2, nh0_2, _, rfl, _⟩ := own_Ratchet hO_h0
  have D_h0 : Hid (∀ b, F_h0 b → w.heap.size ≤ b) := Lib.hid (fun b h => Nat.le_trans HB.out.size (hF_h0 b h).1)
  replace O_w0 := Lib.hid (tyRatchet.onext O_w0.out hb)
  replace E_w0 : Hid (∀ b, F_w0 b → b < w8_.heap.size) := Lib.hid (fun b h => Nat.lt_of_lt_of_le (E_w0.out b h) hb.size)
  replace O_g0 := Lib.hid (tyRatchet.onext O_g0.out hb)
  replace E_g0 : Hid (∀ b, F_g0 b → b < w8_.heap.size) := Lib.hid (fun b h => Nat.lt_of_lt_of_le (E_g0.out b h) hb.size)
  replace K_w0 := Lib.hid ((hb.block _ (lt_of_block K_w0.out)).trans K_w0.out)
  replace K_g0 := Lib.hid ((hb.block _ (lt_of_block K_g0.out)).trans K_g0.out)
  replace HB := Lib.hid (HB.out.trans (hb.mono HB.out.size))
  clear hb
  have O_h0 := Lib.hid hO_h0
  have E_h0 : Hid (∀ b, F_h0 b → b < w8_.heap.size) := Lib.hid (fun b h => (hF_h0 b h).2)
  clear hO_h0 hF_h0
  have hb : Below w8_.heap.size w8_ (w8_.alloc (.cells #[.int .i64 Y0.1, .int .i64 Y0.2.1, .slice ah0_2 Y0.2.2.length nh0_2] 24)) := (Below.refl _ _).alloc (Nat.le_refl _) _
  replace O_w0 := Lib.hid (tyRatchet.onext O_w0.out hb)
  replace E_w0 : Hid (∀ b, F_w0 b → b < (w8_.alloc (.cells #[.int .i64 Y0.1, .int .i64 Y0.2.1, .slice ah0_2 Y0.2.2.length nh0_2] 24)).heap.size) := Lib.hid (fun b h => Nat.lt_of_lt_of_le (E_w0.out b h) hb.size)
  replace O_g0 := Lib.hid (tyRatchet.onext O_g0.out hb)
  replace E_g0 : Hid (∀ b, F_g0 b → b < (w8_.alloc (.cells #[.int .i64 Y0.1, .int .i64 Y0.2.1, .slice ah0_2 Y0.2.2.length nh0_2] 24)).heap.size) := Lib.hid (fun b h => Nat.lt_of_lt_of_le (E_g0.out b h) hb.size)
  replace O_h0 := Lib.hid (tyRatchet.onext O_h0.out hb)
  replace E_h0 : Hid (∀ b, F_h0 b → b < (w8_.alloc (.cells #[.int .i64 Y0.1, .int .i64 Y0.2.1, .slice ah0_2 Y0.2.2.length nh0_2] 24)).heap.size) := Lib.hid (fun b h => Nat.lt_of_lt_of_le (E_h0.out b h) hb.size)
  replace K_w0 := Lib.hid ((hb.block _ (lt_of_block K_w0.out)).trans K_w0.out)
  replace K_g0 := Lib.hid ((hb.block _ (lt_of_block K_g0.out)).trans K_g0.out)
  replace HB := Lib.hid (HB.out.trans (hb.mono HB.out.size))
  clear hb
  have K_h0 := Lib.hid (heap_alloc_new w8_ (.cells #[.int .i64 Y0.1, .int .i64 Y0.2.1, .slice ah0_2 Y0.2.2.length nh0_2] 24))
  have k_w0_0 := blk_cell K_w0.out 0
  rw [cell3_0] at k_w0_0
  have k_w0_1 := blk_cell K_w0.out 1
  rw [cell3_1] at k_w0_1
  have k_w0_2 := blk_cell K_w0.out 2
  rw [cell3_2] at k_w0_2
  have k_g0_0 := blk_cell K_g0.out 0
  rw [cell3_0] at k_g0_0
  have k_g0_1 := blk_cell K_g0.out 1
  rw [cell3_1] at k_g0_1
  have k_g0_2 := blk_cell K_g0.out 2
  rw [cell3_2] at k_g0_2
  have k_h0_0 := blk_cell K_h0.out 0
  rw [cell3_0] at k_h0_0
  have k_h0_1 := blk_cell K_h0.out 1
  rw [cell3_1] at k_h0_1
  have k_h0_2 := blk_cell K_h0.out 2
  rw [cell3_2] at k_h0_2
  go_wp2_with fail
  clear k_w0_0 k_w0_1 k_w0_2 k_g0_0 k_g0_1 k_g0_2 k_h0_0 k_h0_1 k_h0_2
  obtain ⟨w9_, hw⟩ : ∃ x, x = (w8_.alloc (.cells #[.int .i64 Y0.1, .int .i64 Y0.2.1, .slice ah0_2 Y0.2.2.length nh0_2] 24)) := ⟨_, rfl⟩
  rw [← hw] at HB  O_w0 E_w0 O_g0 E_g0 O_h0 E_h0 K_w0 K_g0 K_h0 ⊢
  clear hw
  -- ('eq', 'Ratchet', ('own', 'h0'), ('own', 'w0'))
  refine (eqRatchet_same (tyRatchet.ord O_h0.out) (tyRatchet.ord O_w0.out) (Nat.le_refl _) (Nat.le_refl _)).mono ?_
  rintro e w10_ ⟨he, hb⟩
  subst he
  replace O_w0 := Lib.hid (tyRatchet.onext O_w0.out hb)
  replace E_w0 : Hid (∀ b, F_w0 b → b < w10_.heap.size) := Lib.hid (fun b h => Nat.lt_of_lt_of_le (E_w0.out b h) hb.size)
  replace O_g0 := Lib.hid (tyRatchet.onext O_g0.out hb)
  replace E_g0 : Hid (∀ b, F_g0 b → b < w10_.heap.size) := Lib.hid (fun b h => Nat.lt_of_lt_of_le (E_g0.out b h) hb.size)
  replace O_h0 := Lib.hid (tyRatchet.onext O_h0.out hb)
  replace E_h0 : Hid (∀ b, F_h0 b → b < w10_.heap.size) := Lib.hid (fun b h => Nat.lt_of_lt_of_le (E_h0.out b h) hb.size)
  replace K_w0 := Lib.hid ((hb.block _ (lt_of_block K_w0.out)).trans K_w0.out)
  replace K_g0 := Lib.hid ((hb.block _ (lt_of_block K_g0.out)).trans K_g0.out)
  replace K_h0 := Lib.hid ((hb.block _ (lt_of_block K_h0.out)).trans K_h0.out)
  replace HB := Lib.hid (HB.out.trans (hb.mono HB.out.size))
  clear hb
  clear O_w0 E_w0 D_w0
  clear X_w0_g0
  clear K_w0
  clear N_w0_g0
  clear O_h0 E_h0 D_h0
  clear K_h0
  -- ('set', 'q', '1')
  -- ('held', 'q', 'Ratchet', 'g0', 'q')
  have k_g0_0 := blk_cell K_g0.out 0
  rw [cell3_0] at k_g0_0
  have k_g0_1 := blk_cell K_g0.out 1
  rw [cell3_1] at k_g0_1
  have k_g0_2 := blk_cell K_g0.out 2
  rw [cell3_2] at k_g0_2
  go_wp2_with fail
  clear k_g0_0 k_g0_1 k_g0_2
  refine (heldRatchet_any (x := Y0) (k0 := 1) (tyRatchet.ord O_g0.out) (Nat.le_refl _) (by omega) (by omega)).mono ?_
  rintro e w11_ ⟨he, hb⟩
  rw [← G4.out] at he
  subst he
  replace O_g0 := Lib.hid (tyRatchet.onext O_g0.out hb)
  replace E_g0 : Hid (∀ b, F_g0 b → b < w11_.heap.size) := Lib.hid (fun b h => Nat.lt_of_lt_of_le (E_g0.out b h) hb.size)
  replace K_g0 := Lib.hid ((hb.block _ (lt_of_block K_g0.out)).trans K_g0.out)
  replace HB := Lib.hid (HB.out.trans (hb.mono HB.out.size))
  clear hb
  have dd10 : decide (K4 < 0) = false := by simp; omega
  clear O_g0 E_g0 D_g0
  clear N_g0_g0
  clear K_g0
  go_wp2_with fail
  go_ret
  exact ⟨rfl, HB.out⟩
  
end Go.Proofs.Ytjbkhbbchacooaa
