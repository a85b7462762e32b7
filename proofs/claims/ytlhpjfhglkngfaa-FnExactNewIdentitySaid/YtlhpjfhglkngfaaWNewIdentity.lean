/- FnExactNewIdentity: the walk. No conditions. -/
import Derived.Test.YtlhpjfhglkngfaaDlW
import Derived.Test.YtlhpjfhglkngfaaCells
import Derived.Deep.RegionHeld3
import Derived.Deep.DeepCutAuto
namespace Go.Proofs.Ytlhpjfhglkngfaa
open Go Go.RowKit
set_option linter.unusedVariables false
attribute [local irreducible] kh

set_option maxHeartbeats 4000000 in
set_option maxRecDepth 100000 in
theorem fnExactNewIdentity_walk (a0 : Int) (w : World) (w0 : (Lit.int .i64 a0).wf = true) :
    Calls Try.prog 3 #[.int .i64 a0] w fun e w' => e = .returned (.bool true) ∧ Below w.heap.size w w' := by
  have W0 := Lib.hid w0
  have w0b := wf_i64 w0
  clear w0
  go_enter Try.func3, Try.ntmps3
  have HB := Lib.hid (Below.refl w.heap.size w)
  -- ('call', 'spec', 'NewIdentity', [('arg', 0)], ['w0'])
  go_wp2_with fail
  refine (spec_nid_t W0.out).mono ?_
  obtain ⟨Y0, hY0⟩ : ∃ y : VIdentity, y = (idS a0, idP a0) := ⟨_, rfl⟩
  rintro e w1_ ⟨c_w0, F_w0, he, hO_w0, hF_w0, hb⟩
  replace hO_w0 : tyIdentity.own F_w0 w1_ c_w0 ((idS a0, idP a0)) := hO_w0
  rw [← hY0] at hO_w0
  have HY0 := Lib.hid hY0
  clear hY0
  subst he
  obtain ⟨rfl, _⟩ := own_Identity hO_w0
  have D_w0 : Hid (∀ b, F_w0 b → w.heap.size ≤ b) := Lib.hid (fun b h => Nat.le_trans HB.out.size (hF_w0 b h).1)
  replace HB := Lib.hid (HB.out.trans (hb.mono HB.out.size))
  clear hb
  have O_w0 := Lib.hid hO_w0
  have E_w0 : Hid (∀ b, F_w0 b → b < w1_.heap.size) := Lib.hid (fun b h => (hF_w0 b h).2)
  clear hO_w0 hF_w0
  have hb : Below w1_.heap.size w1_ (w1_.alloc (.cells #[.int .i64 Y0.1, .int .i64 Y0.2] 23)) := (Below.refl _ _).alloc (Nat.le_refl _) _
  replace O_w0 := Lib.hid (tyIdentity.onext O_w0.out hb)
  replace E_w0 : Hid (∀ b, F_w0 b → b < (w1_.alloc (.cells #[.int .i64 Y0.1, .int .i64 Y0.2] 23)).heap.size) := Lib.hid (fun b h => Nat.lt_of_lt_of_le (E_w0.out b h) hb.size)
  replace HB := Lib.hid (HB.out.trans (hb.mono HB.out.size))
  clear hb
  have K_w0 := Lib.hid (heap_alloc_new w1_ (.cells #[.int .i64 Y0.1, .int .i64 Y0.2] 23))
  have k_w0_0 := blk_cell K_w0.out 0
  rw [cell2_0] at k_w0_0
  have k_w0_1 := blk_cell K_w0.out 1
  rw [cell2_1] at k_w0_1
  go_wp2_with fail
  clear k_w0_0 k_w0_1
  obtain ⟨w2_, hw⟩ : ∃ x, x = (w1_.alloc (.cells #[.int .i64 Y0.1, .int .i64 Y0.2] 23)) := ⟨_, rfl⟩
  rw [← hw] at HB  O_w0 E_w0 K_w0 ⊢
  clear hw
  -- ('call', 'impl', 'NewIdentity', [('arg', 0)], ['g0'])
  refine (impl_nid_t W0.out).mono ?_
  rintro e w3_ ⟨c_g0, F_g0, he, hO_g0, hF_g0, hb⟩
  replace hO_g0 : tyIdentity.own F_g0 w3_ c_g0 ((idS a0, idP a0)) := hO_g0
  rw [← HY0.out] at hO_g0
  subst he
  obtain ⟨rfl, _⟩ := own_Identity hO_g0
  have D_g0 : Hid (∀ b, F_g0 b → w.heap.size ≤ b) := Lib.hid (fun b h => Nat.le_trans HB.out.size (hF_g0 b h).1)
  replace O_w0 := Lib.hid (tyIdentity.onext O_w0.out hb)
  replace E_w0 : Hid (∀ b, F_w0 b → b < w3_.heap.size) := Lib.hid (fun b h => Nat.lt_of_lt_of_le (E_w0.out b h) hb.size)
  replace K_w0 := Lib.hid ((hb.block _ (lt_of_block K_w0.out)).trans K_w0.out)
  replace HB := Lib.hid (HB.out.trans (hb.mono HB.out.size))
  clear hb
  have O_g0 := Lib.hid hO_g0
  have E_g0 : Hid (∀ b, F_g0 b → b < w3_.heap.size) := Lib.hid (fun b h => (hF_g0 b h).2)
  clear hO_g0 hF_g0
  have hb : Below w3_.heap.size w3_ (w3_.alloc (.cells #[.int .i64 Y0.1, .int .i64 Y0.2] 23)) := (Below.refl _ _).alloc (Nat.le_refl _) _
  replace O_w0 := Lib.hid (tyIdentity.onext O_w0.out hb)
  replace E_w0 : Hid (∀ b, F_w0 b → b < (w3_.alloc (.cells #[.int .i64 Y0.1, .int .i64 Y0.2] 23)).heap.size) := Lib.hid (fun b h => Nat.lt_of_lt_of_le (E_w0.out b h) hb.size)
  replace O_g0 := Lib.hid (tyIdentity.onext O_g0.out hb)
  replace E_g0 : Hid (∀ b, F_g0 b → b < (w3_.alloc (.cells #[.int .i64 Y0.1, .int .i64 Y0.2] 23)).heap.size) := Lib.hid (fun b h => Nat.lt_of_lt_of_le (E_g0.out b h) hb.size)
  replace K_w0 := Lib.hid ((hb.block _ (lt_of_block K_w0.out)).trans K_w0.out)
  replace HB := Lib.hid (HB.out.trans (hb.mono HB.out.size))
  clear hb
  have K_g0 := Lib.hid (heap_alloc_new w3_ (.cells #[.int .i64 Y0.1, .int .i64 Y0.2] 23))
  have k_w0_0 := blk_cell K_w0.out 0
  rw [cell2_0] at k_w0_0
  have k_w0_1 := blk_cell K_w0.out 1
  rw [cell2_1] at k_w0_1
  have k_g0_0 := blk_cell K_g0.out 0
  rw [cell2_0] at k_g0_0
  have k_g0_1 := blk_cell K_g0.out 1
  rw [cell2_1] at k_g0_1
  go_wp2_with fail
  clear k_w0_0 k_w0_1 k_g0_0 k_g0_1
  obtain ⟨w4_, hw⟩ : ∃ x, x = (w3_.alloc (.cells #[.int .i64 Y0.1, .int .i64 Y0.2] 23)) := ⟨_, rfl⟩
  rw [← hw] at HB  O_w0 E_w0 O_g0 E_g0 K_w0 K_g0 ⊢
  clear hw
  -- ('eq', 'Identity', ('own', 'g0'), ('own', 'w0'))
  refine (eqIdentity_same (tyIdentity.ord O_g0.out) (tyIdentity.ord O_w0.out) (Nat.le_refl _) (Nat.le_refl _)).mono ?_
  rintro e w5_ ⟨he, hb⟩
  subst he
  replace O_w0 := Lib.hid (tyIdentity.onext O_w0.out hb)
  replace E_w0 : Hid (∀ b, F_w0 b → b < w5_.heap.size) := Lib.hid (fun b h => Nat.lt_of_lt_of_le (E_w0.out b h) hb.size)
  replace O_g0 := Lib.hid (tyIdentity.onext O_g0.out hb)
  replace E_g0 : Hid (∀ b, F_g0 b → b < w5_.heap.size) := Lib.hid (fun b h => Nat.lt_of_lt_of_le (E_g0.out b h) hb.size)
  replace K_w0 := Lib.hid ((hb.block _ (lt_of_block K_w0.out)).trans K_w0.out)
  replace K_g0 := Lib.hid ((hb.block _ (lt_of_block K_g0.out)).trans K_g0.out)
  replace HB := Lib.hid (HB.out.trans (hb.mono HB.out.size))
  clear hb
  clear O_w0 E_w0 D_w0
  clear K_w0
  clear O_g0 E_g0 D_g0
  clear K_g0
  go_wp2_with fail
  go_ret
  exact ⟨rfl, HB.out⟩
  
end Go.Proofs.Ytlhpjfhglkngfaa
