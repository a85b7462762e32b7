/- FnExactIsValidRatchet: the walk. No conditions. -/
import Derived.Test.YtjbkhbbchacooaaRtW
import Derived.Test.YtjbkhbbchacooaaCells
import Derived.Deep.RegionHeld3
import Derived.Deep.DeepCutAuto
namespace Go.Proofs.Ytjbkhbbchacooaa
open Go Go.RowKit
set_option linter.unusedVariables false
attribute [local irreducible] kh

set_option maxHeartbeats 4000000 in
set_option maxRecDepth 100000 in
theorem fnExactIsValidRatchet_walk (c0 : List Value) (s0 : VRatchet) (w : World) (w0 : tyRatchet.rd w.heap.size w c0 s0) :
    Calls Try.prog 4 #[.agg c0.toArray] w fun e w' => e = .returned (.bool true) ∧ Below w.heap.size w w' := by
  obtain ⟨a0_2, n0_2, rfl, _⟩ := rd_Ratchet w0
  have A0 := Lib.hid w0
  clear w0
  by_cases bz0 : (tyRatchet.tot s0 : Int) ≤ (1048576 : Int)
  case neg =>
    have C0 := Lib.hid bz0
    clear bz0
    go_enter Try.func4, Try.ntmps4
    have hb := ((Below.refl w.heap.size w).alloc (Nat.le_refl _) (.cells #[.int .i64 s0.1, .int .i64 s0.2.1, .slice a0_2 s0.2.2.length n0_2] 31))
    have K_p0 := Lib.hid (heap_alloc_new w (.cells #[.int .i64 s0.1, .int .i64 s0.2.1, .slice a0_2 s0.2.2.length n0_2] 31))
    replace A0 := Lib.hid (tyRatchet.behind A0.out hb)
    have HB := Lib.hid hb
    clear hb
    have k_p0_0 := blk_cell K_p0.out 0
    rw [cell3_0] at k_p0_0
    have k_p0_1 := blk_cell K_p0.out 1
    rw [cell3_1] at k_p0_1
    have k_p0_2 := blk_cell K_p0.out 2
    rw [cell3_2] at k_p0_2
    go_wp2_with fail
    clear k_p0_0 k_p0_1 k_p0_2
    obtain ⟨w1_, hw⟩ : ∃ x, x = (w.alloc (.cells #[.int .i64 s0.1, .int .i64 s0.2.1, .slice a0_2 s0.2.2.length n0_2] 31)) := ⟨_, rfl⟩
    rw [← hw] at HB A0 K_p0 ⊢
    clear hw
    refine (szRatchet_any A0.out (by omega) (by omega) HB.out.size).mono ?_
    rintro e w2_ ⟨he, hb⟩
    rw [if_neg (by have := C0.out; omega)] at he
    subst he
    replace A0 := Lib.hid (tyRatchet.behind A0.out (hb.mono HB.out.size))
    replace K_p0 := Lib.hid ((hb.block _ (lt_of_block K_p0.out)).trans K_p0.out)
    replace HB := Lib.hid (HB.out.trans (hb.mono HB.out.size))
    clear hb
    have k_p0_0 := blk_cell K_p0.out 0
    rw [cell3_0] at k_p0_0
    have k_p0_1 := blk_cell K_p0.out 1
    rw [cell3_1] at k_p0_1
    have k_p0_2 := blk_cell K_p0.out 2
    rw [cell3_2] at k_p0_2
    go_wp2_with fail
    clear k_p0_0 k_p0_1 k_p0_2
    go_ret
    exact ⟨rfl, HB.out⟩
  have C0 := Lib.hid bz0
  obtain ⟨q0, hq0⟩ : ∃ q : Int, q = (1048576 : Int) - (tyRatchet.tot s0 : Int) := ⟨_, rfl⟩
  have d0q : decide (q0 < 0) = false := by simp; omega
  have e0q : 0 ≤ q0 ∧ q0 ≤ 1048576 := by omega
  have B0t : Hid (tyRatchet.tot s0 ≤ 1048576) := Lib.hid (by omega)
  have H0q := Lib.hid hq0
  clear hq0 bz0
  go_enter Try.func4, Try.ntmps4
  have hb := ((Below.refl w.heap.size w).alloc (Nat.le_refl _) (.cells #[.int .i64 s0.1, .int .i64 s0.2.1, .slice a0_2 s0.2.2.length n0_2] 31))
  have K_p0 := Lib.hid (heap_alloc_new w (.cells #[.int .i64 s0.1, .int .i64 s0.2.1, .slice a0_2 s0.2.2.length n0_2] 31))
  replace A0 := Lib.hid (tyRatchet.behind A0.out hb)
  have HB := Lib.hid hb
  clear hb
  have k_p0_0 := blk_cell K_p0.out 0
  rw [cell3_0] at k_p0_0
  have k_p0_1 := blk_cell K_p0.out 1
  rw [cell3_1] at k_p0_1
  have k_p0_2 := blk_cell K_p0.out 2
  rw [cell3_2] at k_p0_2
  go_wp2_with fail
  clear k_p0_0 k_p0_1 k_p0_2
  obtain ⟨w1_, hw⟩ : ∃ x, x = (w.alloc (.cells #[.int .i64 s0.1, .int .i64 s0.2.1, .slice a0_2 s0.2.2.length n0_2] 31)) := ⟨_, rfl⟩
  rw [← hw] at HB A0 K_p0 ⊢
  clear hw
  refine (szRatchet_any A0.out (by omega) (by omega) HB.out.size).mono ?_
  rintro e w2_ ⟨he, hb⟩
  rw [if_pos (by have := C0.out; omega), ← H0q.out] at he
  subst he
  replace A0 := Lib.hid (tyRatchet.behind A0.out (hb.mono HB.out.size))
  replace K_p0 := Lib.hid ((hb.block _ (lt_of_block K_p0.out)).trans K_p0.out)
  replace HB := Lib.hid (HB.out.trans (hb.mono HB.out.size))
  clear hb
  -- ('sz', 0)
  -- ('call', 'spec', 'IsValidRatchet', [('copy', 0, 'Ratchet')], ['w0'])
  have k_p0_0 := blk_cell K_p0.out 0
  rw [cell3_0] at k_p0_0
  have k_p0_1 := blk_cell K_p0.out 1
  rw [cell3_1] at k_p0_1
  have k_p0_2 := blk_cell K_p0.out 2
  rw [cell3_2] at k_p0_2
  go_wp2_with fail
  clear k_p0_0 k_p0_1 k_p0_2
  refine (toRatchet_any A0.out HB.out.size (Nat.le_trans B0t.out (by decide))).mono ?_
  rintro e w3_ ⟨c_t1, he, hO_t1, hb⟩
  subst he
  have hF_t1 : ∀ b, (ival w2_.heap.size w3_.heap.size) b → w2_.heap.size ≤ b ∧ b < w3_.heap.size := fun b h => h
  obtain ⟨at1_2, nt1_2, _, rfl, _⟩ := own_Ratchet hO_t1
  have D_t1 : Hid (∀ b, (ival w2_.heap.size w3_.heap.size) b → w.heap.size ≤ b) := Lib.hid (fun b h => Nat.le_trans HB.out.size (hF_t1 b h).1)
  replace A0 := Lib.hid (tyRatchet.behind A0.out (hb.mono HB.out.size))
  replace K_p0 := Lib.hid ((hb.block _ (lt_of_block K_p0.out)).trans K_p0.out)
  replace HB := Lib.hid (HB.out.trans (hb.mono HB.out.size))
  clear hb
  have O_t1 := Lib.hid hO_t1
  have E_t1 : Hid (∀ b, (ival w2_.heap.size w3_.heap.size) b → b < w3_.heap.size) := Lib.hid (fun b h => (hF_t1 b h).2)
  clear hO_t1 hF_t1
  have k_p0_0 := blk_cell K_p0.out 0
  rw [cell3_0] at k_p0_0
  have k_p0_1 := blk_cell K_p0.out 1
  rw [cell3_1] at k_p0_1
  have k_p0_2 := blk_cell K_p0.out 2
  rw [cell3_2] at k_p0_2
  go_wp2_with fail
  clear k_p0_0 k_p0_1 k_p0_2
  refine (spec_vr_t (tyRatchet.ord O_t1.out) (Nat.le_refl _)).mono ?_
  obtain ⟨Y0, hY0⟩ : ∃ y : Bool, y = okR s0.1 s0.2.1 s0.2.2 := ⟨_, rfl⟩
  rintro e w4_ ⟨he, hb⟩
  rw [← hY0] at he
  have HY0 := Lib.hid hY0
  clear hY0
  subst he
  replace A0 := Lib.hid (tyRatchet.behind A0.out (hb.mono HB.out.size))
  replace O_t1 := Lib.hid (tyRatchet.onext O_t1.out hb)
  replace E_t1 : Hid (∀ b, (ival w2_.heap.size w3_.heap.size) b → b < w4_.heap.size) := Lib.hid (fun b h => Nat.lt_of_lt_of_le (E_t1.out b h) hb.size)
  replace K_p0 := Lib.hid ((hb.block _ (lt_of_block K_p0.out)).trans K_p0.out)
  replace HB := Lib.hid (HB.out.trans (hb.mono HB.out.size))
  clear hb
  clear O_t1 E_t1 D_t1
  -- ('copy', 'x0', 0, 'Ratchet')
  have k_p0_0 := blk_cell K_p0.out 0
  rw [cell3_0] at k_p0_0
  have k_p0_1 := blk_cell K_p0.out 1
  rw [cell3_1] at k_p0_1
  have k_p0_2 := blk_cell K_p0.out 2
  rw [cell3_2] at k_p0_2
  go_wp2_with fail
  clear k_p0_0 k_p0_1 k_p0_2
  refine (toRatchet_any A0.out HB.out.size (Nat.le_trans B0t.out (by decide))).mono ?_
  rintro e w5_ ⟨c_x0, he, hO_x0, hb⟩
  subst he
  have hF_x0 : ∀ b, (ival w4_.heap.size w5_.heap.size) b → w4_.heap.size ≤ b ∧ b < w5_.heap.size := fun b h => h
  obtain ⟨ax0_2, nx0_2, _, rfl, _⟩ := own_Ratchet hO_x0
  have D_x0 : Hid (∀ b, (ival w4_.heap.size w5_.heap.size) b → w.heap.size ≤ b) := Lib.hid (fun b h => Nat.le_trans HB.out.size (hF_x0 b h).1)
  replace A0 := Lib.hid (tyRatchet.behind A0.out (hb.mono HB.out.size))
  replace K_p0 := Lib.hid ((hb.block _ (lt_of_block K_p0.out)).trans K_p0.out)
  replace HB := Lib.hid (HB.out.trans (hb.mono HB.out.size))
  clear hb
  have O_x0 := Lib.hid hO_x0
  have E_x0 : Hid (∀ b, (ival w4_.heap.size w5_.heap.size) b → b < w5_.heap.size) := Lib.hid (fun b h => (hF_x0 b h).2)
  clear hO_x0 hF_x0
  have hb : Below w5_.heap.size w5_ (w5_.alloc (.cells #[.int .i64 s0.1, .int .i64 s0.2.1, .slice ax0_2 s0.2.2.length nx0_2] 24)) := (Below.refl _ _).alloc (Nat.le_refl _) _
  replace A0 := Lib.hid (tyRatchet.behind A0.out (hb.mono HB.out.size))
  replace O_x0 := Lib.hid (tyRatchet.onext O_x0.out hb)
  replace E_x0 : Hid (∀ b, (ival w4_.heap.size w5_.heap.size) b → b < (w5_.alloc (.cells #[.int .i64 s0.1, .int .i64 s0.2.1, .slice ax0_2 s0.2.2.length nx0_2] 24)).heap.size) := Lib.hid (fun b h => Nat.lt_of_lt_of_le (E_x0.out b h) hb.size)
  replace K_p0 := Lib.hid ((hb.block _ (lt_of_block K_p0.out)).trans K_p0.out)
  replace HB := Lib.hid (HB.out.trans (hb.mono HB.out.size))
  clear hb
  have K_x0 := Lib.hid (heap_alloc_new w5_ (.cells #[.int .i64 s0.1, .int .i64 s0.2.1, .slice ax0_2 s0.2.2.length nx0_2] 24))
  have k_p0_0 := blk_cell K_p0.out 0
  rw [cell3_0] at k_p0_0
  have k_p0_1 := blk_cell K_p0.out 1
  rw [cell3_1] at k_p0_1
  have k_p0_2 := blk_cell K_p0.out 2
  rw [cell3_2] at k_p0_2
  have k_x0_0 := blk_cell K_x0.out 0
  rw [cell3_0] at k_x0_0
  have k_x0_1 := blk_cell K_x0.out 1
  rw [cell3_1] at k_x0_1
  have k_x0_2 := blk_cell K_x0.out 2
  rw [cell3_2] at k_x0_2
  go_wp2_with fail
  clear k_p0_0 k_p0_1 k_p0_2 k_x0_0 k_x0_1 k_x0_2
  obtain ⟨w6_, hw⟩ : ∃ x, x = w5_.alloc (.cells #[.int .i64 s0.1, .int .i64 s0.2.1, .slice ax0_2 s0.2.2.length nx0_2] 24) := ⟨_, rfl⟩
  rw [← hw] at HB A0 O_x0 E_x0 K_p0 K_x0 ⊢
  clear hw
  -- ('call', 'impl', 'IsValidRatchet', [('own', 'x0')], ['g0'])
  refine (impl_vr_t (tyRatchet.ord O_x0.out) (Nat.le_refl _)).mono ?_
  rintro e w7_ ⟨he, hb⟩
  rw [← HY0.out] at he
  subst he
  replace A0 := Lib.hid (tyRatchet.behind A0.out (hb.mono HB.out.size))
  replace O_x0 := Lib.hid (tyRatchet.onext O_x0.out hb)
  replace E_x0 : Hid (∀ b, (ival w4_.heap.size w5_.heap.size) b → b < w7_.heap.size) := Lib.hid (fun b h => Nat.lt_of_lt_of_le (E_x0.out b h) hb.size)
  replace K_p0 := Lib.hid ((hb.block _ (lt_of_block K_p0.out)).trans K_p0.out)
  replace K_x0 := Lib.hid ((hb.block _ (lt_of_block K_x0.out)).trans K_x0.out)
  replace HB := Lib.hid (HB.out.trans (hb.mono HB.out.size))
  clear hb
  -- ('eq', 'Ratchet', ('own', 'x0'), ('copy', 0, 'Ratchet'))
  have k_p0_0 := blk_cell K_p0.out 0
  rw [cell3_0] at k_p0_0
  have k_p0_1 := blk_cell K_p0.out 1
  rw [cell3_1] at k_p0_1
  have k_p0_2 := blk_cell K_p0.out 2
  rw [cell3_2] at k_p0_2
  have k_x0_0 := blk_cell K_x0.out 0
  rw [cell3_0] at k_x0_0
  have k_x0_1 := blk_cell K_x0.out 1
  rw [cell3_1] at k_x0_1
  have k_x0_2 := blk_cell K_x0.out 2
  rw [cell3_2] at k_x0_2
  go_wp2_with fail
  clear k_p0_0 k_p0_1 k_p0_2 k_x0_0 k_x0_1 k_x0_2
  have hb : Below w7_.heap.size w7_ w7_.drew := (Below.refl _ _).drew
  replace A0 := Lib.hid (tyRatchet.behind A0.out (hb.mono HB.out.size))
  replace O_x0 := Lib.hid (tyRatchet.onext O_x0.out hb)
  replace E_x0 : Hid (∀ b, (ival w4_.heap.size w5_.heap.size) b → b < w7_.drew.heap.size) := Lib.hid (fun b h => Nat.lt_of_lt_of_le (E_x0.out b h) hb.size)
  replace K_p0 := Lib.hid ((hb.block _ (lt_of_block K_p0.out)).trans K_p0.out)
  replace K_x0 := Lib.hid ((hb.block _ (lt_of_block K_x0.out)).trans K_x0.out)
  replace HB := Lib.hid (HB.out.trans (hb.mono HB.out.size))
  clear hb
  have d0 : w7_.drew.cell? ⟨w5_.heap.size, 0, none⟩ = some (.int .i64 s0.1) ∧ w7_.drew.cell? ⟨w5_.heap.size, 1, none⟩ = some (.int .i64 s0.2.1) ∧ w7_.drew.cell? ⟨w5_.heap.size, 2, none⟩ = some (.slice ax0_2 s0.2.2.length nx0_2) ∧ w7_.drew.cell? ⟨w.heap.size, 0, none⟩ = some (.int .i64 s0.1) ∧ w7_.drew.cell? ⟨w.heap.size, 1, none⟩ = some (.int .i64 s0.2.1) ∧ w7_.drew.cell? ⟨w.heap.size, 2, none⟩ = some (.slice a0_2 s0.2.2.length n0_2) := ⟨(blk_cell K_x0.out 0).trans (cell3_0 _ _ _), (blk_cell K_x0.out 1).trans (cell3_1 _ _ _), (blk_cell K_x0.out 2).trans (cell3_2 _ _ _), (blk_cell K_p0.out 0).trans (cell3_0 _ _ _), (blk_cell K_p0.out 1).trans (cell3_1 _ _ _), (blk_cell K_p0.out 2).trans (cell3_2 _ _ _)⟩
  go_region_held3 (fun w' => w'.cell? ⟨w5_.heap.size, 0, none⟩ = some (.int .i64 s0.1) ∧ w'.cell? ⟨w5_.heap.size, 1, none⟩ = some (.int .i64 s0.2.1) ∧ w'.cell? ⟨w5_.heap.size, 2, none⟩ = some (.slice ax0_2 s0.2.2.length nx0_2) ∧ w'.cell? ⟨w.heap.size, 0, none⟩ = some (.int .i64 s0.1) ∧ w'.cell? ⟨w.heap.size, 1, none⟩ = some (.int .i64 s0.2.1) ∧ w'.cell? ⟨w.heap.size, 2, none⟩ = some (.slice a0_2 s0.2.2.length n0_2)) (first | assumption | go_keep) ((first
    | (go_at_call 18
       go_loud (refine (toRatchet_any A0.out HB.out.size (Nat.le_trans B0t.out (by decide))).mono ?_
                rintro e w8_ ⟨c_t2, he, hO_t2, hb⟩
                subst he
                have hF_t2 : ∀ b, (ival w7_.drew.heap.size w8_.heap.size) b → w7_.drew.heap.size ≤ b ∧ b < w8_.heap.size := fun b h => h
                obtain ⟨at2_2, nt2_2, _, rfl, _⟩ := own_Ratchet hO_t2
                have D_t2 : Hid (∀ b, (ival w7_.drew.heap.size w8_.heap.size) b → w.heap.size ≤ b) := Lib.hid (fun b h => Nat.le_trans HB.out.size (hF_t2 b h).1)
                replace A0 := Lib.hid (tyRatchet.behind A0.out (hb.mono HB.out.size))
                replace O_x0 := Lib.hid (tyRatchet.onext O_x0.out hb)
                replace E_x0 : Hid (∀ b, (ival w4_.heap.size w5_.heap.size) b → b < w8_.heap.size) := Lib.hid (fun b h => Nat.lt_of_lt_of_le (E_x0.out b h) hb.size)
                replace K_p0 := Lib.hid ((hb.block _ (lt_of_block K_p0.out)).trans K_p0.out)
                replace K_x0 := Lib.hid ((hb.block _ (lt_of_block K_x0.out)).trans K_x0.out)
                replace HB := Lib.hid (HB.out.trans (hb.mono HB.out.size))
                clear hb
                have O_t2 := Lib.hid hO_t2
                have E_t2 : Hid (∀ b, (ival w7_.drew.heap.size w8_.heap.size) b → b < w8_.heap.size) := Lib.hid (fun b h => (hF_t2 b h).2)
                clear hO_t2 hF_t2
                have d1 : w8_.cell? ⟨w5_.heap.size, 0, none⟩ = some (.int .i64 s0.1) ∧ w8_.cell? ⟨w5_.heap.size, 1, none⟩ = some (.int .i64 s0.2.1) ∧ w8_.cell? ⟨w5_.heap.size, 2, none⟩ = some (.slice ax0_2 s0.2.2.length nx0_2) ∧ w8_.cell? ⟨w.heap.size, 0, none⟩ = some (.int .i64 s0.1) ∧ w8_.cell? ⟨w.heap.size, 1, none⟩ = some (.int .i64 s0.2.1) ∧ w8_.cell? ⟨w.heap.size, 2, none⟩ = some (.slice a0_2 s0.2.2.length n0_2) := ⟨(blk_cell K_x0.out 0).trans (cell3_0 _ _ _), (blk_cell K_x0.out 1).trans (cell3_1 _ _ _), (blk_cell K_x0.out 2).trans (cell3_2 _ _ _), (blk_cell K_p0.out 0).trans (cell3_0 _ _ _), (blk_cell K_p0.out 1).trans (cell3_1 _ _ _), (blk_cell K_p0.out 2).trans (cell3_2 _ _ _)⟩))
    | (go_at_call 13
       go_loud (refine (eqRatchet_same (tyRatchet.ord O_x0.out) (tyRatchet.ord O_t2.out) (Nat.le_refl _) (Nat.le_refl _)).mono ?_
                rintro e w9_ ⟨he, hb⟩
                subst he
                replace A0 := Lib.hid (tyRatchet.behind A0.out (hb.mono HB.out.size))
                replace O_x0 := Lib.hid (tyRatchet.onext O_x0.out hb)
                replace E_x0 : Hid (∀ b, (ival w4_.heap.size w5_.heap.size) b → b < w9_.heap.size) := Lib.hid (fun b h => Nat.lt_of_lt_of_le (E_x0.out b h) hb.size)
                replace O_t2 := Lib.hid (tyRatchet.onext O_t2.out hb)
                replace E_t2 : Hid (∀ b, (ival w7_.drew.heap.size w8_.heap.size) b → b < w9_.heap.size) := Lib.hid (fun b h => Nat.lt_of_lt_of_le (E_t2.out b h) hb.size)
                replace K_p0 := Lib.hid ((hb.block _ (lt_of_block K_p0.out)).trans K_p0.out)
                replace K_x0 := Lib.hid ((hb.block _ (lt_of_block K_x0.out)).trans K_x0.out)
                replace HB := Lib.hid (HB.out.trans (hb.mono HB.out.size))
                clear hb
                have d2 : w9_.cell? ⟨w5_.heap.size, 0, none⟩ = some (.int .i64 s0.1) ∧ w9_.cell? ⟨w5_.heap.size, 1, none⟩ = some (.int .i64 s0.2.1) ∧ w9_.cell? ⟨w5_.heap.size, 2, none⟩ = some (.slice ax0_2 s0.2.2.length nx0_2) ∧ w9_.cell? ⟨w.heap.size, 0, none⟩ = some (.int .i64 s0.1) ∧ w9_.cell? ⟨w.heap.size, 1, none⟩ = some (.int .i64 s0.2.1) ∧ w9_.cell? ⟨w.heap.size, 2, none⟩ = some (.slice a0_2 s0.2.2.length n0_2) := ⟨(blk_cell K_x0.out 0).trans (cell3_0 _ _ _), (blk_cell K_x0.out 1).trans (cell3_1 _ _ _), (blk_cell K_x0.out 2).trans (cell3_2 _ _ _), (blk_cell K_p0.out 0).trans (cell3_0 _ _ _), (blk_cell K_p0.out 1).trans (cell3_1 _ _ _), (blk_cell K_p0.out 2).trans (cell3_2 _ _ _)⟩))))
  clear d0 d1 d2
  clear O_x0 E_x0 D_x0
  clear K_x0
  clear O_t2 E_t2 D_t2
  clear A0
  clear K_p0
  go_wp2_with fail
  go_ret
  exact ⟨rfl, HB.out⟩
  
end Go.Proofs.Ytjbkhbbchacooaa
