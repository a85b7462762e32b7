/- FnExactEqualRatchets: the walk. No conditions. -/
import Derived.Test.YtjbkhbbchacooaaRtW
import Derived.Test.YtjbkhbbchacooaaCells
import Derived.Deep.RegionHeld3
import Derived.Deep.DeepCutAuto
namespace Go.Proofs.Ytjbkhbbchacooaa
open Go Go.RowKit
set_option linter.unusedVariables false
attribute [local irreducible] kh

set_option maxHeartbeats 4000000 in
set_option maxRecDepth 100000 in
theorem fnExactEqualRatchets_walk (c0 : List Value) (s0 : VRatchet) (c1 : List Value) (s1 : VRatchet) (w : World) (w0 : tyRatchet.rd w.heap.size w c0 s0) (w1 : tyRatchet.rd w.heap.size w c1 s1) :
    Calls Try.prog 10 #[.agg c0.toArray, .agg c1.toArray] w fun e w' => e = .returned (.bool true) ∧ Below w.heap.size w w' := by
  obtain ⟨a0_2, n0_2, rfl, _⟩ := rd_Ratchet w0
  have A0 := Lib.hid w0
  clear w0
  obtain ⟨a1_2, n1_2, rfl, _⟩ := rd_Ratchet w1
  have A1 := Lib.hid w1
  clear w1
  by_cases bz0 : (tyRatchet.tot s0 : Int) ≤ (1048576 : Int)
  case neg =>
    have C0 := Lib.hid bz0
    clear bz0
    go_enter Try.func10, Try.ntmps10
    have hb := (((Below.refl w.heap.size w).alloc (Nat.le_refl _) (.cells #[.int .i64 s0.1, .int .i64 s0.2.1, .slice a0_2 s0.2.2.length n0_2] 31)).alloc (by simp) (.cells #[.int .i64 s1.1, .int .i64 s1.2.1, .slice a1_2 s1.2.2.length n1_2] 31))
    have KK := blocks2T w (.cells #[.int .i64 s0.1, .int .i64 s0.2.1, .slice a0_2 s0.2.2.length n0_2] 31) (.cells #[.int .i64 s1.1, .int .i64 s1.2.1, .slice a1_2 s1.2.2.length n1_2] 31)
    have K_p0 := Lib.hid KK.1
    have K_p1 := Lib.hid KK.2
    clear KK
    replace A0 := Lib.hid (tyRatchet.behind A0.out hb)
    replace A1 := Lib.hid (tyRatchet.behind A1.out hb)
    have HB := Lib.hid hb
    clear hb
    have k_p0_0 := blk_cell K_p0.out 0
    rw [cell3_0] at k_p0_0
    have k_p0_1 := blk_cell K_p0.out 1
    rw [cell3_1] at k_p0_1
    have k_p0_2 := blk_cell K_p0.out 2
    rw [cell3_2] at k_p0_2
    have k_p1_0 := blk_cell K_p1.out 0
    rw [cell3_0] at k_p1_0
    have k_p1_1 := blk_cell K_p1.out 1
    rw [cell3_1] at k_p1_1
    have k_p1_2 := blk_cell K_p1.out 2
    rw [cell3_2] at k_p1_2
    go_wp2_with fail
    clear k_p0_0 k_p0_1 k_p0_2 k_p1_0 k_p1_1 k_p1_2
    obtain ⟨w1_, hw⟩ : ∃ x, x = ((w.alloc (.cells #[.int .i64 s0.1, .int .i64 s0.2.1, .slice a0_2 s0.2.2.length n0_2] 31)).alloc (.cells #[.int .i64 s1.1, .int .i64 s1.2.1, .slice a1_2 s1.2.2.length n1_2] 31)) := ⟨_, rfl⟩
    rw [← hw] at HB A0 A1 K_p0 K_p1 ⊢
    clear hw
    refine (szRatchet_any A0.out (by omega) (by omega) HB.out.size).mono ?_
    rintro e w2_ ⟨he, hb⟩
    rw [if_neg (by have := C0.out; omega)] at he
    subst he
    replace A0 := Lib.hid (tyRatchet.behind A0.out (hb.mono HB.out.size))
    replace A1 := Lib.hid (tyRatchet.behind A1.out (hb.mono HB.out.size))
    replace K_p0 := Lib.hid ((hb.block _ (lt_of_block K_p0.out)).trans K_p0.out)
    replace K_p1 := Lib.hid ((hb.block _ (lt_of_block K_p1.out)).trans K_p1.out)
    replace HB := Lib.hid (HB.out.trans (hb.mono HB.out.size))
    clear hb
    have k_p0_0 := blk_cell K_p0.out 0
    rw [cell3_0] at k_p0_0
    have k_p0_1 := blk_cell K_p0.out 1
    rw [cell3_1] at k_p0_1
    have k_p0_2 := blk_cell K_p0.out 2
    rw [cell3_2] at k_p0_2
    have k_p1_0 := blk_cell K_p1.out 0
    rw [cell3_0] at k_p1_0
    have k_p1_1 := blk_cell K_p1.out 1
    rw [cell3_1] at k_p1_1
    have k_p1_2 := blk_cell K_p1.out 2
    rw [cell3_2] at k_p1_2
    go_wp2_with fail
    clear k_p0_0 k_p0_1 k_p0_2 k_p1_0 k_p1_1 k_p1_2
    go_ret
    exact ⟨rfl, HB.out⟩
  have C0 := Lib.hid bz0
  obtain ⟨q0, hq0⟩ : ∃ q : Int, q = (1048576 : Int) - (tyRatchet.tot s0 : Int) := ⟨_, rfl⟩
  have d0q : decide (q0 < 0) = false := by simp; omega
  have e0q : 0 ≤ q0 ∧ q0 ≤ 1048576 := by omega
  have B0t : Hid (tyRatchet.tot s0 ≤ 1048576) := Lib.hid (by omega)
  have H0q := Lib.hid hq0
  clear hq0 bz0
  by_cases bz1 : (tyRatchet.tot s1 : Int) ≤ q0
  case neg =>
    have C1 := Lib.hid bz1
    clear bz1
    go_enter Try.func10, Try.ntmps10
    have hb := (((Below.refl w.heap.size w).alloc (Nat.le_refl _) (.cells #[.int .i64 s0.1, .int .i64 s0.2.1, .slice a0_2 s0.2.2.length n0_2] 31)).alloc (by simp) (.cells #[.int .i64 s1.1, .int .i64 s1.2.1, .slice a1_2 s1.2.2.length n1_2] 31))
    have KK := blocks2T w (.cells #[.int .i64 s0.1, .int .i64 s0.2.1, .slice a0_2 s0.2.2.length n0_2] 31) (.cells #[.int .i64 s1.1, .int .i64 s1.2.1, .slice a1_2 s1.2.2.length n1_2] 31)
    have K_p0 := Lib.hid KK.1
    have K_p1 := Lib.hid KK.2
    clear KK
    replace A0 := Lib.hid (tyRatchet.behind A0.out hb)
    replace A1 := Lib.hid (tyRatchet.behind A1.out hb)
    have HB := Lib.hid hb
    clear hb
    have k_p0_0 := blk_cell K_p0.out 0
    rw [cell3_0] at k_p0_0
    have k_p0_1 := blk_cell K_p0.out 1
    rw [cell3_1] at k_p0_1
    have k_p0_2 := blk_cell K_p0.out 2
    rw [cell3_2] at k_p0_2
    have k_p1_0 := blk_cell K_p1.out 0
    rw [cell3_0] at k_p1_0
    have k_p1_1 := blk_cell K_p1.out 1
    rw [cell3_1] at k_p1_1
    have k_p1_2 := blk_cell K_p1.out 2
    rw [cell3_2] at k_p1_2
    go_wp2_with fail
    clear k_p0_0 k_p0_1 k_p0_2 k_p1_0 k_p1_1 k_p1_2
    obtain ⟨w1_, hw⟩ : ∃ x, x = ((w.alloc (.cells #[.int .i64 s0.1, .int .i64 s0.2.1, .slice a0_2 s0.2.2.length n0_2] 31)).alloc (.cells #[.int .i64 s1.1, .int .i64 s1.2.1, .slice a1_2 s1.2.2.length n1_2] 31)) := ⟨_, rfl⟩
    rw [← hw] at HB A0 A1 K_p0 K_p1 ⊢
    clear hw
    refine (szRatchet_any A0.out (by omega) (by omega) HB.out.size).mono ?_
    rintro e w2_ ⟨he, hb⟩
    rw [if_pos (by have := C0.out; omega), ← H0q.out] at he
    subst he
    replace A0 := Lib.hid (tyRatchet.behind A0.out (hb.mono HB.out.size))
    replace A1 := Lib.hid (tyRatchet.behind A1.out (hb.mono HB.out.size))
    replace K_p0 := Lib.hid ((hb.block _ (lt_of_block K_p0.out)).trans K_p0.out)
    replace K_p1 := Lib.hid ((hb.block _ (lt_of_block K_p1.out)).trans K_p1.out)
    replace HB := Lib.hid (HB.out.trans (hb.mono HB.out.size))
    clear hb
    have k_p0_0 := blk_cell K_p0.out 0
    rw [cell3_0] at k_p0_0
    have k_p0_1 := blk_cell K_p0.out 1
    rw [cell3_1] at k_p0_1
    have k_p0_2 := blk_cell K_p0.out 2
    rw [cell3_2] at k_p0_2
    have k_p1_0 := blk_cell K_p1.out 0
    rw [cell3_0] at k_p1_0
    have k_p1_1 := blk_cell K_p1.out 1
    rw [cell3_1] at k_p1_1
    have k_p1_2 := blk_cell K_p1.out 2
    rw [cell3_2] at k_p1_2
    go_wp2_with fail
    clear k_p0_0 k_p0_1 k_p0_2 k_p1_0 k_p1_1 k_p1_2
    refine (szRatchet_any A1.out (by omega) (by omega) HB.out.size).mono ?_
    rintro e w3_ ⟨he, hb⟩
    rw [if_neg (by have := C1.out; omega)] at he
    subst he
    replace A0 := Lib.hid (tyRatchet.behind A0.out (hb.mono HB.out.size))
    replace A1 := Lib.hid (tyRatchet.behind A1.out (hb.mono HB.out.size))
    replace K_p0 := Lib.hid ((hb.block _ (lt_of_block K_p0.out)).trans K_p0.out)
    replace K_p1 := Lib.hid ((hb.block _ (lt_of_block K_p1.out)).trans K_p1.out)
    replace HB := Lib.hid (HB.out.trans (hb.mono HB.out.size))
    clear hb
    have k_p0_0 := blk_cell K_p0.out 0
    rw [cell3_0] at k_p0_0
    have k_p0_1 := blk_cell K_p0.out 1
    rw [cell3_1] at k_p0_1
    have k_p0_2 := blk_cell K_p0.out 2
    rw [cell3_2] at k_p0_2
    have k_p1_0 := blk_cell K_p1.out 0
    rw [cell3_0] at k_p1_0
    have k_p1_1 := blk_cell K_p1.out 1
    rw [cell3_1] at k_p1_1
    have k_p1_2 := blk_cell K_p1.out 2
    rw [cell3_2] at k_p1_2
    go_wp2_with fail
    clear k_p0_0 k_p0_1 k_p0_2 k_p1_0 k_p1_1 k_p1_2
    go_ret
    exact ⟨rfl, HB.out⟩
  have C1 := Lib.hid bz1
  obtain ⟨q1, hq1⟩ : ∃ q : Int, q = q0 - (tyRatchet.tot s1 : Int) := ⟨_, rfl⟩
  have d1q : decide (q1 < 0) = false := by simp; omega
  have e1q : 0 ≤ q1 ∧ q1 ≤ 1048576 := by omega
  have B1t : Hid (tyRatchet.tot s1 ≤ 1048576) := Lib.hid (by omega)
  have H1q := Lib.hid hq1
  clear hq1 bz1
  go_enter Try.func10, Try.ntmps10
  have hb := (((Below.refl w.heap.size w).alloc (Nat.le_refl _) (.cells #[.int .i64 s0.1, .int .i64 s0.2.1, .slice a0_2 s0.2.2.length n0_2] 31)).alloc (by simp) (.cells #[.int .i64 s1.1, .int .i64 s1.2.1, .slice a1_2 s1.2.2.length n1_2] 31))
  have KK := blocks2T w (.cells #[.int .i64 s0.1, .int .i64 s0.2.1, .slice a0_2 s0.2.2.length n0_2] 31) (.cells #[.int .i64 s1.1, .int .i64 s1.2.1, .slice a1_2 s1.2.2.length n1_2] 31)
  have K_p0 := Lib.hid KK.1
  have K_p1 := Lib.hid KK.2
  clear KK
  replace A0 := Lib.hid (tyRatchet.behind A0.out hb)
  replace A1 := Lib.hid (tyRatchet.behind A1.out hb)
  have HB := Lib.hid hb
  clear hb
  have k_p0_0 := blk_cell K_p0.out 0
  rw [cell3_0] at k_p0_0
  have k_p0_1 := blk_cell K_p0.out 1
  rw [cell3_1] at k_p0_1
  have k_p0_2 := blk_cell K_p0.out 2
  rw [cell3_2] at k_p0_2
  have k_p1_0 := blk_cell K_p1.out 0
  rw [cell3_0] at k_p1_0
  have k_p1_1 := blk_cell K_p1.out 1
  rw [cell3_1] at k_p1_1
  have k_p1_2 := blk_cell K_p1.out 2
  rw [cell3_2] at k_p1_2
  go_wp2_with fail
  clear k_p0_0 k_p0_1 k_p0_2 k_p1_0 k_p1_1 k_p1_2
  obtain ⟨w1_, hw⟩ : ∃ x, x = ((w.alloc (.cells #[.int .i64 s0.1, .int .i64 s0.2.1, .slice a0_2 s0.2.2.length n0_2] 31)).alloc (.cells #[.int .i64 s1.1, .int .i64 s1.2.1, .slice a1_2 s1.2.2.length n1_2] 31)) := ⟨_, rfl⟩
  rw [← hw] at HB A0 A1 K_p0 K_p1 ⊢
  clear hw
  refine (szRatchet_any A0.out (by omega) (by omega) HB.out.size).mono ?_
  rintro e w2_ ⟨he, hb⟩
  rw [if_pos (by have := C0.out; omega), ← H0q.out] at he
  subst he
  replace A0 := Lib.hid (tyRatchet.behind A0.out (hb.mono HB.out.size))
  replace A1 := Lib.hid (tyRatchet.behind A1.out (hb.mono HB.out.size))
  replace K_p0 := Lib.hid ((hb.block _ (lt_of_block K_p0.out)).trans K_p0.out)
  replace K_p1 := Lib.hid ((hb.block _ (lt_of_block K_p1.out)).trans K_p1.out)
  replace HB := Lib.hid (HB.out.trans (hb.mono HB.out.size))
  clear hb
  have k_p0_0 := blk_cell K_p0.out 0
  rw [cell3_0] at k_p0_0
  have k_p0_1 := blk_cell K_p0.out 1
  rw [cell3_1] at k_p0_1
  have k_p0_2 := blk_cell K_p0.out 2
  rw [cell3_2] at k_p0_2
  have k_p1_0 := blk_cell K_p1.out 0
  rw [cell3_0] at k_p1_0
  have k_p1_1 := blk_cell K_p1.out 1
  rw [cell3_1] at k_p1_1
  have k_p1_2 := blk_cell K_p1.out 2
  rw [cell3_2] at k_p1_2
  go_wp2_with fail
  clear k_p0_0 k_p0_1 k_p0_2 k_p1_0 k_p1_1 k_p1_2
  refine (szRatchet_any A1.out (by omega) (by omega) HB.out.size).mono ?_
  rintro e w3_ ⟨he, hb⟩
  rw [if_pos (by have := C1.out; omega), ← H1q.out] at he
  subst he
  replace A0 := Lib.hid (tyRatchet.behind A0.out (hb.mono HB.out.size))
  replace A1 := Lib.hid (tyRatchet.behind A1.out (hb.mono HB.out.size))
  replace K_p0 := Lib.hid ((hb.block _ (lt_of_block K_p0.out)).trans K_p0.out)
  replace K_p1 := Lib.hid ((hb.block _ (lt_of_block K_p1.out)).trans K_p1.out)
  replace HB := Lib.hid (HB.out.trans (hb.mono HB.out.size))
  clear hb
  -- ('sz', 0)
  -- ('sz', 1)
  -- ('call', 'spec', 'EqualRatchets', [('copy', 0, 'Ratchet'), ('copy', 1, 'Ratchet')], ['w0'])
  have k_p0_0 := blk_cell K_p0.out 0
  rw [cell3_0] at k_p0_0
  have k_p0_1 := blk_cell K_p0.out 1
  rw [cell3_1] at k_p0_1
  have k_p0_2 := blk_cell K_p0.out 2
  rw [cell3_2] at k_p0_2
  have k_p1_0 := blk_cell K_p1.out 0
  rw [cell3_0] at k_p1_0
  have k_p1_1 := blk_cell K_p1.out 1
  rw [cell3_1] at k_p1_1
  have k_p1_2 := blk_cell K_p1.out 2
  rw [cell3_2] at k_p1_2
  go_wp2_with fail
  clear k_p0_0 k_p0_1 k_p0_2 k_p1_0 k_p1_1 k_p1_2
  have hb : Below w3_.heap.size w3_ w3_.drew := (Below.refl _ _).drew
  replace A0 := Lib.hid (tyRatchet.behind A0.out (hb.mono HB.out.size))
  replace A1 := Lib.hid (tyRatchet.behind A1.out (hb.mono HB.out.size))
  replace K_p0 := Lib.hid ((hb.block _ (lt_of_block K_p0.out)).trans K_p0.out)
  replace K_p1 := Lib.hid ((hb.block _ (lt_of_block K_p1.out)).trans K_p1.out)
  replace HB := Lib.hid (HB.out.trans (hb.mono HB.out.size))
  clear hb
  have d0 : w3_.drew.cell? ⟨w.heap.size, 0, none⟩ = some (.int .i64 s0.1) ∧ w3_.drew.cell? ⟨w.heap.size, 1, none⟩ = some (.int .i64 s0.2.1) ∧ w3_.drew.cell? ⟨w.heap.size, 2, none⟩ = some (.slice a0_2 s0.2.2.length n0_2) ∧ w3_.drew.cell? ⟨w.heap.size + 1, 0, none⟩ = some (.int .i64 s1.1) ∧ w3_.drew.cell? ⟨w.heap.size + 1, 1, none⟩ = some (.int .i64 s1.2.1) ∧ w3_.drew.cell? ⟨w.heap.size + 1, 2, none⟩ = some (.slice a1_2 s1.2.2.length n1_2) := ⟨(blk_cell K_p0.out 0).trans (cell3_0 _ _ _), (blk_cell K_p0.out 1).trans (cell3_1 _ _ _), (blk_cell K_p0.out 2).trans (cell3_2 _ _ _), (blk_cell K_p1.out 0).trans (cell3_0 _ _ _), (blk_cell K_p1.out 1).trans (cell3_1 _ _ _), (blk_cell K_p1.out 2).trans (cell3_2 _ _ _)⟩
  go_region_held3 (fun w' => w'.cell? ⟨w.heap.size, 0, none⟩ = some (.int .i64 s0.1) ∧ w'.cell? ⟨w.heap.size, 1, none⟩ = some (.int .i64 s0.2.1) ∧ w'.cell? ⟨w.heap.size, 2, none⟩ = some (.slice a0_2 s0.2.2.length n0_2) ∧ w'.cell? ⟨w.heap.size + 1, 0, none⟩ = some (.int .i64 s1.1) ∧ w'.cell? ⟨w.heap.size + 1, 1, none⟩ = some (.int .i64 s1.2.1) ∧ w'.cell? ⟨w.heap.size + 1, 2, none⟩ = some (.slice a1_2 s1.2.2.length n1_2)) (first | assumption | go_keep) ((first
    | (go_at_call 18
       with_reducible (show Calls _ _ #[.agg #[.int .i64 s0.1, .int .i64 s0.2.1, .slice a0_2 s0.2.2.length n0_2]] _ _)
       go_loud (refine (toRatchet_any A0.out HB.out.size (Nat.le_trans B0t.out (by decide))).mono ?_
                rintro e w4_ ⟨c_t1, he, hO_t1, hb⟩
                subst he
                have hF_t1 : ∀ b, (ival w3_.drew.heap.size w4_.heap.size) b → w3_.drew.heap.size ≤ b ∧ b < w4_.heap.size := fun b h => h
                obtain ⟨at1_2, nt1_2, _, rfl, _⟩ := own_Ratchet hO_t1
                have D_t1 : Hid (∀ b, (ival w3_.drew.heap.size w4_.heap.size) b → w.heap.size ≤ b) := Lib.hid (fun b h => Nat.le_trans HB.out.size (hF_t1 b h).1)
                replace A0 := Lib.hid (tyRatchet.behind A0.out (hb.mono HB.out.size))
                replace A1 := Lib.hid (tyRatchet.behind A1.out (hb.mono HB.out.size))
                replace K_p0 := Lib.hid ((hb.block _ (lt_of_block K_p0.out)).trans K_p0.out)
                replace K_p1 := Lib.hid ((hb.block _ (lt_of_block K_p1.out)).trans K_p1.out)
                replace HB := Lib.hid (HB.out.trans (hb.mono HB.out.size))
                clear hb
                have O_t1 := Lib.hid hO_t1
                have E_t1 : Hid (∀ b, (ival w3_.drew.heap.size w4_.heap.size) b → b < w4_.heap.size) := Lib.hid (fun b h => (hF_t1 b h).2)
                clear hO_t1 hF_t1
                have d1 : w4_.cell? ⟨w.heap.size, 0, none⟩ = some (.int .i64 s0.1) ∧ w4_.cell? ⟨w.heap.size, 1, none⟩ = some (.int .i64 s0.2.1) ∧ w4_.cell? ⟨w.heap.size, 2, none⟩ = some (.slice a0_2 s0.2.2.length n0_2) ∧ w4_.cell? ⟨w.heap.size + 1, 0, none⟩ = some (.int .i64 s1.1) ∧ w4_.cell? ⟨w.heap.size + 1, 1, none⟩ = some (.int .i64 s1.2.1) ∧ w4_.cell? ⟨w.heap.size + 1, 2, none⟩ = some (.slice a1_2 s1.2.2.length n1_2) := ⟨(blk_cell K_p0.out 0).trans (cell3_0 _ _ _), (blk_cell K_p0.out 1).trans (cell3_1 _ _ _), (blk_cell K_p0.out 2).trans (cell3_2 _ _ _), (blk_cell K_p1.out 0).trans (cell3_0 _ _ _), (blk_cell K_p1.out 1).trans (cell3_1 _ _ _), (blk_cell K_p1.out 2).trans (cell3_2 _ _ _)⟩))
    | (go_at_call 18
       with_reducible (show Calls _ _ #[.agg #[.int .i64 s1.1, .int .i64 s1.2.1, .slice a1_2 s1.2.2.length n1_2]] _ _)
       go_loud (refine (toRatchet_any A1.out HB.out.size (Nat.le_trans B1t.out (by decide))).mono ?_
                rintro e w5_ ⟨c_t2, he, hO_t2, hb⟩
                subst he
                have hF_t2 : ∀ b, (ival w4_.heap.size w5_.heap.size) b → w4_.heap.size ≤ b ∧ b < w5_.heap.size := fun b h => h
                obtain ⟨at2_2, nt2_2, _, rfl, _⟩ := own_Ratchet hO_t2
                have D_t2 : Hid (∀ b, (ival w4_.heap.size w5_.heap.size) b → w.heap.size ≤ b) := Lib.hid (fun b h => Nat.le_trans HB.out.size (hF_t2 b h).1)
                replace A0 := Lib.hid (tyRatchet.behind A0.out (hb.mono HB.out.size))
                replace A1 := Lib.hid (tyRatchet.behind A1.out (hb.mono HB.out.size))
                replace O_t1 := Lib.hid (tyRatchet.onext O_t1.out hb)
                replace E_t1 : Hid (∀ b, (ival w3_.drew.heap.size w4_.heap.size) b → b < w5_.heap.size) := Lib.hid (fun b h => Nat.lt_of_lt_of_le (E_t1.out b h) hb.size)
                replace K_p0 := Lib.hid ((hb.block _ (lt_of_block K_p0.out)).trans K_p0.out)
                replace K_p1 := Lib.hid ((hb.block _ (lt_of_block K_p1.out)).trans K_p1.out)
                replace HB := Lib.hid (HB.out.trans (hb.mono HB.out.size))
                clear hb
                have O_t2 := Lib.hid hO_t2
                have E_t2 : Hid (∀ b, (ival w4_.heap.size w5_.heap.size) b → b < w5_.heap.size) := Lib.hid (fun b h => (hF_t2 b h).2)
                clear hO_t2 hF_t2
                have d2 : w5_.cell? ⟨w.heap.size, 0, none⟩ = some (.int .i64 s0.1) ∧ w5_.cell? ⟨w.heap.size, 1, none⟩ = some (.int .i64 s0.2.1) ∧ w5_.cell? ⟨w.heap.size, 2, none⟩ = some (.slice a0_2 s0.2.2.length n0_2) ∧ w5_.cell? ⟨w.heap.size + 1, 0, none⟩ = some (.int .i64 s1.1) ∧ w5_.cell? ⟨w.heap.size + 1, 1, none⟩ = some (.int .i64 s1.2.1) ∧ w5_.cell? ⟨w.heap.size + 1, 2, none⟩ = some (.slice a1_2 s1.2.2.length n1_2) := ⟨(blk_cell K_p0.out 0).trans (cell3_0 _ _ _), (blk_cell K_p0.out 1).trans (cell3_1 _ _ _), (blk_cell K_p0.out 2).trans (cell3_2 _ _ _), (blk_cell K_p1.out 0).trans (cell3_0 _ _ _), (blk_cell K_p1.out 1).trans (cell3_1 _ _ _), (blk_cell K_p1.out 2).trans (cell3_2 _ _ _)⟩))
    | (go_at_call 34
       go_loud (refine (spec_er_t (tyRatchet.ord O_t1.out) (Nat.le_refl _) (tyRatchet.ord O_t2.out) (Nat.le_refl _)).mono ?_
                obtain ⟨Y0, hY0⟩ : ∃ y : Bool, y = eqRt s0.1 s0.2.1 s0.2.2 s1.1 s1.2.1 s1.2.2 := ⟨_, rfl⟩
                rintro e w6_ ⟨he, hb⟩
                rw [← hY0] at he
                have HY0 := Lib.hid hY0
                clear hY0
                subst he
                replace A0 := Lib.hid (tyRatchet.behind A0.out (hb.mono HB.out.size))
                replace A1 := Lib.hid (tyRatchet.behind A1.out (hb.mono HB.out.size))
                replace O_t1 := Lib.hid (tyRatchet.onext O_t1.out hb)
                replace E_t1 : Hid (∀ b, (ival w3_.drew.heap.size w4_.heap.size) b → b < w6_.heap.size) := Lib.hid (fun b h => Nat.lt_of_lt_of_le (E_t1.out b h) hb.size)
                replace O_t2 := Lib.hid (tyRatchet.onext O_t2.out hb)
                replace E_t2 : Hid (∀ b, (ival w4_.heap.size w5_.heap.size) b → b < w6_.heap.size) := Lib.hid (fun b h => Nat.lt_of_lt_of_le (E_t2.out b h) hb.size)
                replace K_p0 := Lib.hid ((hb.block _ (lt_of_block K_p0.out)).trans K_p0.out)
                replace K_p1 := Lib.hid ((hb.block _ (lt_of_block K_p1.out)).trans K_p1.out)
                replace HB := Lib.hid (HB.out.trans (hb.mono HB.out.size))
                clear hb
                have d3 : w6_.cell? ⟨w.heap.size, 0, none⟩ = some (.int .i64 s0.1) ∧ w6_.cell? ⟨w.heap.size, 1, none⟩ = some (.int .i64 s0.2.1) ∧ w6_.cell? ⟨w.heap.size, 2, none⟩ = some (.slice a0_2 s0.2.2.length n0_2) ∧ w6_.cell? ⟨w.heap.size + 1, 0, none⟩ = some (.int .i64 s1.1) ∧ w6_.cell? ⟨w.heap.size + 1, 1, none⟩ = some (.int .i64 s1.2.1) ∧ w6_.cell? ⟨w.heap.size + 1, 2, none⟩ = some (.slice a1_2 s1.2.2.length n1_2) := ⟨(blk_cell K_p0.out 0).trans (cell3_0 _ _ _), (blk_cell K_p0.out 1).trans (cell3_1 _ _ _), (blk_cell K_p0.out 2).trans (cell3_2 _ _ _), (blk_cell K_p1.out 0).trans (cell3_0 _ _ _), (blk_cell K_p1.out 1).trans (cell3_1 _ _ _), (blk_cell K_p1.out 2).trans (cell3_2 _ _ _)⟩))))
  clear d0 d1 d2 d3
  clear O_t1 E_t1 D_t1
  clear O_t2 E_t2 D_t2
  -- ('copy', 'x0', 0, 'Ratchet')
  have k_p0_0 := blk_cell K_p0.out 0
  rw [cell3_0] at k_p0_0
  have k_p0_1 := blk_cell K_p0.out 1
  rw [cell3_1] at k_p0_1
  have k_p0_2 := blk_cell K_p0.out 2
  rw [cell3_2] at k_p0_2
  have k_p1_0 := blk_cell K_p1.out 0
  rw [cell3_0] at k_p1_0
  have k_p1_1 := blk_cell K_p1.out 1
  rw [cell3_1] at k_p1_1
  have k_p1_2 := blk_cell K_p1.out 2
  rw [cell3_2] at k_p1_2
  go_wp2_with fail
  clear k_p0_0 k_p0_1 k_p0_2 k_p1_0 k_p1_1 k_p1_2
  refine (toRatchet_any A0.out HB.out.size (Nat.le_trans B0t.out (by decide))).mono ?_
  rintro e w7_ ⟨c_x0, he, hO_x0, hb⟩
  subst he
  have hF_x0 : ∀ b, (ival w6_.heap.size w7_.heap.size) b → w6_.heap.size ≤ b ∧ b < w7_.heap.size := fun b h => h
  obtain ⟨ax0_2, nx0_2, _, rfl, _⟩ := own_Ratchet hO_x0
  have D_x0 : Hid (∀ b, (ival w6_.heap.size w7_.heap.size) b → w.heap.size ≤ b) := Lib.hid (fun b h => Nat.le_trans HB.out.size (hF_x0 b h).1)
  replace A0 := Lib.hid (tyRatchet.behind A0.out (hb.mono HB.out.size))
  replace A1 := Lib.hid (tyRatchet.behind A1.out (hb.mono HB.out.size))
  replace K_p0 := Lib.hid ((hb.block _ (lt_of_block K_p0.out)).trans K_p0.out)
  replace K_p1 := Lib.hid ((hb.block _ (lt_of_block K_p1.out)).trans K_p1.out)
  replace HB := Lib.hid (HB.out.trans (hb.mono HB.out.size))
  clear hb
  have O_x0 := Lib.hid hO_x0
  have E_x0 : Hid (∀ b, (ival w6_.heap.size w7_.heap.size) b → b < w7_.heap.size) := Lib.hid (fun b h => (hF_x0 b h).2)
  clear hO_x0 hF_x0
  have hb : Below w7_.heap.size w7_ (w7_.alloc (.cells #[.int .i64 s0.1, .int .i64 s0.2.1, .slice ax0_2 s0.2.2.length nx0_2] 24)) := (Below.refl _ _).alloc (Nat.le_refl _) _
  replace A0 := Lib.hid (tyRatchet.behind A0.out (hb.mono HB.out.size))
  replace A1 := Lib.hid (tyRatchet.behind A1.out (hb.mono HB.out.size))
  replace O_x0 := Lib.hid (tyRatchet.onext O_x0.out hb)
  replace E_x0 : Hid (∀ b, (ival w6_.heap.size w7_.heap.size) b → b < (w7_.alloc (.cells #[.int .i64 s0.1, .int .i64 s0.2.1, .slice ax0_2 s0.2.2.length nx0_2] 24)).heap.size) := Lib.hid (fun b h => Nat.lt_of_lt_of_le (E_x0.out b h) hb.size)
  replace K_p0 := Lib.hid ((hb.block _ (lt_of_block K_p0.out)).trans K_p0.out)
  replace K_p1 := Lib.hid ((hb.block _ (lt_of_block K_p1.out)).trans K_p1.out)
  replace HB := Lib.hid (HB.out.trans (hb.mono HB.out.size))
  clear hb
  have K_x0 := Lib.hid (heap_alloc_new w7_ (.cells #[.int .i64 s0.1, .int .i64 s0.2.1, .slice ax0_2 s0.2.2.length nx0_2] 24))
  have k_p0_0 := blk_cell K_p0.out 0
  rw [cell3_0] at k_p0_0
  have k_p0_1 := blk_cell K_p0.out 1
  rw [cell3_1] at k_p0_1
  have k_p0_2 := blk_cell K_p0.out 2
  rw [cell3_2] at k_p0_2
  have k_p1_0 := blk_cell K_p1.out 0
  rw [cell3_0] at k_p1_0
  have k_p1_1 := blk_cell K_p1.out 1
  rw [cell3_1] at k_p1_1
  have k_p1_2 := blk_cell K_p1.out 2
  rw [cell3_2] at k_p1_2
  have k_x0_0 := blk_cell K_x0.out 0
  rw [cell3_0] at k_x0_0
  have k_x0_1 := blk_cell K_x0.out 1
  rw [cell3_1] at k_x0_1
  have k_x0_2 := blk_cell K_x0.out 2
  rw [cell3_2] at k_x0_2
  go_wp2_with fail
  clear k_p0_0 k_p0_1 k_p0_2 k_p1_0 k_p1_1 k_p1_2 k_x0_0 k_x0_1 k_x0_2
  obtain ⟨w8_, hw⟩ : ∃ x, x = w7_.alloc (.cells #[.int .i64 s0.1, .int .i64 s0.2.1, .slice ax0_2 s0.2.2.length nx0_2] 24) := ⟨_, rfl⟩
  rw [← hw] at HB A0 A1 O_x0 E_x0 K_p0 K_p1 K_x0 ⊢
  clear hw
  -- ('copy', 'x1', 1, 'Ratchet')
  refine (toRatchet_any A1.out HB.out.size (Nat.le_trans B1t.out (by decide))).mono ?_
  rintro e w9_ ⟨c_x1, he, hO_x1, hb⟩
  subst he
  have hF_x1 : ∀ b, (ival w8_.heap.size w9_.heap.size) b → w8_.heap.size ≤ b ∧ b < w9_.heap.size := fun b h => h
  obtain ⟨ax1_2, nx1_2, _, rfl, _⟩ := own_Ratchet hO_x1
  have D_x1 : Hid (∀ b, (ival w8_.heap.size w9_.heap.size) b → w.heap.size ≤ b) := Lib.hid (fun b h => Nat.le_trans HB.out.size (hF_x1 b h).1)
  replace A0 := Lib.hid (tyRatchet.behind A0.out (hb.mono HB.out.size))
  replace A1 := Lib.hid (tyRatchet.behind A1.out (hb.mono HB.out.size))
  replace O_x0 := Lib.hid (tyRatchet.onext O_x0.out hb)
  replace E_x0 : Hid (∀ b, (ival w6_.heap.size w7_.heap.size) b → b < w9_.heap.size) := Lib.hid (fun b h => Nat.lt_of_lt_of_le (E_x0.out b h) hb.size)
  replace K_p0 := Lib.hid ((hb.block _ (lt_of_block K_p0.out)).trans K_p0.out)
  replace K_p1 := Lib.hid ((hb.block _ (lt_of_block K_p1.out)).trans K_p1.out)
  replace K_x0 := Lib.hid ((hb.block _ (lt_of_block K_x0.out)).trans K_x0.out)
  replace HB := Lib.hid (HB.out.trans (hb.mono HB.out.size))
  clear hb
  have O_x1 := Lib.hid hO_x1
  have E_x1 : Hid (∀ b, (ival w8_.heap.size w9_.heap.size) b → b < w9_.heap.size) := Lib.hid (fun b h => (hF_x1 b h).2)
  clear hO_x1 hF_x1
  have hb : Below w9_.heap.size w9_ (w9_.alloc (.cells #[.int .i64 s1.1, .int .i64 s1.2.1, .slice ax1_2 s1.2.2.length nx1_2] 24)) := (Below.refl _ _).alloc (Nat.le_refl _) _
  replace A0 := Lib.hid (tyRatchet.behind A0.out (hb.mono HB.out.size))
  replace A1 := Lib.hid (tyRatchet.behind A1.out (hb.mono HB.out.size))
  replace O_x0 := Lib.hid (tyRatchet.onext O_x0.out hb)
  replace E_x0 : Hid (∀ b, (ival w6_.heap.size w7_.heap.size) b → b < (w9_.alloc (.cells #[.int .i64 s1.1, .int .i64 s1.2.1, .slice ax1_2 s1.2.2.length nx1_2] 24)).heap.size) := Lib.hid (fun b h => Nat.lt_of_lt_of_le (E_x0.out b h) hb.size)
  replace O_x1 := Lib.hid (tyRatchet.onext O_x1.out hb)
  replace E_x1 : Hid (∀ b, (ival w8_.heap.size w9_.heap.size) b → b < (w9_.alloc (.cells #[.int .i64 s1.1, .int .i64 s1.2.1, .slice ax1_2 s1.2.2.length nx1_2] 24)).heap.size) := Lib.hid (fun b h => Nat.lt_of_lt_of_le (E_x1.out b h) hb.size)
  replace K_p0 := Lib.hid ((hb.block _ (lt_of_block K_p0.out)).trans K_p0.out)
  replace K_p1 := Lib.hid ((hb.block _ (lt_of_block K_p1.out)).trans K_p1.out)
  replace K_x0 := Lib.hid ((hb.block _ (lt_of_block K_x0.out)).trans K_x0.out)
  replace HB := Lib.hid (HB.out.trans (hb.mono HB.out.size))
  clear hb
  have K_x1 := Lib.hid (heap_alloc_new w9_ (.cells #[.int .i64 s1.1, .int .i64 s1.2.1, .slice ax1_2 s1.2.2.length nx1_2] 24))
  have k_p0_0 := blk_cell K_p0.out 0
  rw [cell3_0] at k_p0_0
  have k_p0_1 := blk_cell K_p0.out 1
  rw [cell3_1] at k_p0_1
  have k_p0_2 := blk_cell K_p0.out 2
  rw [cell3_2] at k_p0_2
  have k_p1_0 := blk_cell K_p1.out 0
  rw [cell3_0] at k_p1_0
  have k_p1_1 := blk_cell K_p1.out 1
  rw [cell3_1] at k_p1_1
  have k_p1_2 := blk_cell K_p1.out 2
  rw [cell3_2] at k_p1_2
  have k_x0_0 := blk_cell K_x0.out 0
  rw [cell3_0] at k_x0_0
  have k_x0_1 := blk_cell K_x0.out 1
  rw [cell3_1] at k_x0_1
  have k_x0_2 := blk_cell K_x0.out 2
  rw [cell3_2] at k_x0_2
  have k_x1_0 := blk_cell K_x1.out 0
  rw [cell3_0] at k_x1_0
  have k_x1_1 := blk_cell K_x1.out 1
  rw [cell3_1] at k_x1_1
  have k_x1_2 := blk_cell K_x1.out 2
  rw [cell3_2] at k_x1_2
  go_wp2_with fail
  clear k_p0_0 k_p0_1 k_p0_2 k_p1_0 k_p1_1 k_p1_2 k_x0_0 k_x0_1 k_x0_2 k_x1_0 k_x1_1 k_x1_2
  obtain ⟨w10_, hw⟩ : ∃ x, x = w9_.alloc (.cells #[.int .i64 s1.1, .int .i64 s1.2.1, .slice ax1_2 s1.2.2.length nx1_2] 24) := ⟨_, rfl⟩
  rw [← hw] at HB A0 A1 O_x0 E_x0 O_x1 E_x1 K_p0 K_p1 K_x0 K_x1 ⊢
  clear hw
  -- ('call', 'impl', 'EqualRatchets', [('own', 'x0'), ('own', 'x1')], ['g0'])
  refine (impl_er_t (tyRatchet.ord O_x0.out) (Nat.le_refl _) (tyRatchet.ord O_x1.out) (Nat.le_refl _)).mono ?_
  rintro e w11_ ⟨he, hb⟩
  rw [← HY0.out] at he
  subst he
  replace A0 := Lib.hid (tyRatchet.behind A0.out (hb.mono HB.out.size))
  replace A1 := Lib.hid (tyRatchet.behind A1.out (hb.mono HB.out.size))
  replace O_x0 := Lib.hid (tyRatchet.onext O_x0.out hb)
  replace E_x0 : Hid (∀ b, (ival w6_.heap.size w7_.heap.size) b → b < w11_.heap.size) := Lib.hid (fun b h => Nat.lt_of_lt_of_le (E_x0.out b h) hb.size)
  replace O_x1 := Lib.hid (tyRatchet.onext O_x1.out hb)
  replace E_x1 : Hid (∀ b, (ival w8_.heap.size w9_.heap.size) b → b < w11_.heap.size) := Lib.hid (fun b h => Nat.lt_of_lt_of_le (E_x1.out b h) hb.size)
  replace K_p0 := Lib.hid ((hb.block _ (lt_of_block K_p0.out)).trans K_p0.out)
  replace K_p1 := Lib.hid ((hb.block _ (lt_of_block K_p1.out)).trans K_p1.out)
  replace K_x0 := Lib.hid ((hb.block _ (lt_of_block K_x0.out)).trans K_x0.out)
  replace K_x1 := Lib.hid ((hb.block _ (lt_of_block K_x1.out)).trans K_x1.out)
  replace HB := Lib.hid (HB.out.trans (hb.mono HB.out.size))
  clear hb
  -- ('eq', 'Ratchet', ('own', 'x0'), ('copy', 0, 'Ratchet'))
  have k_p0_0 := blk_cell K_p0.out 0
  rw [cell3_0] at k_p0_0
  have k_p0_1 := blk_cell K_p0.out 1
  rw [cell3_1] at k_p0_1
  have k_p0_2 := blk_cell K_p0.out 2
  rw [cell3_2] at k_p0_2
  have k_p1_0 := blk_cell K_p1.out 0
  rw [cell3_0] at k_p1_0
  have k_p1_1 := blk_cell K_p1.out 1
  rw [cell3_1] at k_p1_1
  have k_p1_2 := blk_cell K_p1.out 2
  rw [cell3_2] at k_p1_2
  have k_x0_0 := blk_cell K_x0.out 0
  rw [cell3_0] at k_x0_0
  have k_x0_1 := blk_cell K_x0.out 1
  rw [cell3_1] at k_x0_1
  have k_x0_2 := blk_cell K_x0.out 2
  rw [cell3_2] at k_x0_2
  have k_x1_0 := blk_cell K_x1.out 0
  rw [cell3_0] at k_x1_0
  have k_x1_1 := blk_cell K_x1.out 1
  rw [cell3_1] at k_x1_1
  have k_x1_2 := blk_cell K_x1.out 2
  rw [cell3_2] at k_x1_2
  go_wp2_with fail
  clear k_p0_0 k_p0_1 k_p0_2 k_p1_0 k_p1_1 k_p1_2 k_x0_0 k_x0_1 k_x0_2 k_x1_0 k_x1_1 k_x1_2
  have hb : Below w11_.heap.size w11_ w11_.drew := (Below.refl _ _).drew
  replace A0 := Lib.hid (tyRatchet.behind A0.out (hb.mono HB.out.size))
  replace A1 := Lib.hid (tyRatchet.behind A1.out (hb.mono HB.out.size))
  replace O_x0 := Lib.hid (tyRatchet.onext O_x0.out hb)
  replace E_x0 : Hid (∀ b, (ival w6_.heap.size w7_.heap.size) b → b < w11_.drew.heap.size) := Lib.hid (fun b h => Nat.lt_of_lt_of_le (E_x0.out b h) hb.size)
  replace O_x1 := Lib.hid (tyRatchet.onext O_x1.out hb)
  replace E_x1 : Hid (∀ b, (ival w8_.heap.size w9_.heap.size) b → b < w11_.drew.heap.size) := Lib.hid (fun b h => Nat.lt_of_lt_of_le (E_x1.out b h) hb.size)
  replace K_p0 := Lib.hid ((hb.block _ (lt_of_block K_p0.out)).trans K_p0.out)
  replace K_p1 := Lib.hid ((hb.block _ (lt_of_block K_p1.out)).trans K_p1.out)
  replace K_x0 := Lib.hid ((hb.block _ (lt_of_block K_x0.out)).trans K_x0.out)
  replace K_x1 := Lib.hid ((hb.block _ (lt_of_block K_x1.out)).trans K_x1.out)
  replace HB := Lib.hid (HB.out.trans (hb.mono HB.out.size))
  clear hb
  have d0 : w11_.drew.cell? ⟨w7_.heap.size, 0, none⟩ = some (.int .i64 s0.1) ∧ w11_.drew.cell? ⟨w7_.heap.size, 1, none⟩ = some (.int .i64 s0.2.1) ∧ w11_.drew.cell? ⟨w7_.heap.size, 2, none⟩ = some (.slice ax0_2 s0.2.2.length nx0_2) ∧ w11_.drew.cell? ⟨w.heap.size, 0, none⟩ = some (.int .i64 s0.1) ∧ w11_.drew.cell? ⟨w.heap.size, 1, none⟩ = some (.int .i64 s0.2.1) ∧ w11_.drew.cell? ⟨w.heap.size, 2, none⟩ = some (.slice a0_2 s0.2.2.length n0_2) := ⟨(blk_cell K_x0.out 0).trans (cell3_0 _ _ _), (blk_cell K_x0.out 1).trans (cell3_1 _ _ _), (blk_cell K_x0.out 2).trans (cell3_2 _ _ _), (blk_cell K_p0.out 0).trans (cell3_0 _ _ _), (blk_cell K_p0.out 1).trans (cell3_1 _ _ _), (blk_cell K_p0.out 2).trans (cell3_2 _ _ _)⟩
  go_region_held3 (fun w' => w'.cell? ⟨w7_.heap.size, 0, none⟩ = some (.int .i64 s0.1) ∧ w'.cell? ⟨w7_.heap.size, 1, none⟩ = some (.int .i64 s0.2.1) ∧ w'.cell? ⟨w7_.heap.size, 2, none⟩ = some (.slice ax0_2 s0.2.2.length nx0_2) ∧ w'.cell? ⟨w.heap.size, 0, none⟩ = some (.int .i64 s0.1) ∧ w'.cell? ⟨w.heap.size, 1, none⟩ = some (.int .i64 s0.2.1) ∧ w'.cell? ⟨w.heap.size, 2, none⟩ = some (.slice a0_2 s0.2.2.length n0_2)) (first | assumption | go_keep) ((first
    | (go_at_call 18
       go_loud (refine (toRatchet_any A0.out HB.out.size (Nat.le_trans B0t.out (by decide))).mono ?_
                rintro e w12_ ⟨c_t3, he, hO_t3, hb⟩
                subst he
                have hF_t3 : ∀ b, (ival w11_.drew.heap.size w12_.heap.size) b → w11_.drew.heap.size ≤ b ∧ b < w12_.heap.size := fun b h => h
                obtain ⟨at3_2, nt3_2, _, rfl, _⟩ := own_Ratchet hO_t3
                have D_t3 : Hid (∀ b, (ival w11_.drew.heap.size w12_.heap.size) b → w.heap.size ≤ b) := Lib.hid (fun b h => Nat.le_trans HB.out.size (hF_t3 b h).1)
                replace A0 := Lib.hid (tyRatchet.behind A0.out (hb.mono HB.out.size))
                replace A1 := Lib.hid (tyRatchet.behind A1.out (hb.mono HB.out.size))
                replace O_x0 := Lib.hid (tyRatchet.onext O_x0.out hb)
                replace E_x0 : Hid (∀ b, (ival w6_.heap.size w7_.heap.size) b → b < w12_.heap.size) := Lib.hid (fun b h => Nat.lt_of_lt_of_le (E_x0.out b h) hb.size)
                replace O_x1 := Lib.hid (tyRatchet.onext O_x1.out hb)
                replace E_x1 : Hid (∀ b, (ival w8_.heap.size w9_.heap.size) b → b < w12_.heap.size) := Lib.hid (fun b h => Nat.lt_of_lt_of_le (E_x1.out b h) hb.size)
                replace K_p0 := Lib.hid ((hb.block _ (lt_of_block K_p0.out)).trans K_p0.out)
                replace K_p1 := Lib.hid ((hb.block _ (lt_of_block K_p1.out)).trans K_p1.out)
                replace K_x0 := Lib.hid ((hb.block _ (lt_of_block K_x0.out)).trans K_x0.out)
                replace K_x1 := Lib.hid ((hb.block _ (lt_of_block K_x1.out)).trans K_x1.out)
                replace HB := Lib.hid (HB.out.trans (hb.mono HB.out.size))
                clear hb
                have O_t3 := Lib.hid hO_t3
                have E_t3 : Hid (∀ b, (ival w11_.drew.heap.size w12_.heap.size) b → b < w12_.heap.size) := Lib.hid (fun b h => (hF_t3 b h).2)
                clear hO_t3 hF_t3
                have d1 : w12_.cell? ⟨w7_.heap.size, 0, none⟩ = some (.int .i64 s0.1) ∧ w12_.cell? ⟨w7_.heap.size, 1, none⟩ = some (.int .i64 s0.2.1) ∧ w12_.cell? ⟨w7_.heap.size, 2, none⟩ = some (.slice ax0_2 s0.2.2.length nx0_2) ∧ w12_.cell? ⟨w.heap.size, 0, none⟩ = some (.int .i64 s0.1) ∧ w12_.cell? ⟨w.heap.size, 1, none⟩ = some (.int .i64 s0.2.1) ∧ w12_.cell? ⟨w.heap.size, 2, none⟩ = some (.slice a0_2 s0.2.2.length n0_2) := ⟨(blk_cell K_x0.out 0).trans (cell3_0 _ _ _), (blk_cell K_x0.out 1).trans (cell3_1 _ _ _), (blk_cell K_x0.out 2).trans (cell3_2 _ _ _), (blk_cell K_p0.out 0).trans (cell3_0 _ _ _), (blk_cell K_p0.out 1).trans (cell3_1 _ _ _), (blk_cell K_p0.out 2).trans (cell3_2 _ _ _)⟩))
    | (go_at_call 13
       go_loud (refine (eqRatchet_same (tyRatchet.ord O_x0.out) (tyRatchet.ord O_t3.out) (Nat.le_refl _) (Nat.le_refl _)).mono ?_
                rintro e w13_ ⟨he, hb⟩
                subst he
                replace A0 := Lib.hid (tyRatchet.behind A0.out (hb.mono HB.out.size))
                replace A1 := Lib.hid (tyRatchet.behind A1.out (hb.mono HB.out.size))
                replace O_x0 := Lib.hid (tyRatchet.onext O_x0.out hb)
                replace E_x0 : Hid (∀ b, (ival w6_.heap.size w7_.heap.size) b → b < w13_.heap.size) := Lib.hid (fun b h => Nat.lt_of_lt_of_le (E_x0.out b h) hb.size)
                replace O_x1 := Lib.hid (tyRatchet.onext O_x1.out hb)
                replace E_x1 : Hid (∀ b, (ival w8_.heap.size w9_.heap.size) b → b < w13_.heap.size) := Lib.hid (fun b h => Nat.lt_of_lt_of_le (E_x1.out b h) hb.size)
                replace O_t3 := Lib.hid (tyRatchet.onext O_t3.out hb)
                replace E_t3 : Hid (∀ b, (ival w11_.drew.heap.size w12_.heap.size) b → b < w13_.heap.size) := Lib.hid (fun b h => Nat.lt_of_lt_of_le (E_t3.out b h) hb.size)
                replace K_p0 := Lib.hid ((hb.block _ (lt_of_block K_p0.out)).trans K_p0.out)
                replace K_p1 := Lib.hid ((hb.block _ (lt_of_block K_p1.out)).trans K_p1.out)
                replace K_x0 := Lib.hid ((hb.block _ (lt_of_block K_x0.out)).trans K_x0.out)
                replace K_x1 := Lib.hid ((hb.block _ (lt_of_block K_x1.out)).trans K_x1.out)
                replace HB := Lib.hid (HB.out.trans (hb.mono HB.out.size))
                clear hb
                have d2 : w13_.cell? ⟨w7_.heap.size, 0, none⟩ = some (.int .i64 s0.1) ∧ w13_.cell? ⟨w7_.heap.size, 1, none⟩ = some (.int .i64 s0.2.1) ∧ w13_.cell? ⟨w7_.heap.size, 2, none⟩ = some (.slice ax0_2 s0.2.2.length nx0_2) ∧ w13_.cell? ⟨w.heap.size, 0, none⟩ = some (.int .i64 s0.1) ∧ w13_.cell? ⟨w.heap.size, 1, none⟩ = some (.int .i64 s0.2.1) ∧ w13_.cell? ⟨w.heap.size, 2, none⟩ = some (.slice a0_2 s0.2.2.length n0_2) := ⟨(blk_cell K_x0.out 0).trans (cell3_0 _ _ _), (blk_cell K_x0.out 1).trans (cell3_1 _ _ _), (blk_cell K_x0.out 2).trans (cell3_2 _ _ _), (blk_cell K_p0.out 0).trans (cell3_0 _ _ _), (blk_cell K_p0.out 1).trans (cell3_1 _ _ _), (blk_cell K_p0.out 2).trans (cell3_2 _ _ _)⟩))))
  clear d0 d1 d2
  clear O_x0 E_x0 D_x0
  clear K_x0
  clear O_t3 E_t3 D_t3
  clear A0
  clear K_p0
  -- ('eq', 'Ratchet', ('own', 'x1'), ('copy', 1, 'Ratchet'))
  have k_p1_0 := blk_cell K_p1.out 0
  rw [cell3_0] at k_p1_0
  have k_p1_1 := blk_cell K_p1.out 1
  rw [cell3_1] at k_p1_1
  have k_p1_2 := blk_cell K_p1.out 2
  rw [cell3_2] at k_p1_2
  have k_x1_0 := blk_cell K_x1.out 0
  rw [cell3_0] at k_x1_0
  have k_x1_1 := blk_cell K_x1.out 1
  rw [cell3_1] at k_x1_1
  have k_x1_2 := blk_cell K_x1.out 2
  rw [cell3_2] at k_x1_2
  go_wp2_with fail
  clear k_p1_0 k_p1_1 k_p1_2 k_x1_0 k_x1_1 k_x1_2
  have hb : Below w13_.heap.size w13_ w13_.drew := (Below.refl _ _).drew
  replace A1 := Lib.hid (tyRatchet.behind A1.out (hb.mono HB.out.size))
  replace O_x1 := Lib.hid (tyRatchet.onext O_x1.out hb)
  replace E_x1 : Hid (∀ b, (ival w8_.heap.size w9_.heap.size) b → b < w13_.drew.heap.size) := Lib.hid (fun b h => Nat.lt_of_lt_of_le (E_x1.out b h) hb.size)
  replace K_p1 := Lib.hid ((hb.block _ (lt_of_block K_p1.out)).trans K_p1.out)
  replace K_x1 := Lib.hid ((hb.block _ (lt_of_block K_x1.out)).trans K_x1.out)
  replace HB := Lib.hid (HB.out.trans (hb.mono HB.out.size))
  clear hb
  have d0 : w13_.drew.cell? ⟨w9_.heap.size, 0, none⟩ = some (.int .i64 s1.1) ∧ w13_.drew.cell? ⟨w9_.heap.size, 1, none⟩ = some (.int .i64 s1.2.1) ∧ w13_.drew.cell? ⟨w9_.heap.size, 2, none⟩ = some (.slice ax1_2 s1.2.2.length nx1_2) ∧ w13_.drew.cell? ⟨w.heap.size + 1, 0, none⟩ = some (.int .i64 s1.1) ∧ w13_.drew.cell? ⟨w.heap.size + 1, 1, none⟩ = some (.int .i64 s1.2.1) ∧ w13_.drew.cell? ⟨w.heap.size + 1, 2, none⟩ = some (.slice a1_2 s1.2.2.length n1_2) := ⟨(blk_cell K_x1.out 0).trans (cell3_0 _ _ _), (blk_cell K_x1.out 1).trans (cell3_1 _ _ _), (blk_cell K_x1.out 2).trans (cell3_2 _ _ _), (blk_cell K_p1.out 0).trans (cell3_0 _ _ _), (blk_cell K_p1.out 1).trans (cell3_1 _ _ _), (blk_cell K_p1.out 2).trans (cell3_2 _ _ _)⟩
  go_region_held3 (fun w' => w'.cell? ⟨w9_.heap.size, 0, none⟩ = some (.int .i64 s1.1) ∧ w'.cell? ⟨w9_.heap.size, 1, none⟩ = some (.int .i64 s1.2.1) ∧ w'.cell? ⟨w9_.heap.size, 2, none⟩ = some (.slice ax1_2 s1.2.2.length nx1_2) ∧ w'.cell? ⟨w.heap.size + 1, 0, none⟩ = some (.int .i64 s1.1) ∧ w'.cell? ⟨w.heap.size + 1, 1, none⟩ = some (.int .i64 s1.2.1) ∧ w'.cell? ⟨w.heap.size + 1, 2, none⟩ = some (.slice a1_2 s1.2.2.length n1_2)) (first | assumption | go_keep) ((first
    | (go_at_call 18
       go_loud (refine (toRatchet_any A1.out HB.out.size (Nat.le_trans B1t.out (by decide))).mono ?_
                rintro e w14_ ⟨c_t4, he, hO_t4, hb⟩
                subst he
                have hF_t4 : ∀ b, (ival w13_.drew.heap.size w14_.heap.size) b → w13_.drew.heap.size ≤ b ∧ b < w14_.heap.size := fun b h => h
                obtain ⟨at4_2, nt4_2, _, rfl, _⟩ := own_Ratchet hO_t4
                have D_t4 : Hid (∀ b, (ival w13_.drew.heap.size w14_.heap.size) b → w.heap.size ≤ b) := Lib.hid (fun b h => Nat.le_trans HB.out.size (hF_t4 b h).1)
                replace A1 := Lib.hid (tyRatchet.behind A1.out (hb.mono HB.out.size))
                replace O_x1 := Lib.hid (tyRatchet.onext O_x1.out hb)
                replace E_x1 : Hid (∀ b, (ival w8_.heap.size w9_.heap.size) b → b < w14_.heap.size) := Lib.hid (fun b h => Nat.lt_of_lt_of_le (E_x1.out b h) hb.size)
                replace K_p1 := Lib.hid ((hb.block _ (lt_of_block K_p1.out)).trans K_p1.out)
                replace K_x1 := Lib.hid ((hb.block _ (lt_of_block K_x1.out)).trans K_x1.out)
                replace HB := Lib.hid (HB.out.trans (hb.mono HB.out.size))
                clear hb
                have O_t4 := Lib.hid hO_t4
                have E_t4 : Hid (∀ b, (ival w13_.drew.heap.size w14_.heap.size) b → b < w14_.heap.size) := Lib.hid (fun b h => (hF_t4 b h).2)
                clear hO_t4 hF_t4
                have d1 : w14_.cell? ⟨w9_.heap.size, 0, none⟩ = some (.int .i64 s1.1) ∧ w14_.cell? ⟨w9_.heap.size, 1, none⟩ = some (.int .i64 s1.2.1) ∧ w14_.cell? ⟨w9_.heap.size, 2, none⟩ = some (.slice ax1_2 s1.2.2.length nx1_2) ∧ w14_.cell? ⟨w.heap.size + 1, 0, none⟩ = some (.int .i64 s1.1) ∧ w14_.cell? ⟨w.heap.size + 1, 1, none⟩ = some (.int .i64 s1.2.1) ∧ w14_.cell? ⟨w.heap.size + 1, 2, none⟩ = some (.slice a1_2 s1.2.2.length n1_2) := ⟨(blk_cell K_x1.out 0).trans (cell3_0 _ _ _), (blk_cell K_x1.out 1).trans (cell3_1 _ _ _), (blk_cell K_x1.out 2).trans (cell3_2 _ _ _), (blk_cell K_p1.out 0).trans (cell3_0 _ _ _), (blk_cell K_p1.out 1).trans (cell3_1 _ _ _), (blk_cell K_p1.out 2).trans (cell3_2 _ _ _)⟩))
    | (go_at_call 13
       go_loud (refine (eqRatchet_same (tyRatchet.ord O_x1.out) (tyRatchet.ord O_t4.out) (Nat.le_refl _) (Nat.le_refl _)).mono ?_
                rintro e w15_ ⟨he, hb⟩
                subst he
                replace A1 := Lib.hid (tyRatchet.behind A1.out (hb.mono HB.out.size))
                replace O_x1 := Lib.hid (tyRatchet.onext O_x1.out hb)
                replace E_x1 : Hid (∀ b, (ival w8_.heap.size w9_.heap.size) b → b < w15_.heap.size) := Lib.hid (fun b h => Nat.lt_of_lt_of_le (E_x1.out b h) hb.size)
                replace O_t4 := Lib.hid (tyRatchet.onext O_t4.out hb)
                replace E_t4 : Hid (∀ b, (ival w13_.drew.heap.size w14_.heap.size) b → b < w15_.heap.size) := Lib.hid (fun b h => Nat.lt_of_lt_of_le (E_t4.out b h) hb.size)
                replace K_p1 := Lib.hid ((hb.block _ (lt_of_block K_p1.out)).trans K_p1.out)
                replace K_x1 := Lib.hid ((hb.block _ (lt_of_block K_x1.out)).trans K_x1.out)
                replace HB := Lib.hid (HB.out.trans (hb.mono HB.out.size))
                clear hb
                have d2 : w15_.cell? ⟨w9_.heap.size, 0, none⟩ = some (.int .i64 s1.1) ∧ w15_.cell? ⟨w9_.heap.size, 1, none⟩ = some (.int .i64 s1.2.1) ∧ w15_.cell? ⟨w9_.heap.size, 2, none⟩ = some (.slice ax1_2 s1.2.2.length nx1_2) ∧ w15_.cell? ⟨w.heap.size + 1, 0, none⟩ = some (.int .i64 s1.1) ∧ w15_.cell? ⟨w.heap.size + 1, 1, none⟩ = some (.int .i64 s1.2.1) ∧ w15_.cell? ⟨w.heap.size + 1, 2, none⟩ = some (.slice a1_2 s1.2.2.length n1_2) := ⟨(blk_cell K_x1.out 0).trans (cell3_0 _ _ _), (blk_cell K_x1.out 1).trans (cell3_1 _ _ _), (blk_cell K_x1.out 2).trans (cell3_2 _ _ _), (blk_cell K_p1.out 0).trans (cell3_0 _ _ _), (blk_cell K_p1.out 1).trans (cell3_1 _ _ _), (blk_cell K_p1.out 2).trans (cell3_2 _ _ _)⟩))))
  clear d0 d1 d2
  clear O_x1 E_x1 D_x1
  clear K_x1
  clear O_t4 E_t4 D_t4
  clear A1
  clear K_p1
  go_wp2_with fail
  go_ret
  exact ⟨rfl, HB.out⟩
  
end Go.Proofs.Ytjbkhbbchacooaa
