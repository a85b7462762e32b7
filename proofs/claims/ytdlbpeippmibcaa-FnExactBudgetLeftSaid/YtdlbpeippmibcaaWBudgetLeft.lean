/- FnExactBudgetLeft: the walk. No conditions. -/
import Derived.Test.YtdlbpeippmibcaaSpW
import Derived.Test.YtdlbpeippmibcaaCells
import Derived.Deep.RegionHeld3
import Derived.Deep.DeepCutAuto
namespace Go.Proofs.Ytdlbpeippmibcaa
open Go Go.RowKit
set_option linter.unusedVariables false
attribute [local irreducible] kh

set_option maxHeartbeats 4000000 in
set_option maxRecDepth 100000 in
theorem fnExactBudgetLeft_walk (c0 : List Value) (s0 : VSpentList) (v1 : Value) (s1 : List Int) (w : World) (w0 : tySpentList.rd w.heap.size w c0 s0) (w1 : (sliceT 3 i64T).rd w.heap.size w [v1] s1) :
    Calls Try.prog 11 #[.agg c0.toArray, v1] w fun e w' => e = .returned (.bool true) ∧ Below w.heap.size w w' := by
  obtain ⟨a0_1, n0_1, rfl, _⟩ := rd_SpentList w0
  have A0 := Lib.hid w0
  clear w0
  obtain ⟨av1, cv1, hv1, lv1, mv1, _⟩ := sl_open w1
  have hw1 := (List.cons.inj hv1).1
  clear hv1
  subst hw1
  unfold maxLen at mv1
  have A1 := Lib.hid w1
  clear w1
  by_cases by1 : (s1.length : Int) ≤ 1048576
  case neg =>
    have db1 : decide ((1048576 : Int) < (s1.length : Int)) = true := by simp; omega
    go_enter Try.func11, Try.ntmps11
    have hb := ((Below.refl w.heap.size w).alloc (Nat.le_refl _) (.cells #[.int .i64 s0.1, .slice a0_1 s0.2.length n0_1] 45))
    have K_p0 := Lib.hid (heap_alloc_new w (.cells #[.int .i64 s0.1, .slice a0_1 s0.2.length n0_1] 45))
    replace A0 := Lib.hid (tySpentList.behind A0.out hb)
    replace A1 := Lib.hid ((sliceT 3 i64T).behind A1.out hb)
    have HB := Lib.hid hb
    clear hb
    have k_p0_0 := blk_cell K_p0.out 0
    rw [cell2_0] at k_p0_0
    have k_p0_1 := blk_cell K_p0.out 1
    rw [cell2_1] at k_p0_1
    go_wp2_with fail
    clear k_p0_0 k_p0_1
    obtain ⟨w1_, hw⟩ : ∃ x, x = (w.alloc (.cells #[.int .i64 s0.1, .slice a0_1 s0.2.length n0_1] 45)) := ⟨_, rfl⟩
    rw [← hw] at HB A0 A1 K_p0 ⊢
    clear hw
    go_ret
    exact ⟨rfl, HB.out⟩
  have db1 : decide ((1048576 : Int) < (s1.length : Int)) = false := by simp; omega
  have B1t : Hid ((sliceT 3 i64T).tot s1 ≤ 1048576) := Lib.hid (by show totL (intT _ _ _) _ ≤ _; rw [totL_int]; omega)
  have L1t : Hid (s1.length ≤ 1048576) := Lib.hid (by omega)
  clear by1
  by_cases bz0 : (tySpentList.tot s0 : Int) ≤ (1048576 : Int)
  case neg =>
    have C0 := Lib.hid bz0
    clear bz0
    go_enter Try.func11, Try.ntmps11
    have hb := ((Below.refl w.heap.size w).alloc (Nat.le_refl _) (.cells #[.int .i64 s0.1, .slice a0_1 s0.2.length n0_1] 45))
    have K_p0 := Lib.hid (heap_alloc_new w (.cells #[.int .i64 s0.1, .slice a0_1 s0.2.length n0_1] 45))
    replace A0 := Lib.hid (tySpentList.behind A0.out hb)
    replace A1 := Lib.hid ((sliceT 3 i64T).behind A1.out hb)
    have HB := Lib.hid hb
    clear hb
    have k_p0_0 := blk_cell K_p0.out 0
    rw [cell2_0] at k_p0_0
    have k_p0_1 := blk_cell K_p0.out 1
    rw [cell2_1] at k_p0_1
    go_wp2_with fail
    clear k_p0_0 k_p0_1
    obtain ⟨w1_, hw⟩ : ∃ x, x = (w.alloc (.cells #[.int .i64 s0.1, .slice a0_1 s0.2.length n0_1] 45)) := ⟨_, rfl⟩
    rw [← hw] at HB A0 A1 K_p0 ⊢
    clear hw
    refine (szSpentList_any A0.out (by omega) (by omega) HB.out.size).mono ?_
    rintro e w2_ ⟨he, hb⟩
    rw [if_neg (by have := C0.out; omega)] at he
    subst he
    replace A0 := Lib.hid (tySpentList.behind A0.out (hb.mono HB.out.size))
    replace A1 := Lib.hid ((sliceT 3 i64T).behind A1.out (hb.mono HB.out.size))
    replace K_p0 := Lib.hid ((hb.block _ (lt_of_block K_p0.out)).trans K_p0.out)
    replace HB := Lib.hid (HB.out.trans (hb.mono HB.out.size))
    clear hb
    have k_p0_0 := blk_cell K_p0.out 0
    rw [cell2_0] at k_p0_0
    have k_p0_1 := blk_cell K_p0.out 1
    rw [cell2_1] at k_p0_1
    go_wp2_with fail
    clear k_p0_0 k_p0_1
    go_ret
    exact ⟨rfl, HB.out⟩
  have C0 := Lib.hid bz0
  obtain ⟨q0, hq0⟩ : ∃ q : Int, q = (1048576 : Int) - (tySpentList.tot s0 : Int) := ⟨_, rfl⟩
  have d0q : decide (q0 < 0) = false := by simp; omega
  have e0q : 0 ≤ q0 ∧ q0 ≤ 1048576 := by omega
  have B0t : Hid (tySpentList.tot s0 ≤ 1048576) := Lib.hid (by omega)
  have H0q := Lib.hid hq0
  clear hq0 bz0
  go_enter Try.func11, Try.ntmps11
  have hb := ((Below.refl w.heap.size w).alloc (Nat.le_refl _) (.cells #[.int .i64 s0.1, .slice a0_1 s0.2.length n0_1] 45))
  have K_p0 := Lib.hid (heap_alloc_new w (.cells #[.int .i64 s0.1, .slice a0_1 s0.2.length n0_1] 45))
  replace A0 := Lib.hid (tySpentList.behind A0.out hb)
  replace A1 := Lib.hid ((sliceT 3 i64T).behind A1.out hb)
  have HB := Lib.hid hb
  clear hb
  have k_p0_0 := blk_cell K_p0.out 0
  rw [cell2_0] at k_p0_0
  have k_p0_1 := blk_cell K_p0.out 1
  rw [cell2_1] at k_p0_1
  go_wp2_with fail
  clear k_p0_0 k_p0_1
  obtain ⟨w1_, hw⟩ : ∃ x, x = (w.alloc (.cells #[.int .i64 s0.1, .slice a0_1 s0.2.length n0_1] 45)) := ⟨_, rfl⟩
  rw [← hw] at HB A0 A1 K_p0 ⊢
  clear hw
  refine (szSpentList_any A0.out (by omega) (by omega) HB.out.size).mono ?_
  rintro e w2_ ⟨he, hb⟩
  rw [if_pos (by have := C0.out; omega), ← H0q.out] at he
  subst he
  replace A0 := Lib.hid (tySpentList.behind A0.out (hb.mono HB.out.size))
  replace A1 := Lib.hid ((sliceT 3 i64T).behind A1.out (hb.mono HB.out.size))
  replace K_p0 := Lib.hid ((hb.block _ (lt_of_block K_p0.out)).trans K_p0.out)
  replace HB := Lib.hid (HB.out.trans (hb.mono HB.out.size))
  clear hb
  -- ('big', 1)
  -- ('sz', 0)
  -- ('call', 'spec', 'BudgetLeft', [('copy', 0, 'SpentList'), ('copy', 1, '[]int')], ['w0'])
  have k_p0_0 := blk_cell K_p0.out 0
  rw [cell2_0] at k_p0_0
  have k_p0_1 := blk_cell K_p0.out 1
  rw [cell2_1] at k_p0_1
  go_wp2_with fail
  clear k_p0_0 k_p0_1
  refine (toSpentList_any A0.out HB.out.size (Nat.le_trans B0t.out (by decide))).mono ?_
  rintro e w3_ ⟨c_t1, he, hO_t1, hb⟩
  subst he
  have hF_t1 : ∀ b, (ival w2_.heap.size w3_.heap.size) b → w2_.heap.size ≤ b ∧ b < w3_.heap.size := fun b h => h
  obtain ⟨at1_1, nt1_1, _, rfl, _⟩ := own_SpentList hO_t1
  have D_t1 : Hid (∀ b, (ival w2_.heap.size w3_.heap.size) b → w.heap.size ≤ b) := Lib.hid (fun b h => Nat.le_trans HB.out.size (hF_t1 b h).1)
  replace A0 := Lib.hid (tySpentList.behind A0.out (hb.mono HB.out.size))
  replace A1 := Lib.hid ((sliceT 3 i64T).behind A1.out (hb.mono HB.out.size))
  replace K_p0 := Lib.hid ((hb.block _ (lt_of_block K_p0.out)).trans K_p0.out)
  replace HB := Lib.hid (HB.out.trans (hb.mono HB.out.size))
  clear hb
  have O_t1 := Lib.hid hO_t1
  have E_t1 : Hid (∀ b, (ival w2_.heap.size w3_.heap.size) b → b < w3_.heap.size) := Lib.hid (fun b h => (hF_t1 b h).2)
  clear hO_t1 hF_t1
  have k_p0_0 := blk_cell K_p0.out 0
  rw [cell2_0] at k_p0_0
  have k_p0_1 := blk_cell K_p0.out 1
  rw [cell2_1] at k_p0_1
  go_wp2_with fail
  clear k_p0_0 k_p0_1
  refine (toIntS_t A1.out HB.out.size (Nat.le_trans B1t.out (by decide))).mono ?_
  rintro e w4_ ⟨v_t2, he, hO_t2, hb⟩
  subst he
  have hF_t2 : ∀ b, (ival w3_.heap.size w4_.heap.size) b → w3_.heap.size ≤ b ∧ b < w4_.heap.size := fun b h => h
  have D_t2 : Hid (∀ b, (ival w3_.heap.size w4_.heap.size) b → w.heap.size ≤ b) := Lib.hid (fun b h => Nat.le_trans HB.out.size (hF_t2 b h).1)
  replace A0 := Lib.hid (tySpentList.behind A0.out (hb.mono HB.out.size))
  replace A1 := Lib.hid ((sliceT 3 i64T).behind A1.out (hb.mono HB.out.size))
  replace O_t1 := Lib.hid (tySpentList.onext O_t1.out hb)
  replace E_t1 : Hid (∀ b, (ival w2_.heap.size w3_.heap.size) b → b < w4_.heap.size) := Lib.hid (fun b h => Nat.lt_of_lt_of_le (E_t1.out b h) hb.size)
  replace K_p0 := Lib.hid ((hb.block _ (lt_of_block K_p0.out)).trans K_p0.out)
  replace HB := Lib.hid (HB.out.trans (hb.mono HB.out.size))
  clear hb
  have O_t2 := Lib.hid hO_t2
  have E_t2 : Hid (∀ b, (ival w3_.heap.size w4_.heap.size) b → b < w4_.heap.size) := Lib.hid (fun b h => (hF_t2 b h).2)
  clear hO_t2 hF_t2
  have k_p0_0 := blk_cell K_p0.out 0
  rw [cell2_0] at k_p0_0
  have k_p0_1 := blk_cell K_p0.out 1
  rw [cell2_1] at k_p0_1
  go_wp2_with fail
  clear k_p0_0 k_p0_1
  refine (spec_bud_t (tySpentList.ord O_t1.out) (Nat.le_refl _) ((sliceT 3 i64T).ord O_t2.out) (Nat.le_refl _)).mono ?_
  obtain ⟨Y0, hY0⟩ : ∃ y : Int, y = ((budL s0.2 s1 s1.length : Nat) : Int) := ⟨_, rfl⟩
  rintro e w5_ ⟨he, hb⟩
  rw [← hY0] at he
  have HY0 := Lib.hid hY0
  clear hY0
  subst he
  replace A0 := Lib.hid (tySpentList.behind A0.out (hb.mono HB.out.size))
  replace A1 := Lib.hid ((sliceT 3 i64T).behind A1.out (hb.mono HB.out.size))
  replace O_t1 := Lib.hid (tySpentList.onext O_t1.out hb)
  replace E_t1 : Hid (∀ b, (ival w2_.heap.size w3_.heap.size) b → b < w5_.heap.size) := Lib.hid (fun b h => Nat.lt_of_lt_of_le (E_t1.out b h) hb.size)
  replace O_t2 := Lib.hid ((sliceT 3 i64T).onext O_t2.out hb)
  replace E_t2 : Hid (∀ b, (ival w3_.heap.size w4_.heap.size) b → b < w5_.heap.size) := Lib.hid (fun b h => Nat.lt_of_lt_of_le (E_t2.out b h) hb.size)
  replace K_p0 := Lib.hid ((hb.block _ (lt_of_block K_p0.out)).trans K_p0.out)
  replace HB := Lib.hid (HB.out.trans (hb.mono HB.out.size))
  clear hb
  clear O_t1 E_t1 D_t1
  clear O_t2 E_t2 D_t2
  -- ('copy', 'x0', 0, 'SpentList')
  have k_p0_0 := blk_cell K_p0.out 0
  rw [cell2_0] at k_p0_0
  have k_p0_1 := blk_cell K_p0.out 1
  rw [cell2_1] at k_p0_1
  go_wp2_with fail
  clear k_p0_0 k_p0_1
  refine (toSpentList_any A0.out HB.out.size (Nat.le_trans B0t.out (by decide))).mono ?_
  rintro e w6_ ⟨c_x0, he, hO_x0, hb⟩
  subst he
  have hF_x0 : ∀ b, (ival w5_.heap.size w6_.heap.size) b → w5_.heap.size ≤ b ∧ b < w6_.heap.size := fun b h => h
  obtain ⟨ax0_1, nx0_1, _, rfl, _⟩ := own_SpentList hO_x0
  have D_x0 : Hid (∀ b, (ival w5_.heap.size w6_.heap.size) b → w.heap.size ≤ b) := Lib.hid (fun b h => Nat.le_trans HB.out.size (hF_x0 b h).1)
  replace A0 := Lib.hid (tySpentList.behind A0.out (hb.mono HB.out.size))
  replace A1 := Lib.hid ((sliceT 3 i64T).behind A1.out (hb.mono HB.out.size))
  replace K_p0 := Lib.hid ((hb.block _ (lt_of_block K_p0.out)).trans K_p0.out)
  replace HB := Lib.hid (HB.out.trans (hb.mono HB.out.size))
  clear hb
  have O_x0 := Lib.hid hO_x0
  have E_x0 : Hid (∀ b, (ival w5_.heap.size w6_.heap.size) b → b < w6_.heap.size) := Lib.hid (fun b h => (hF_x0 b h).2)
  clear hO_x0 hF_x0
  have hb : Below w6_.heap.size w6_ (w6_.alloc (.cells #[.int .i64 s0.1, .slice ax0_1 s0.2.length nx0_1] 26)) := (Below.refl _ _).alloc (Nat.le_refl _) _
  replace A0 := Lib.hid (tySpentList.behind A0.out (hb.mono HB.out.size))
  replace A1 := Lib.hid ((sliceT 3 i64T).behind A1.out (hb.mono HB.out.size))
  replace O_x0 := Lib.hid (tySpentList.onext O_x0.out hb)
  replace E_x0 : Hid (∀ b, (ival w5_.heap.size w6_.heap.size) b → b < (w6_.alloc (.cells #[.int .i64 s0.1, .slice ax0_1 s0.2.length nx0_1] 26)).heap.size) := Lib.hid (fun b h => Nat.lt_of_lt_of_le (E_x0.out b h) hb.size)
  replace K_p0 := Lib.hid ((hb.block _ (lt_of_block K_p0.out)).trans K_p0.out)
  replace HB := Lib.hid (HB.out.trans (hb.mono HB.out.size))
  clear hb
  have K_x0 := Lib.hid (heap_alloc_new w6_ (.cells #[.int .i64 s0.1, .slice ax0_1 s0.2.length nx0_1] 26))
  have k_p0_0 := blk_cell K_p0.out 0
  rw [cell2_0] at k_p0_0
  have k_p0_1 := blk_cell K_p0.out 1
  rw [cell2_1] at k_p0_1
  have k_x0_0 := blk_cell K_x0.out 0
  rw [cell2_0] at k_x0_0
  have k_x0_1 := blk_cell K_x0.out 1
  rw [cell2_1] at k_x0_1
  go_wp2_with fail
  clear k_p0_0 k_p0_1 k_x0_0 k_x0_1
  obtain ⟨w7_, hw⟩ : ∃ x, x = w6_.alloc (.cells #[.int .i64 s0.1, .slice ax0_1 s0.2.length nx0_1] 26) := ⟨_, rfl⟩
  rw [← hw] at HB A0 A1 O_x0 E_x0 K_p0 K_x0 ⊢
  clear hw
  -- ('copy', 'x1', 1, '[]int')
  refine (toIntS_t A1.out HB.out.size (Nat.le_trans B1t.out (by decide))).mono ?_
  rintro e w8_ ⟨v_x1, he, hO_x1, hb⟩
  subst he
  have hF_x1 : ∀ b, (ival w7_.heap.size w8_.heap.size) b → w7_.heap.size ≤ b ∧ b < w8_.heap.size := fun b h => h
  have D_x1 : Hid (∀ b, (ival w7_.heap.size w8_.heap.size) b → w.heap.size ≤ b) := Lib.hid (fun b h => Nat.le_trans HB.out.size (hF_x1 b h).1)
  replace A0 := Lib.hid (tySpentList.behind A0.out (hb.mono HB.out.size))
  replace A1 := Lib.hid ((sliceT 3 i64T).behind A1.out (hb.mono HB.out.size))
  replace O_x0 := Lib.hid (tySpentList.onext O_x0.out hb)
  replace E_x0 : Hid (∀ b, (ival w5_.heap.size w6_.heap.size) b → b < w8_.heap.size) := Lib.hid (fun b h => Nat.lt_of_lt_of_le (E_x0.out b h) hb.size)
  replace K_p0 := Lib.hid ((hb.block _ (lt_of_block K_p0.out)).trans K_p0.out)
  replace K_x0 := Lib.hid ((hb.block _ (lt_of_block K_x0.out)).trans K_x0.out)
  replace HB := Lib.hid (HB.out.trans (hb.mono HB.out.size))
  clear hb
  have O_x1 := Lib.hid hO_x1
  have E_x1 : Hid (∀ b, (ival w7_.heap.size w8_.heap.size) b → b < w8_.heap.size) := Lib.hid (fun b h => (hF_x1 b h).2)
  clear hO_x1 hF_x1
  -- ('call', 'impl', 'BudgetLeft', [('own', 'x0'), ('own', 'x1')], ['g0'])
  have k_p0_0 := blk_cell K_p0.out 0
  rw [cell2_0] at k_p0_0
  have k_p0_1 := blk_cell K_p0.out 1
  rw [cell2_1] at k_p0_1
  have k_x0_0 := blk_cell K_x0.out 0
  rw [cell2_0] at k_x0_0
  have k_x0_1 := blk_cell K_x0.out 1
  rw [cell2_1] at k_x0_1
  go_wp2_with fail
  clear k_p0_0 k_p0_1 k_x0_0 k_x0_1
  refine (impl_bud_t (tySpentList.ord O_x0.out) (Nat.le_refl _) ((sliceT 3 i64T).ord O_x1.out) (Nat.le_refl _)).mono ?_
  rintro e w9_ ⟨he, hb⟩
  rw [← HY0.out] at he
  subst he
  replace A0 := Lib.hid (tySpentList.behind A0.out (hb.mono HB.out.size))
  replace A1 := Lib.hid ((sliceT 3 i64T).behind A1.out (hb.mono HB.out.size))
  replace O_x0 := Lib.hid (tySpentList.onext O_x0.out hb)
  replace E_x0 : Hid (∀ b, (ival w5_.heap.size w6_.heap.size) b → b < w9_.heap.size) := Lib.hid (fun b h => Nat.lt_of_lt_of_le (E_x0.out b h) hb.size)
  replace O_x1 := Lib.hid ((sliceT 3 i64T).onext O_x1.out hb)
  replace E_x1 : Hid (∀ b, (ival w7_.heap.size w8_.heap.size) b → b < w9_.heap.size) := Lib.hid (fun b h => Nat.lt_of_lt_of_le (E_x1.out b h) hb.size)
  replace K_p0 := Lib.hid ((hb.block _ (lt_of_block K_p0.out)).trans K_p0.out)
  replace K_x0 := Lib.hid ((hb.block _ (lt_of_block K_x0.out)).trans K_x0.out)
  replace HB := Lib.hid (HB.out.trans (hb.mono HB.out.size))
  clear hb
  -- ('eq', 'SpentList', ('own', 'x0'), ('copy', 0, 'SpentList'))
  have k_p0_0 := blk_cell K_p0.out 0
  rw [cell2_0] at k_p0_0
  have k_p0_1 := blk_cell K_p0.out 1
  rw [cell2_1] at k_p0_1
  have k_x0_0 := blk_cell K_x0.out 0
  rw [cell2_0] at k_x0_0
  have k_x0_1 := blk_cell K_x0.out 1
  rw [cell2_1] at k_x0_1
  go_wp2_with fail
  clear k_p0_0 k_p0_1 k_x0_0 k_x0_1
  have hb : Below w9_.heap.size w9_ w9_.drew := (Below.refl _ _).drew
  replace A0 := Lib.hid (tySpentList.behind A0.out (hb.mono HB.out.size))
  replace A1 := Lib.hid ((sliceT 3 i64T).behind A1.out (hb.mono HB.out.size))
  replace O_x0 := Lib.hid (tySpentList.onext O_x0.out hb)
  replace E_x0 : Hid (∀ b, (ival w5_.heap.size w6_.heap.size) b → b < w9_.drew.heap.size) := Lib.hid (fun b h => Nat.lt_of_lt_of_le (E_x0.out b h) hb.size)
  replace O_x1 := Lib.hid ((sliceT 3 i64T).onext O_x1.out hb)
  replace E_x1 : Hid (∀ b, (ival w7_.heap.size w8_.heap.size) b → b < w9_.drew.heap.size) := Lib.hid (fun b h => Nat.lt_of_lt_of_le (E_x1.out b h) hb.size)
  replace K_p0 := Lib.hid ((hb.block _ (lt_of_block K_p0.out)).trans K_p0.out)
  replace K_x0 := Lib.hid ((hb.block _ (lt_of_block K_x0.out)).trans K_x0.out)
  replace HB := Lib.hid (HB.out.trans (hb.mono HB.out.size))
  clear hb
  have d0 : w9_.drew.cell? ⟨w6_.heap.size, 0, none⟩ = some (.int .i64 s0.1) ∧ w9_.drew.cell? ⟨w6_.heap.size, 1, none⟩ = some (.slice ax0_1 s0.2.length nx0_1) ∧ w9_.drew.cell? ⟨w.heap.size, 0, none⟩ = some (.int .i64 s0.1) ∧ w9_.drew.cell? ⟨w.heap.size, 1, none⟩ = some (.slice a0_1 s0.2.length n0_1) := ⟨(blk_cell K_x0.out 0).trans (cell2_0 _ _), (blk_cell K_x0.out 1).trans (cell2_1 _ _), (blk_cell K_p0.out 0).trans (cell2_0 _ _), (blk_cell K_p0.out 1).trans (cell2_1 _ _)⟩
  go_region_held3 (fun w' => w'.cell? ⟨w6_.heap.size, 0, none⟩ = some (.int .i64 s0.1) ∧ w'.cell? ⟨w6_.heap.size, 1, none⟩ = some (.slice ax0_1 s0.2.length nx0_1) ∧ w'.cell? ⟨w.heap.size, 0, none⟩ = some (.int .i64 s0.1) ∧ w'.cell? ⟨w.heap.size, 1, none⟩ = some (.slice a0_1 s0.2.length n0_1)) (first | assumption | go_keep) ((first
    | (go_at_call 34
       go_loud (refine (toSpentList_any A0.out HB.out.size (Nat.le_trans B0t.out (by decide))).mono ?_
                rintro e w10_ ⟨c_t3, he, hO_t3, hb⟩
                subst he
                have hF_t3 : ∀ b, (ival w9_.drew.heap.size w10_.heap.size) b → w9_.drew.heap.size ≤ b ∧ b < w10_.heap.size := fun b h => h
                obtain ⟨at3_1, nt3_1, _, rfl, _⟩ := own_SpentList hO_t3
                have D_t3 : Hid (∀ b, (ival w9_.drew.heap.size w10_.heap.size) b → w.heap.size ≤ b) := Lib.hid (fun b h => Nat.le_trans HB.out.size (hF_t3 b h).1)
                replace A0 := Lib.hid (tySpentList.behind A0.out (hb.mono HB.out.size))
                replace A1 := Lib.hid ((sliceT 3 i64T).behind A1.out (hb.mono HB.out.size))
                replace O_x0 := Lib.hid (tySpentList.onext O_x0.out hb)
                replace E_x0 : Hid (∀ b, (ival w5_.heap.size w6_.heap.size) b → b < w10_.heap.size) := Lib.hid (fun b h => Nat.lt_of_lt_of_le (E_x0.out b h) hb.size)
                replace O_x1 := Lib.hid ((sliceT 3 i64T).onext O_x1.out hb)
                replace E_x1 : Hid (∀ b, (ival w7_.heap.size w8_.heap.size) b → b < w10_.heap.size) := Lib.hid (fun b h => Nat.lt_of_lt_of_le (E_x1.out b h) hb.size)
                replace K_p0 := Lib.hid ((hb.block _ (lt_of_block K_p0.out)).trans K_p0.out)
                replace K_x0 := Lib.hid ((hb.block _ (lt_of_block K_x0.out)).trans K_x0.out)
                replace HB := Lib.hid (HB.out.trans (hb.mono HB.out.size))
                clear hb
                have O_t3 := Lib.hid hO_t3
                have E_t3 : Hid (∀ b, (ival w9_.drew.heap.size w10_.heap.size) b → b < w10_.heap.size) := Lib.hid (fun b h => (hF_t3 b h).2)
                clear hO_t3 hF_t3
                have d1 : w10_.cell? ⟨w6_.heap.size, 0, none⟩ = some (.int .i64 s0.1) ∧ w10_.cell? ⟨w6_.heap.size, 1, none⟩ = some (.slice ax0_1 s0.2.length nx0_1) ∧ w10_.cell? ⟨w.heap.size, 0, none⟩ = some (.int .i64 s0.1) ∧ w10_.cell? ⟨w.heap.size, 1, none⟩ = some (.slice a0_1 s0.2.length n0_1) := ⟨(blk_cell K_x0.out 0).trans (cell2_0 _ _), (blk_cell K_x0.out 1).trans (cell2_1 _ _), (blk_cell K_p0.out 0).trans (cell2_0 _ _), (blk_cell K_p0.out 1).trans (cell2_1 _ _)⟩))
    | (go_at_call 30
       go_loud (refine (eqSpentList_same (tySpentList.ord O_x0.out) (tySpentList.ord O_t3.out) (Nat.le_refl _) (Nat.le_refl _)).mono ?_
                rintro e w11_ ⟨he, hb⟩
                subst he
                replace A0 := Lib.hid (tySpentList.behind A0.out (hb.mono HB.out.size))
                replace A1 := Lib.hid ((sliceT 3 i64T).behind A1.out (hb.mono HB.out.size))
                replace O_x0 := Lib.hid (tySpentList.onext O_x0.out hb)
                replace E_x0 : Hid (∀ b, (ival w5_.heap.size w6_.heap.size) b → b < w11_.heap.size) := Lib.hid (fun b h => Nat.lt_of_lt_of_le (E_x0.out b h) hb.size)
                replace O_x1 := Lib.hid ((sliceT 3 i64T).onext O_x1.out hb)
                replace E_x1 : Hid (∀ b, (ival w7_.heap.size w8_.heap.size) b → b < w11_.heap.size) := Lib.hid (fun b h => Nat.lt_of_lt_of_le (E_x1.out b h) hb.size)
                replace O_t3 := Lib.hid (tySpentList.onext O_t3.out hb)
                replace E_t3 : Hid (∀ b, (ival w9_.drew.heap.size w10_.heap.size) b → b < w11_.heap.size) := Lib.hid (fun b h => Nat.lt_of_lt_of_le (E_t3.out b h) hb.size)
                replace K_p0 := Lib.hid ((hb.block _ (lt_of_block K_p0.out)).trans K_p0.out)
                replace K_x0 := Lib.hid ((hb.block _ (lt_of_block K_x0.out)).trans K_x0.out)
                replace HB := Lib.hid (HB.out.trans (hb.mono HB.out.size))
                clear hb
                have d2 : w11_.cell? ⟨w6_.heap.size, 0, none⟩ = some (.int .i64 s0.1) ∧ w11_.cell? ⟨w6_.heap.size, 1, none⟩ = some (.slice ax0_1 s0.2.length nx0_1) ∧ w11_.cell? ⟨w.heap.size, 0, none⟩ = some (.int .i64 s0.1) ∧ w11_.cell? ⟨w.heap.size, 1, none⟩ = some (.slice a0_1 s0.2.length n0_1) := ⟨(blk_cell K_x0.out 0).trans (cell2_0 _ _), (blk_cell K_x0.out 1).trans (cell2_1 _ _), (blk_cell K_p0.out 0).trans (cell2_0 _ _), (blk_cell K_p0.out 1).trans (cell2_1 _ _)⟩))))
  clear d0 d1 d2
  clear O_x0 E_x0 D_x0
  clear K_x0
  clear O_t3 E_t3 D_t3
  clear A0
  clear K_p0
  -- ('eq', '[]int', ('own', 'x1'), ('copy', 1, '[]int'))
  go_wp2_with fail
  refine (toIntS_t A1.out HB.out.size (Nat.le_trans B1t.out (by decide))).mono ?_
  rintro e w12_ ⟨v_t4, he, hO_t4, hb⟩
  subst he
  have hF_t4 : ∀ b, (ival w11_.heap.size w12_.heap.size) b → w11_.heap.size ≤ b ∧ b < w12_.heap.size := fun b h => h
  have D_t4 : Hid (∀ b, (ival w11_.heap.size w12_.heap.size) b → w.heap.size ≤ b) := Lib.hid (fun b h => Nat.le_trans HB.out.size (hF_t4 b h).1)
  replace A1 := Lib.hid ((sliceT 3 i64T).behind A1.out (hb.mono HB.out.size))
  replace O_x1 := Lib.hid ((sliceT 3 i64T).onext O_x1.out hb)
  replace E_x1 : Hid (∀ b, (ival w7_.heap.size w8_.heap.size) b → b < w12_.heap.size) := Lib.hid (fun b h => Nat.lt_of_lt_of_le (E_x1.out b h) hb.size)
  replace HB := Lib.hid (HB.out.trans (hb.mono HB.out.size))
  clear hb
  have O_t4 := Lib.hid hO_t4
  have E_t4 : Hid (∀ b, (ival w11_.heap.size w12_.heap.size) b → b < w12_.heap.size) := Lib.hid (fun b h => (hF_t4 b h).2)
  clear hO_t4 hF_t4
  go_wp2_with fail
  refine (eqIntS_same_t ((sliceT 3 i64T).ord O_x1.out) ((sliceT 3 i64T).ord O_t4.out) (Nat.le_refl _) (Nat.le_refl _)).mono ?_
  rintro e w13_ ⟨he, hb⟩
  subst he
  replace A1 := Lib.hid ((sliceT 3 i64T).behind A1.out (hb.mono HB.out.size))
  replace O_x1 := Lib.hid ((sliceT 3 i64T).onext O_x1.out hb)
  replace E_x1 : Hid (∀ b, (ival w7_.heap.size w8_.heap.size) b → b < w13_.heap.size) := Lib.hid (fun b h => Nat.lt_of_lt_of_le (E_x1.out b h) hb.size)
  replace O_t4 := Lib.hid ((sliceT 3 i64T).onext O_t4.out hb)
  replace E_t4 : Hid (∀ b, (ival w11_.heap.size w12_.heap.size) b → b < w13_.heap.size) := Lib.hid (fun b h => Nat.lt_of_lt_of_le (E_t4.out b h) hb.size)
  replace HB := Lib.hid (HB.out.trans (hb.mono HB.out.size))
  clear hb
  clear O_x1 E_x1 D_x1
  clear O_t4 E_t4 D_t4
  clear A1
  go_wp2_with fail
  go_ret
  exact ⟨rfl, HB.out⟩
  
end Go.Proofs.Ytdlbpeippmibcaa
