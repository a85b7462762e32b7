/- FnExactOpenInvitation: the walk. No conditions. -/
import Derived.Test.YtlhpjfhglkngfaaDoorDlX
import Derived.Test.YtlhpjfhglkngfaaDoorCells
import Derived.Deep.RegionHeld3
import Derived.Deep.DeepCutAuto
namespace Go.Proofs.YtlhpjfhglkngfaaDoor
open Go Go.RowKit
set_option linter.unusedVariables false
attribute [local irreducible] kh

set_option maxHeartbeats 4000000 in
set_option maxRecDepth 100000 in
theorem fnExactOpenInvitation_walk (c0 : List Value) (s0 : VIdentity) (v1 : Value) (s1 : List Int) (a2 : Int) (v3 : Value) (s3 : List Int) (w : World) (w0 : tyIdentity.rd w.heap.size w c0 s0) (w1 : (sliceT 3 i64T).rd w.heap.size w [v1] s1) (w2 : (Lit.int .i64 a2).wf = true) (w3 : (sliceT 5 u8T).rd w.heap.size w [v3] s3) (hL : laidMetH Tryd.prog Rows.fnExactOpenInvitationRow.laid w) :
    Calls Tryd.prog 4 #[.agg c0.toArray, v1, .int .i64 a2, v3] w fun e w' => e = .returned (.bool true) ∧ Below w.heap.size w w' := by
  have HL := Lib.hid (gvn_of_laid hL)
  clear hL
  obtain ⟨rfl, _⟩ := rd_Identity w0
  have A0 := Lib.hid w0
  clear w0
  obtain ⟨av1, cv1, hv1, lv1, mv1, _⟩ := sl_open w1
  have hw1 := (List.cons.inj hv1).1
  clear hv1
  subst hw1
  unfold maxLen at mv1
  have A1 := Lib.hid w1
  clear w1
  obtain ⟨av3, cv3, hv3, lv3, mv3, _⟩ := sl_open w3
  have hw3 := (List.cons.inj hv3).1
  clear hv3
  subst hw3
  unfold maxLen at mv3
  have A3 := Lib.hid w3
  clear w3
  have W2 := Lib.hid w2
  have w2b := wf_i64 w2
  clear w2
  by_cases by1 : (s1.length : Int) ≤ 1048576
  case neg =>
    have db1 : decide ((1048576 : Int) < (s1.length : Int)) = true := by simp; omega
    go_enter Tryd.func4, Tryd.ntmps4
    have hb := ((Below.refl w.heap.size w).alloc (Nat.le_refl _) (.cells #[.int .i64 s0.1, .int .i64 s0.2] 39))
    have K_p0 := Lib.hid (heap_alloc_new w (.cells #[.int .i64 s0.1, .int .i64 s0.2] 39))
    replace A0 := Lib.hid (tyIdentity.behind A0.out hb)
    replace A1 := Lib.hid ((sliceT 3 i64T).behind A1.out hb)
    replace A3 := Lib.hid ((sliceT 5 u8T).behind A3.out hb)
    have HB := Lib.hid hb
    clear hb
    have k_p0_0 := blk_cell K_p0.out 0
    rw [cell2_0] at k_p0_0
    have k_p0_1 := blk_cell K_p0.out 1
    rw [cell2_1] at k_p0_1
    go_wp2_with fail
    clear k_p0_0 k_p0_1
    obtain ⟨w1_, hw⟩ : ∃ x, x = (w.alloc (.cells #[.int .i64 s0.1, .int .i64 s0.2] 39)) := ⟨_, rfl⟩
    rw [← hw] at HB A0 A1 A3 K_p0 ⊢
    clear hw
    go_ret
    exact ⟨rfl, HB.out⟩
  have db1 : decide ((1048576 : Int) < (s1.length : Int)) = false := by simp; omega
  have B1t : Hid ((sliceT 3 i64T).tot s1 ≤ 1048576) := Lib.hid (by show totL (intT _ _ _) _ ≤ _; rw [totL_int]; omega)
  have L1t : Hid (s1.length ≤ 1048576) := Lib.hid (by omega)
  clear by1
  by_cases by3 : (s3.length : Int) ≤ 1048576
  case neg =>
    have db3 : decide ((1048576 : Int) < (s3.length : Int)) = true := by simp; omega
    go_enter Tryd.func4, Tryd.ntmps4
    have hb := ((Below.refl w.heap.size w).alloc (Nat.le_refl _) (.cells #[.int .i64 s0.1, .int .i64 s0.2] 39))
    have K_p0 := Lib.hid (heap_alloc_new w (.cells #[.int .i64 s0.1, .int .i64 s0.2] 39))
    replace A0 := Lib.hid (tyIdentity.behind A0.out hb)
    replace A1 := Lib.hid ((sliceT 3 i64T).behind A1.out hb)
    replace A3 := Lib.hid ((sliceT 5 u8T).behind A3.out hb)
    have HB := Lib.hid hb
    clear hb
    have k_p0_0 := blk_cell K_p0.out 0
    rw [cell2_0] at k_p0_0
    have k_p0_1 := blk_cell K_p0.out 1
    rw [cell2_1] at k_p0_1
    go_wp2_with fail
    clear k_p0_0 k_p0_1
    obtain ⟨w1_, hw⟩ : ∃ x, x = (w.alloc (.cells #[.int .i64 s0.1, .int .i64 s0.2] 39)) := ⟨_, rfl⟩
    rw [← hw] at HB A0 A1 A3 K_p0 ⊢
    clear hw
    go_ret
    exact ⟨rfl, HB.out⟩
  have db3 : decide ((1048576 : Int) < (s3.length : Int)) = false := by simp; omega
  have B3t : Hid ((sliceT 5 u8T).tot s3 ≤ 1048576) := Lib.hid (by show totL (intT _ _ _) _ ≤ _; rw [totL_int]; omega)
  have L3t : Hid (s3.length ≤ 1048576) := Lib.hid (by omega)
  clear by3
  go_enter Tryd.func4, Tryd.ntmps4
  have hb := ((Below.refl w.heap.size w).alloc (Nat.le_refl _) (.cells #[.int .i64 s0.1, .int .i64 s0.2] 39))
  have K_p0 := Lib.hid (heap_alloc_new w (.cells #[.int .i64 s0.1, .int .i64 s0.2] 39))
  replace A0 := Lib.hid (tyIdentity.behind A0.out hb)
  replace A1 := Lib.hid ((sliceT 3 i64T).behind A1.out hb)
  replace A3 := Lib.hid ((sliceT 5 u8T).behind A3.out hb)
  have HB := Lib.hid hb
  clear hb
  have k_p0_0 := blk_cell K_p0.out 0
  rw [cell2_0] at k_p0_0
  have k_p0_1 := blk_cell K_p0.out 1
  rw [cell2_1] at k_p0_1
  go_wp2_with fail
  clear k_p0_0 k_p0_1
  obtain ⟨w1_, hw⟩ : ∃ x, x = (w.alloc (.cells #[.int .i64 s0.1, .int .i64 s0.2] 39)) := ⟨_, rfl⟩
  rw [← hw] at HB A0 A1 A3 K_p0 ⊢
  clear hw
  -- ('big', 1)
  -- ('big', 3)
  -- ('call', 'spec', 'OpenInvitation', [('copy', 0, 'Identity'), ('copy', 1, '[]int'), ('arg', 2), ('copy', 3, '[]byte')], ['w0', 'w1', 'w2'])
  refine (toIdentity_any A0.out HB.out.size (show (0 : Nat) ≤ 1073741824 by decide)).mono ?_
  rintro e w2_ ⟨c_t1, he, hO_t1, hb⟩
  subst he
  have hF_t1 : ∀ b, (ival w1_.heap.size w2_.heap.size) b → w1_.heap.size ≤ b ∧ b < w2_.heap.size := fun b h => h
  obtain ⟨rfl, _⟩ := own_Identity hO_t1
  have D_t1 : Hid (∀ b, (ival w1_.heap.size w2_.heap.size) b → w.heap.size ≤ b) := Lib.hid (fun b h => Nat.le_trans HB.out.size (hF_t1 b h).1)
  replace A0 := Lib.hid (tyIdentity.behind A0.out (hb.mono HB.out.size))
  replace A1 := Lib.hid ((sliceT 3 i64T).behind A1.out (hb.mono HB.out.size))
  replace A3 := Lib.hid ((sliceT 5 u8T).behind A3.out (hb.mono HB.out.size))
  replace K_p0 := Lib.hid ((hb.block _ (lt_of_block K_p0.out)).trans K_p0.out)
  replace HB := Lib.hid (HB.out.trans (hb.mono HB.out.size))
  clear hb
  have O_t1 := Lib.hid hO_t1
  have E_t1 : Hid (∀ b, (ival w1_.heap.size w2_.heap.size) b → b < w2_.heap.size) := Lib.hid (fun b h => (hF_t1 b h).2)
  clear hO_t1 hF_t1
  have k_p0_0 := blk_cell K_p0.out 0
  rw [cell2_0] at k_p0_0
  have k_p0_1 := blk_cell K_p0.out 1
  rw [cell2_1] at k_p0_1
  go_wp2_with fail
  clear k_p0_0 k_p0_1
  refine (toIntS_t A1.out HB.out.size (Nat.le_trans B1t.out (by decide))).mono ?_
  rintro e w3_ ⟨v_t2, he, hO_t2, hb⟩
  subst he
  have hF_t2 : ∀ b, (ival w2_.heap.size w3_.heap.size) b → w2_.heap.size ≤ b ∧ b < w3_.heap.size := fun b h => h
  have D_t2 : Hid (∀ b, (ival w2_.heap.size w3_.heap.size) b → w.heap.size ≤ b) := Lib.hid (fun b h => Nat.le_trans HB.out.size (hF_t2 b h).1)
  replace A0 := Lib.hid (tyIdentity.behind A0.out (hb.mono HB.out.size))
  replace A1 := Lib.hid ((sliceT 3 i64T).behind A1.out (hb.mono HB.out.size))
  replace A3 := Lib.hid ((sliceT 5 u8T).behind A3.out (hb.mono HB.out.size))
  replace O_t1 := Lib.hid (tyIdentity.onext O_t1.out hb)
  replace E_t1 : Hid (∀ b, (ival w1_.heap.size w2_.heap.size) b → b < w3_.heap.size) := Lib.hid (fun b h => Nat.lt_of_lt_of_le (E_t1.out b h) hb.size)
  replace K_p0 := Lib.hid ((hb.block _ (lt_of_block K_p0.out)).trans K_p0.out)
  replace HB := Lib.hid (HB.out.trans (hb.mono HB.out.size))
  clear hb
  have O_t2 := Lib.hid hO_t2
  have E_t2 : Hid (∀ b, (ival w2_.heap.size w3_.heap.size) b → b < w3_.heap.size) := Lib.hid (fun b h => (hF_t2 b h).2)
  clear hO_t2 hF_t2
  have k_p0_0 := blk_cell K_p0.out 0
  rw [cell2_0] at k_p0_0
  have k_p0_1 := blk_cell K_p0.out 1
  rw [cell2_1] at k_p0_1
  go_wp2_with fail
  clear k_p0_0 k_p0_1
  refine (toByteS_t A3.out HB.out.size (Nat.le_trans B3t.out (by decide))).mono ?_
  rintro e w4_ ⟨v_t3, he, hO_t3, hb⟩
  subst he
  have hF_t3 : ∀ b, (ival w3_.heap.size w4_.heap.size) b → w3_.heap.size ≤ b ∧ b < w4_.heap.size := fun b h => h
  have D_t3 : Hid (∀ b, (ival w3_.heap.size w4_.heap.size) b → w.heap.size ≤ b) := Lib.hid (fun b h => Nat.le_trans HB.out.size (hF_t3 b h).1)
  replace A0 := Lib.hid (tyIdentity.behind A0.out (hb.mono HB.out.size))
  replace A1 := Lib.hid ((sliceT 3 i64T).behind A1.out (hb.mono HB.out.size))
  replace A3 := Lib.hid ((sliceT 5 u8T).behind A3.out (hb.mono HB.out.size))
  replace O_t1 := Lib.hid (tyIdentity.onext O_t1.out hb)
  replace E_t1 : Hid (∀ b, (ival w1_.heap.size w2_.heap.size) b → b < w4_.heap.size) := Lib.hid (fun b h => Nat.lt_of_lt_of_le (E_t1.out b h) hb.size)
  replace O_t2 := Lib.hid ((sliceT 3 i64T).onext O_t2.out hb)
  replace E_t2 : Hid (∀ b, (ival w2_.heap.size w3_.heap.size) b → b < w4_.heap.size) := Lib.hid (fun b h => Nat.lt_of_lt_of_le (E_t2.out b h) hb.size)
  replace K_p0 := Lib.hid ((hb.block _ (lt_of_block K_p0.out)).trans K_p0.out)
  replace HB := Lib.hid (HB.out.trans (hb.mono HB.out.size))
  clear hb
  have O_t3 := Lib.hid hO_t3
  have E_t3 : Hid (∀ b, (ival w3_.heap.size w4_.heap.size) b → b < w4_.heap.size) := Lib.hid (fun b h => (hF_t3 b h).2)
  clear hO_t3 hF_t3
  have k_p0_0 := blk_cell K_p0.out 0
  rw [cell2_0] at k_p0_0
  have k_p0_1 := blk_cell K_p0.out 1
  rw [cell2_1] at k_p0_1
  go_wp2_with fail
  clear k_p0_0 k_p0_1
  refine (spec_opi_t (tyIdentity.ord O_t1.out) (Nat.le_refl _) ((sliceT 3 i64T).ord O_t2.out) (Nat.le_refl _) ((sliceT 5 u8T).ord O_t3.out) (Nat.le_refl _) W2.out).mono ?_
  obtain ⟨Y0, hY0⟩ : ∃ y : Int, y = opI s0.1 s0.2 s1 a2 s3 := ⟨_, rfl⟩
  obtain ⟨Y1, hY1⟩ : ∃ y : Int, y = opK s0.1 s0.2 s1 a2 s3 := ⟨_, rfl⟩
  obtain ⟨Y2, hY2⟩ : ∃ y : Bool, y = opB s0.1 s0.2 s1 a2 s3 := ⟨_, rfl⟩
  rintro e w5_ ⟨he, hb⟩
  rw [← hY0] at he
  rw [← hY1] at he
  rw [← hY2] at he
  have HY0 := Lib.hid hY0
  clear hY0
  have HY1 := Lib.hid hY1
  clear hY1
  have HY2 := Lib.hid hY2
  clear hY2
  subst he
  replace A0 := Lib.hid (tyIdentity.behind A0.out (hb.mono HB.out.size))
  replace A1 := Lib.hid ((sliceT 3 i64T).behind A1.out (hb.mono HB.out.size))
  replace A3 := Lib.hid ((sliceT 5 u8T).behind A3.out (hb.mono HB.out.size))
  replace O_t1 := Lib.hid (tyIdentity.onext O_t1.out hb)
  replace E_t1 : Hid (∀ b, (ival w1_.heap.size w2_.heap.size) b → b < w5_.heap.size) := Lib.hid (fun b h => Nat.lt_of_lt_of_le (E_t1.out b h) hb.size)
  replace O_t2 := Lib.hid ((sliceT 3 i64T).onext O_t2.out hb)
  replace E_t2 : Hid (∀ b, (ival w2_.heap.size w3_.heap.size) b → b < w5_.heap.size) := Lib.hid (fun b h => Nat.lt_of_lt_of_le (E_t2.out b h) hb.size)
  replace O_t3 := Lib.hid ((sliceT 5 u8T).onext O_t3.out hb)
  replace E_t3 : Hid (∀ b, (ival w3_.heap.size w4_.heap.size) b → b < w5_.heap.size) := Lib.hid (fun b h => Nat.lt_of_lt_of_le (E_t3.out b h) hb.size)
  replace K_p0 := Lib.hid ((hb.block _ (lt_of_block K_p0.out)).trans K_p0.out)
  replace HB := Lib.hid (HB.out.trans (hb.mono HB.out.size))
  clear hb
  clear O_t1 E_t1 D_t1
  clear O_t2 E_t2 D_t2
  clear O_t3 E_t3 D_t3
  -- ('copy', 'x1', 1, '[]int')
  have k_p0_0 := blk_cell K_p0.out 0
  rw [cell2_0] at k_p0_0
  have k_p0_1 := blk_cell K_p0.out 1
  rw [cell2_1] at k_p0_1
  go_wp2_with fail
  clear k_p0_0 k_p0_1
  refine (toIntS_t A1.out HB.out.size (Nat.le_trans B1t.out (by decide))).mono ?_
  rintro e w6_ ⟨v_x1, he, hO_x1, hb⟩
  subst he
  have hF_x1 : ∀ b, (ival w5_.heap.size w6_.heap.size) b → w5_.heap.size ≤ b ∧ b < w6_.heap.size := fun b h => h
  have D_x1 : Hid (∀ b, (ival w5_.heap.size w6_.heap.size) b → w.heap.size ≤ b) := Lib.hid (fun b h => Nat.le_trans HB.out.size (hF_x1 b h).1)
  replace A0 := Lib.hid (tyIdentity.behind A0.out (hb.mono HB.out.size))
  replace A1 := Lib.hid ((sliceT 3 i64T).behind A1.out (hb.mono HB.out.size))
  replace A3 := Lib.hid ((sliceT 5 u8T).behind A3.out (hb.mono HB.out.size))
  replace K_p0 := Lib.hid ((hb.block _ (lt_of_block K_p0.out)).trans K_p0.out)
  replace HB := Lib.hid (HB.out.trans (hb.mono HB.out.size))
  clear hb
  have O_x1 := Lib.hid hO_x1
  have E_x1 : Hid (∀ b, (ival w5_.heap.size w6_.heap.size) b → b < w6_.heap.size) := Lib.hid (fun b h => (hF_x1 b h).2)
  clear hO_x1 hF_x1
  -- ('copy', 'x3', 3, '[]byte')
  have k_p0_0 := blk_cell K_p0.out 0
  rw [cell2_0] at k_p0_0
  have k_p0_1 := blk_cell K_p0.out 1
  rw [cell2_1] at k_p0_1
  go_wp2_with fail
  clear k_p0_0 k_p0_1
  refine (toByteS_t A3.out HB.out.size (Nat.le_trans B3t.out (by decide))).mono ?_
  rintro e w7_ ⟨v_x3, he, hO_x3, hb⟩
  subst he
  have hF_x3 : ∀ b, (ival w6_.heap.size w7_.heap.size) b → w6_.heap.size ≤ b ∧ b < w7_.heap.size := fun b h => h
  have D_x3 : Hid (∀ b, (ival w6_.heap.size w7_.heap.size) b → w.heap.size ≤ b) := Lib.hid (fun b h => Nat.le_trans HB.out.size (hF_x3 b h).1)
  replace A0 := Lib.hid (tyIdentity.behind A0.out (hb.mono HB.out.size))
  replace A1 := Lib.hid ((sliceT 3 i64T).behind A1.out (hb.mono HB.out.size))
  replace A3 := Lib.hid ((sliceT 5 u8T).behind A3.out (hb.mono HB.out.size))
  replace O_x1 := Lib.hid ((sliceT 3 i64T).onext O_x1.out hb)
  replace E_x1 : Hid (∀ b, (ival w5_.heap.size w6_.heap.size) b → b < w7_.heap.size) := Lib.hid (fun b h => Nat.lt_of_lt_of_le (E_x1.out b h) hb.size)
  replace K_p0 := Lib.hid ((hb.block _ (lt_of_block K_p0.out)).trans K_p0.out)
  replace HB := Lib.hid (HB.out.trans (hb.mono HB.out.size))
  clear hb
  have O_x3 := Lib.hid hO_x3
  have E_x3 : Hid (∀ b, (ival w6_.heap.size w7_.heap.size) b → b < w7_.heap.size) := Lib.hid (fun b h => (hF_x3 b h).2)
  clear hO_x3 hF_x3
  -- ('call', 'impl', 'OpenInvitation', [('copy', 0, 'Identity'), ('own', 'x1'), ('arg', 2), ('own', 'x3')], ['g0', 'g1', 'g2'])
  have k_p0_0 := blk_cell K_p0.out 0
  rw [cell2_0] at k_p0_0
  have k_p0_1 := blk_cell K_p0.out 1
  rw [cell2_1] at k_p0_1
  go_wp2_with fail
  clear k_p0_0 k_p0_1
  refine (toIdentity_any A0.out HB.out.size (show (0 : Nat) ≤ 1073741824 by decide)).mono ?_
  rintro e w8_ ⟨c_t4, he, hO_t4, hb⟩
  subst he
  have hF_t4 : ∀ b, (ival w7_.heap.size w8_.heap.size) b → w7_.heap.size ≤ b ∧ b < w8_.heap.size := fun b h => h
  obtain ⟨rfl, _⟩ := own_Identity hO_t4
  have D_t4 : Hid (∀ b, (ival w7_.heap.size w8_.heap.size) b → w.heap.size ≤ b) := Lib.hid (fun b h => Nat.le_trans HB.out.size (hF_t4 b h).1)
  replace A0 := Lib.hid (tyIdentity.behind A0.out (hb.mono HB.out.size))
  replace A1 := Lib.hid ((sliceT 3 i64T).behind A1.out (hb.mono HB.out.size))
  replace A3 := Lib.hid ((sliceT 5 u8T).behind A3.out (hb.mono HB.out.size))
  replace O_x1 := Lib.hid ((sliceT 3 i64T).onext O_x1.out hb)
  replace E_x1 : Hid (∀ b, (ival w5_.heap.size w6_.heap.size) b → b < w8_.heap.size) := Lib.hid (fun b h => Nat.lt_of_lt_of_le (E_x1.out b h) hb.size)
  replace O_x3 := Lib.hid ((sliceT 5 u8T).onext O_x3.out hb)
  replace E_x3 : Hid (∀ b, (ival w6_.heap.size w7_.heap.size) b → b < w8_.heap.size) := Lib.hid (fun b h => Nat.lt_of_lt_of_le (E_x3.out b h) hb.size)
  replace K_p0 := Lib.hid ((hb.block _ (lt_of_block K_p0.out)).trans K_p0.out)
  replace HB := Lib.hid (HB.out.trans (hb.mono HB.out.size))
  clear hb
  have O_t4 := Lib.hid hO_t4
  have E_t4 : Hid (∀ b, (ival w7_.heap.size w8_.heap.size) b → b < w8_.heap.size) := Lib.hid (fun b h => (hF_t4 b h).2)
  clear hO_t4 hF_t4
  have k_p0_0 := blk_cell K_p0.out 0
  rw [cell2_0] at k_p0_0
  have k_p0_1 := blk_cell K_p0.out 1
  rw [cell2_1] at k_p0_1
  go_wp2_with fail
  clear k_p0_0 k_p0_1
  refine (impl_opi_t (tyIdentity.ord O_t4.out) (Nat.le_refl _) ((sliceT 3 i64T).ord O_x1.out) (Nat.le_refl _) ((sliceT 5 u8T).ord O_x3.out) (Nat.le_refl _) W2.out (HL.out.next HB.out)).mono ?_
  rintro e w9_ ⟨he, hb⟩
  rw [← HY0.out] at he
  rw [← HY1.out] at he
  rw [← HY2.out] at he
  subst he
  replace A0 := Lib.hid (tyIdentity.behind A0.out (hb.mono HB.out.size))
  replace A1 := Lib.hid ((sliceT 3 i64T).behind A1.out (hb.mono HB.out.size))
  replace A3 := Lib.hid ((sliceT 5 u8T).behind A3.out (hb.mono HB.out.size))
  replace O_x1 := Lib.hid ((sliceT 3 i64T).onext O_x1.out hb)
  replace E_x1 : Hid (∀ b, (ival w5_.heap.size w6_.heap.size) b → b < w9_.heap.size) := Lib.hid (fun b h => Nat.lt_of_lt_of_le (E_x1.out b h) hb.size)
  replace O_x3 := Lib.hid ((sliceT 5 u8T).onext O_x3.out hb)
  replace E_x3 : Hid (∀ b, (ival w6_.heap.size w7_.heap.size) b → b < w9_.heap.size) := Lib.hid (fun b h => Nat.lt_of_lt_of_le (E_x3.out b h) hb.size)
  replace O_t4 := Lib.hid (tyIdentity.onext O_t4.out hb)
  replace E_t4 : Hid (∀ b, (ival w7_.heap.size w8_.heap.size) b → b < w9_.heap.size) := Lib.hid (fun b h => Nat.lt_of_lt_of_le (E_t4.out b h) hb.size)
  replace K_p0 := Lib.hid ((hb.block _ (lt_of_block K_p0.out)).trans K_p0.out)
  replace HB := Lib.hid (HB.out.trans (hb.mono HB.out.size))
  clear hb
  clear O_t4 E_t4 D_t4
  clear A0
  clear K_p0
  -- ('eq', '[]int', ('own', 'x1'), ('copy', 1, '[]int'))
  go_wp2_with fail
  refine (toIntS_t A1.out HB.out.size (Nat.le_trans B1t.out (by decide))).mono ?_
  rintro e w10_ ⟨v_t5, he, hO_t5, hb⟩
  subst he
  have hF_t5 : ∀ b, (ival w9_.heap.size w10_.heap.size) b → w9_.heap.size ≤ b ∧ b < w10_.heap.size := fun b h => h
  have D_t5 : Hid (∀ b, (ival w9_.heap.size w10_.heap.size) b → w.heap.size ≤ b) := Lib.hid (fun b h => Nat.le_trans HB.out.size (hF_t5 b h).1)
  replace A1 := Lib.hid ((sliceT 3 i64T).behind A1.out (hb.mono HB.out.size))
  replace A3 := Lib.hid ((sliceT 5 u8T).behind A3.out (hb.mono HB.out.size))
  replace O_x1 := Lib.hid ((sliceT 3 i64T).onext O_x1.out hb)
  replace E_x1 : Hid (∀ b, (ival w5_.heap.size w6_.heap.size) b → b < w10_.heap.size) := Lib.hid (fun b h => Nat.lt_of_lt_of_le (E_x1.out b h) hb.size)
  replace O_x3 := Lib.hid ((sliceT 5 u8T).onext O_x3.out hb)
  replace E_x3 : Hid (∀ b, (ival w6_.heap.size w7_.heap.size) b → b < w10_.heap.size) := Lib.hid (fun b h => Nat.lt_of_lt_of_le (E_x3.out b h) hb.size)
  replace HB := Lib.hid (HB.out.trans (hb.mono HB.out.size))
  clear hb
  have O_t5 := Lib.hid hO_t5
  have E_t5 : Hid (∀ b, (ival w9_.heap.size w10_.heap.size) b → b < w10_.heap.size) := Lib.hid (fun b h => (hF_t5 b h).2)
  clear hO_t5 hF_t5
  go_wp2_with fail
  refine (eqIntS_same_t ((sliceT 3 i64T).ord O_x1.out) ((sliceT 3 i64T).ord O_t5.out) (Nat.le_refl _) (Nat.le_refl _)).mono ?_
  rintro e w11_ ⟨he, hb⟩
  subst he
  replace A1 := Lib.hid ((sliceT 3 i64T).behind A1.out (hb.mono HB.out.size))
  replace A3 := Lib.hid ((sliceT 5 u8T).behind A3.out (hb.mono HB.out.size))
  replace O_x1 := Lib.hid ((sliceT 3 i64T).onext O_x1.out hb)
  replace E_x1 : Hid (∀ b, (ival w5_.heap.size w6_.heap.size) b → b < w11_.heap.size) := Lib.hid (fun b h => Nat.lt_of_lt_of_le (E_x1.out b h) hb.size)
  replace O_x3 := Lib.hid ((sliceT 5 u8T).onext O_x3.out hb)
  replace E_x3 : Hid (∀ b, (ival w6_.heap.size w7_.heap.size) b → b < w11_.heap.size) := Lib.hid (fun b h => Nat.lt_of_lt_of_le (E_x3.out b h) hb.size)
  replace O_t5 := Lib.hid ((sliceT 3 i64T).onext O_t5.out hb)
  replace E_t5 : Hid (∀ b, (ival w9_.heap.size w10_.heap.size) b → b < w11_.heap.size) := Lib.hid (fun b h => Nat.lt_of_lt_of_le (E_t5.out b h) hb.size)
  replace HB := Lib.hid (HB.out.trans (hb.mono HB.out.size))
  clear hb
  clear O_x1 E_x1 D_x1
  clear O_t5 E_t5 D_t5
  clear A1
  -- ('eq', '[]byte', ('own', 'x3'), ('copy', 3, '[]byte'))
  go_wp2_with fail
  refine (toByteS_t A3.out HB.out.size (Nat.le_trans B3t.out (by decide))).mono ?_
  rintro e w12_ ⟨v_t6, he, hO_t6, hb⟩
  subst he
  have hF_t6 : ∀ b, (ival w11_.heap.size w12_.heap.size) b → w11_.heap.size ≤ b ∧ b < w12_.heap.size := fun b h => h
  have D_t6 : Hid (∀ b, (ival w11_.heap.size w12_.heap.size) b → w.heap.size ≤ b) := Lib.hid (fun b h => Nat.le_trans HB.out.size (hF_t6 b h).1)
  replace A3 := Lib.hid ((sliceT 5 u8T).behind A3.out (hb.mono HB.out.size))
  replace O_x3 := Lib.hid ((sliceT 5 u8T).onext O_x3.out hb)
  replace E_x3 : Hid (∀ b, (ival w6_.heap.size w7_.heap.size) b → b < w12_.heap.size) := Lib.hid (fun b h => Nat.lt_of_lt_of_le (E_x3.out b h) hb.size)
  replace HB := Lib.hid (HB.out.trans (hb.mono HB.out.size))
  clear hb
  have O_t6 := Lib.hid hO_t6
  have E_t6 : Hid (∀ b, (ival w11_.heap.size w12_.heap.size) b → b < w12_.heap.size) := Lib.hid (fun b h => (hF_t6 b h).2)
  clear hO_t6 hF_t6
  go_wp2_with fail
  refine (eqByteS_same_t ((sliceT 5 u8T).ord O_x3.out) ((sliceT 5 u8T).ord O_t6.out) (Nat.le_refl _) (Nat.le_refl _)).mono ?_
  rintro e w13_ ⟨he, hb⟩
  subst he
  replace A3 := Lib.hid ((sliceT 5 u8T).behind A3.out (hb.mono HB.out.size))
  replace O_x3 := Lib.hid ((sliceT 5 u8T).onext O_x3.out hb)
  replace E_x3 : Hid (∀ b, (ival w6_.heap.size w7_.heap.size) b → b < w13_.heap.size) := Lib.hid (fun b h => Nat.lt_of_lt_of_le (E_x3.out b h) hb.size)
  replace O_t6 := Lib.hid ((sliceT 5 u8T).onext O_t6.out hb)
  replace E_t6 : Hid (∀ b, (ival w11_.heap.size w12_.heap.size) b → b < w13_.heap.size) := Lib.hid (fun b h => Nat.lt_of_lt_of_le (E_t6.out b h) hb.size)
  replace HB := Lib.hid (HB.out.trans (hb.mono HB.out.size))
  clear hb
  clear O_x3 E_x3 D_x3
  clear O_t6 E_t6 D_t6
  clear A3
  go_wp2_with fail
  go_ret
  exact ⟨rfl, HB.out⟩
  
end Go.Proofs.YtlhpjfhglkngfaaDoor
