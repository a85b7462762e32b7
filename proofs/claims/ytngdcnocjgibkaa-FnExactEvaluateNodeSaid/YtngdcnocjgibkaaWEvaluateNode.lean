/- FnExactEvaluateNode: the walk. No conditions. -/
import Derived.Test.YtngdcnocjgibkaaPkW
import Derived.Test.YtngdcnocjgibkaaCells
import Derived.Deep.RegionHeld3
import Derived.Deep.DeepCutAuto
namespace Go.Proofs.Ytngdcnocjgibkaa
open Go Go.RowKit
set_option linter.unusedVariables false
attribute [local irreducible] kh

set_option maxHeartbeats 4000000 in
set_option maxRecDepth 100000 in
theorem fnExactEvaluateNode_walk (a0 : Int) (a1 : Int) (a2 : Int) (c3 : List Value) (s3 : VCorrection) (w : World) (w0 : (Lit.int .i64 a0).wf = true) (w1 : (Lit.int .i64 a1).wf = true) (w2 : (Lit.int .i64 a2).wf = true) (w3 : tyCorrection.rd w.heap.size w c3 s3) :
    Calls Try.prog 5 #[.int .i64 a0, .int .i64 a1, .int .i64 a2, .agg c3.toArray] w fun e w' => e = .returned (.bool true) ∧ Below w.heap.size w w' := by
  obtain ⟨rfl, _⟩ := rd_Correction w3
  have A3 := Lib.hid w3
  clear w3
  have W0 := Lib.hid w0
  have w0b := wf_i64 w0
  clear w0
  have W1 := Lib.hid w1
  have w1b := wf_i64 w1
  clear w1
  have W2 := Lib.hid w2
  have w2b := wf_i64 w2
  clear w2
  go_enter Try.func5, Try.ntmps5
  have hb := ((Below.refl w.heap.size w).alloc (Nat.le_refl _) (.cells #[.int .i64 s3.1, .int .i64 s3.2.1, .int .i64 s3.2.2] 49))
  have K_p3 := Lib.hid (heap_alloc_new w (.cells #[.int .i64 s3.1, .int .i64 s3.2.1, .int .i64 s3.2.2] 49))
  replace A3 := Lib.hid (tyCorrection.behind A3.out hb)
  have HB := Lib.hid hb
  clear hb
  have k_p3_0 := blk_cell K_p3.out 0
  rw [cell3_0] at k_p3_0
  have k_p3_1 := blk_cell K_p3.out 1
  rw [cell3_1] at k_p3_1
  have k_p3_2 := blk_cell K_p3.out 2
  rw [cell3_2] at k_p3_2
  go_wp2_with fail
  clear k_p3_0 k_p3_1 k_p3_2
  obtain ⟨w1_, hw⟩ : ∃ x, x = (w.alloc (.cells #[.int .i64 s3.1, .int .i64 s3.2.1, .int .i64 s3.2.2] 49)) := ⟨_, rfl⟩
  rw [← hw] at HB A3 K_p3 ⊢
  clear hw
  -- ('call', 'spec', 'EvaluateNode', [('arg', 0), ('arg', 1), ('arg', 2), ('copy', 3, 'Correction')], ['w0', 'w1'])
  refine (toCorrection_any A3.out HB.out.size (show (0 : Nat) ≤ 1073741824 by decide)).mono ?_
  rintro e w2_ ⟨c_t1, he, hO_t1, hb⟩
  subst he
  have hF_t1 : ∀ b, (ival w1_.heap.size w2_.heap.size) b → w1_.heap.size ≤ b ∧ b < w2_.heap.size := fun b h => h
  obtain ⟨rfl, _⟩ := own_Correction hO_t1
  have D_t1 : Hid (∀ b, (ival w1_.heap.size w2_.heap.size) b → w.heap.size ≤ b) := Lib.hid (fun b h => Nat.le_trans HB.out.size (hF_t1 b h).1)
  replace A3 := Lib.hid (tyCorrection.behind A3.out (hb.mono HB.out.size))
  replace K_p3 := Lib.hid ((hb.block _ (lt_of_block K_p3.out)).trans K_p3.out)
  replace HB := Lib.hid (HB.out.trans (hb.mono HB.out.size))
  clear hb
  have O_t1 := Lib.hid hO_t1
  have E_t1 : Hid (∀ b, (ival w1_.heap.size w2_.heap.size) b → b < w2_.heap.size) := Lib.hid (fun b h => (hF_t1 b h).2)
  clear hO_t1 hF_t1
  have k_p3_0 := blk_cell K_p3.out 0
  rw [cell3_0] at k_p3_0
  have k_p3_1 := blk_cell K_p3.out 1
  rw [cell3_1] at k_p3_1
  have k_p3_2 := blk_cell K_p3.out 2
  rw [cell3_2] at k_p3_2
  go_wp2_with fail
  clear k_p3_0 k_p3_1 k_p3_2
  refine (spec_ev_t (tyCorrection.ord O_t1.out) (Nat.le_refl _) W0.out W1.out W2.out).mono ?_
  obtain ⟨Y0, hY0⟩ : ∃ y : Int, y = (evN a0 a1 a2 s3).1 := ⟨_, rfl⟩
  obtain ⟨Y1, hY1⟩ : ∃ y : Int, y = (evN a0 a1 a2 s3).2 := ⟨_, rfl⟩
  rintro e w3_ ⟨he, hb⟩
  rw [← hY0] at he
  rw [← hY1] at he
  have HY0 := Lib.hid hY0
  clear hY0
  have HY1 := Lib.hid hY1
  clear hY1
  subst he
  replace A3 := Lib.hid (tyCorrection.behind A3.out (hb.mono HB.out.size))
  replace O_t1 := Lib.hid (tyCorrection.onext O_t1.out hb)
  replace E_t1 : Hid (∀ b, (ival w1_.heap.size w2_.heap.size) b → b < w3_.heap.size) := Lib.hid (fun b h => Nat.lt_of_lt_of_le (E_t1.out b h) hb.size)
  replace K_p3 := Lib.hid ((hb.block _ (lt_of_block K_p3.out)).trans K_p3.out)
  replace HB := Lib.hid (HB.out.trans (hb.mono HB.out.size))
  clear hb
  clear O_t1 E_t1 D_t1
  -- ('call', 'impl', 'EvaluateNode', [('arg', 0), ('arg', 1), ('arg', 2), ('copy', 3, 'Correction')], ['g0', 'g1'])
  have k_p3_0 := blk_cell K_p3.out 0
  rw [cell3_0] at k_p3_0
  have k_p3_1 := blk_cell K_p3.out 1
  rw [cell3_1] at k_p3_1
  have k_p3_2 := blk_cell K_p3.out 2
  rw [cell3_2] at k_p3_2
  go_wp2_with fail
  clear k_p3_0 k_p3_1 k_p3_2
  refine (toCorrection_any A3.out HB.out.size (show (0 : Nat) ≤ 1073741824 by decide)).mono ?_
  rintro e w4_ ⟨c_t2, he, hO_t2, hb⟩
  subst he
  have hF_t2 : ∀ b, (ival w3_.heap.size w4_.heap.size) b → w3_.heap.size ≤ b ∧ b < w4_.heap.size := fun b h => h
  obtain ⟨rfl, _⟩ := own_Correction hO_t2
  have D_t2 : Hid (∀ b, (ival w3_.heap.size w4_.heap.size) b → w.heap.size ≤ b) := Lib.hid (fun b h => Nat.le_trans HB.out.size (hF_t2 b h).1)
  replace A3 := Lib.hid (tyCorrection.behind A3.out (hb.mono HB.out.size))
  replace K_p3 := Lib.hid ((hb.block _ (lt_of_block K_p3.out)).trans K_p3.out)
  replace HB := Lib.hid (HB.out.trans (hb.mono HB.out.size))
  clear hb
  have O_t2 := Lib.hid hO_t2
  have E_t2 : Hid (∀ b, (ival w3_.heap.size w4_.heap.size) b → b < w4_.heap.size) := Lib.hid (fun b h => (hF_t2 b h).2)
  clear hO_t2 hF_t2
  have k_p3_0 := blk_cell K_p3.out 0
  rw [cell3_0] at k_p3_0
  have k_p3_1 := blk_cell K_p3.out 1
  rw [cell3_1] at k_p3_1
  have k_p3_2 := blk_cell K_p3.out 2
  rw [cell3_2] at k_p3_2
  go_wp2_with fail
  clear k_p3_0 k_p3_1 k_p3_2
  refine (impl_ev_t (tyCorrection.ord O_t2.out) (Nat.le_refl _) W0.out W1.out W2.out).mono ?_
  rintro e w5_ ⟨he, hb⟩
  rw [← HY0.out] at he
  rw [← HY1.out] at he
  subst he
  replace A3 := Lib.hid (tyCorrection.behind A3.out (hb.mono HB.out.size))
  replace O_t2 := Lib.hid (tyCorrection.onext O_t2.out hb)
  replace E_t2 : Hid (∀ b, (ival w3_.heap.size w4_.heap.size) b → b < w5_.heap.size) := Lib.hid (fun b h => Nat.lt_of_lt_of_le (E_t2.out b h) hb.size)
  replace K_p3 := Lib.hid ((hb.block _ (lt_of_block K_p3.out)).trans K_p3.out)
  replace HB := Lib.hid (HB.out.trans (hb.mono HB.out.size))
  clear hb
  clear O_t2 E_t2 D_t2
  clear A3
  clear K_p3
  go_wp2_with fail
  go_ret
  exact ⟨rfl, HB.out⟩
  
end Go.Proofs.Ytngdcnocjgibkaa
