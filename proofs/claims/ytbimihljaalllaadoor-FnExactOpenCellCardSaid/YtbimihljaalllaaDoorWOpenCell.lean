/- FnExactOpenCell: the walk. No conditions. -/
import Derived.Test.YtbimihljaalllaaDoorClX
import Derived.Test.YtbimihljaalllaaDoorCells
import Derived.Deep.RegionHeld3
import Derived.Deep.DeepCutAuto
namespace Go.Proofs.YtbimihljaalllaaDoor
open Go Go.RowKit
set_option linter.unusedVariables false
attribute [local irreducible] kh

set_option maxHeartbeats 4000000 in
set_option maxRecDepth 100000 in
theorem fnExactOpenCell_walk (a0 : Int) (a1 : Int) (v2 : Value) (s2 : List Int) (w : World) (w0 : (Lit.int .i64 a0).wf = true) (w1 : (Lit.int .i64 a1).wf = true) (w2 : (sliceT 5 u8T).rd w.heap.size w [v2] s2) (hL : laidMetH Tryd.prog Rows.fnExactOpenCellRow.laid w) :
    Calls Tryd.prog 4 #[.int .i64 a0, .int .i64 a1, v2] w fun e w' => e = .returned (.bool true) ∧ Below w.heap.size w w' := by
  have HL := Lib.hid (gv_of_laid hL)
  clear hL
  obtain ⟨av2, cv2, hv2, lv2, mv2, _⟩ := sl_open w2
  have hw2 := (List.cons.inj hv2).1
  clear hv2
  subst hw2
  unfold maxLen at mv2
  have A2 := Lib.hid w2
  clear w2
  have W0 := Lib.hid w0
  have w0b := wf_i64 w0
  clear w0
  have W1 := Lib.hid w1
  have w1b := wf_i64 w1
  clear w1
  by_cases by2 : (s2.length : Int) ≤ 1048576
  case neg =>
    have db2 : decide ((1048576 : Int) < (s2.length : Int)) = true := by simp; omega
    go_enter Tryd.func4, Tryd.ntmps4
    have HB := Lib.hid (Below.refl w.heap.size w)
    go_wp2_with fail
    go_ret
    exact ⟨rfl, HB.out⟩
  have db2 : decide ((1048576 : Int) < (s2.length : Int)) = false := by simp; omega
  have B2t : Hid ((sliceT 5 u8T).tot s2 ≤ 1048576) := Lib.hid (by show totL (intT _ _ _) _ ≤ _; rw [totL_int]; omega)
  have L2t : Hid (s2.length ≤ 1048576) := Lib.hid (by omega)
  clear by2
  go_enter Tryd.func4, Tryd.ntmps4
  have HB := Lib.hid (Below.refl w.heap.size w)
  -- ('big', 2)
  -- ('call', 'spec', 'OpenCell', [('arg', 0), ('arg', 1), ('copy', 2, '[]byte')], ['w0', 'w1'])
  go_wp2_with fail
  refine (toByteS_t A2.out HB.out.size (Nat.le_trans B2t.out (by decide))).mono ?_
  rintro e w1_ ⟨v_t1, he, hO_t1, hb⟩
  subst he
  have hF_t1 : ∀ b, (ival w.heap.size w1_.heap.size) b → w.heap.size ≤ b ∧ b < w1_.heap.size := fun b h => h
  have D_t1 : Hid (∀ b, (ival w.heap.size w1_.heap.size) b → w.heap.size ≤ b) := Lib.hid (fun b h => Nat.le_trans HB.out.size (hF_t1 b h).1)
  replace A2 := Lib.hid ((sliceT 5 u8T).behind A2.out (hb.mono HB.out.size))
  replace HB := Lib.hid (HB.out.trans (hb.mono HB.out.size))
  clear hb
  have O_t1 := Lib.hid hO_t1
  have E_t1 : Hid (∀ b, (ival w.heap.size w1_.heap.size) b → b < w1_.heap.size) := Lib.hid (fun b h => (hF_t1 b h).2)
  clear hO_t1 hF_t1
  go_wp2_with fail
  refine (spec_oc_t ((sliceT 5 u8T).ord O_t1.out) (Nat.le_refl _) W0.out W1.out).mono ?_
  obtain ⟨Y0, hY0⟩ : ∃ y : VPlain, y = (ocK a0 a1 s2, ocB a0 a1 s2) := ⟨_, rfl⟩
  obtain ⟨Y1, hY1⟩ : ∃ y : Bool, y = ook a0 a1 s2 := ⟨_, rfl⟩
  rintro e w2_ ⟨c_w0, F_w0, he, hO_w0, hF_w0, hb⟩
  replace hO_w0 : tyPlain.own F_w0 w2_ c_w0 ((ocK a0 a1 s2, ocB a0 a1 s2)) := hO_w0
  rw [← hY0] at hO_w0
  rw [← hY1] at he
  have HY0 := Lib.hid hY0
  clear hY0
  have HY1 := Lib.hid hY1
  clear hY1
  subst he
  obtain ⟨aw0_1, nw0_1, _, rfl, _⟩ := own_Plain hO_w0
  have D_w0 : Hid (∀ b, F_w0 b → w.heap.size ≤ b) := Lib.hid (fun b h => Nat.le_trans HB.out.size (hF_w0 b h).1)
  replace A2 := Lib.hid ((sliceT 5 u8T).behind A2.out (hb.mono HB.out.size))
  replace O_t1 := Lib.hid ((sliceT 5 u8T).onext O_t1.out hb)
  replace E_t1 : Hid (∀ b, (ival w.heap.size w1_.heap.size) b → b < w2_.heap.size) := Lib.hid (fun b h => Nat.lt_of_lt_of_le (E_t1.out b h) hb.size)
  replace HB := Lib.hid (HB.out.trans (hb.mono HB.out.size))
  clear hb
  have O_w0 := Lib.hid hO_w0
  have E_w0 : Hid (∀ b, F_w0 b → b < w2_.heap.size) := Lib.hid (fun b h => (hF_w0 b h).2)
  clear hO_w0 hF_w0
  have hb : Below w2_.heap.size w2_ (w2_.alloc (.cells #[.int .i64 Y0.1, .slice aw0_1 Y0.2.length nw0_1] 25)) := (Below.refl _ _).alloc (Nat.le_refl _) _
  replace A2 := Lib.hid ((sliceT 5 u8T).behind A2.out (hb.mono HB.out.size))
  replace O_t1 := Lib.hid ((sliceT 5 u8T).onext O_t1.out hb)
  replace E_t1 : Hid (∀ b, (ival w.heap.size w1_.heap.size) b → b < (w2_.alloc (.cells #[.int .i64 Y0.1, .slice aw0_1 Y0.2.length nw0_1] 25)).heap.size) := Lib.hid (fun b h => Nat.lt_of_lt_of_le (E_t1.out b h) hb.size)
  replace O_w0 := Lib.hid (tyPlain.onext O_w0.out hb)
  replace E_w0 : Hid (∀ b, F_w0 b → b < (w2_.alloc (.cells #[.int .i64 Y0.1, .slice aw0_1 Y0.2.length nw0_1] 25)).heap.size) := Lib.hid (fun b h => Nat.lt_of_lt_of_le (E_w0.out b h) hb.size)
  replace HB := Lib.hid (HB.out.trans (hb.mono HB.out.size))
  clear hb
  have K_w0 := Lib.hid (heap_alloc_new w2_ (.cells #[.int .i64 Y0.1, .slice aw0_1 Y0.2.length nw0_1] 25))
  have k_w0_0 := blk_cell K_w0.out 0
  rw [cell2_0] at k_w0_0
  have k_w0_1 := blk_cell K_w0.out 1
  rw [cell2_1] at k_w0_1
  go_wp2_with fail
  clear k_w0_0 k_w0_1
  obtain ⟨w3_, hw⟩ : ∃ x, x = (w2_.alloc (.cells #[.int .i64 Y0.1, .slice aw0_1 Y0.2.length nw0_1] 25)) := ⟨_, rfl⟩
  rw [← hw] at HB A2 O_t1 E_t1 O_w0 E_w0 K_w0 ⊢
  clear hw
  clear O_t1 E_t1 D_t1
  -- ('copy', 'x2', 2, '[]byte')
  refine (toByteS_t A2.out HB.out.size (Nat.le_trans B2t.out (by decide))).mono ?_
  rintro e w4_ ⟨v_x2, he, hO_x2, hb⟩
  subst he
  have hF_x2 : ∀ b, (ival w3_.heap.size w4_.heap.size) b → w3_.heap.size ≤ b ∧ b < w4_.heap.size := fun b h => h
  have X_w0_x2 : Hid (∀ b, F_w0 b → ¬ (ival w3_.heap.size w4_.heap.size) b) := Lib.hid (fun b h1 h2 => by have := E_w0.out b h1; have := (hF_x2 b h2).1; omega)
  have N_w0_x2 : Hid (¬ (ival w3_.heap.size w4_.heap.size) (w2_.heap.size)) := Lib.hid (fun h => by have := (hF_x2 _ h).1; have := lt_of_block K_w0.out; omega)
  have D_x2 : Hid (∀ b, (ival w3_.heap.size w4_.heap.size) b → w.heap.size ≤ b) := Lib.hid (fun b h => Nat.le_trans HB.out.size (hF_x2 b h).1)
  replace A2 := Lib.hid ((sliceT 5 u8T).behind A2.out (hb.mono HB.out.size))
  replace O_w0 := Lib.hid (tyPlain.onext O_w0.out hb)
  replace E_w0 : Hid (∀ b, F_w0 b → b < w4_.heap.size) := Lib.hid (fun b h => Nat.lt_of_lt_of_le (E_w0.out b h) hb.size)
  replace K_w0 := Lib.hid ((hb.block _ (lt_of_block K_w0.out)).trans K_w0.out)
  replace HB := Lib.hid (HB.out.trans (hb.mono HB.out.size))
  clear hb
  have O_x2 := Lib.hid hO_x2
  have E_x2 : Hid (∀ b, (ival w3_.heap.size w4_.heap.size) b → b < w4_.heap.size) := Lib.hid (fun b h => (hF_x2 b h).2)
  clear hO_x2 hF_x2
  -- ('call', 'impl', 'OpenCell', [('arg', 0), ('arg', 1), ('own', 'x2')], ['g0', 'g1'])
  have k_w0_0 := blk_cell K_w0.out 0
  rw [cell2_0] at k_w0_0
  have k_w0_1 := blk_cell K_w0.out 1
  rw [cell2_1] at k_w0_1
  go_wp2_with fail
  clear k_w0_0 k_w0_1
  refine (impl_oc_t ((sliceT 5 u8T).ord O_x2.out) (Nat.le_refl _) W0.out W1.out (HL.out.next HB.out)).mono ?_
  rintro e w5_ ⟨c_g0, F_g0, he, hO_g0, hF_g0, hb⟩
  replace hO_g0 : tyPlain.own F_g0 w5_ c_g0 ((ocK a0 a1 s2, ocB a0 a1 s2)) := hO_g0
  rw [← HY0.out] at hO_g0
  rw [← HY1.out] at he
  subst he
  obtain ⟨ag0_1, ng0_1, _, rfl, _⟩ := own_Plain hO_g0
  have X_w0_g0 : Hid (∀ b, F_w0 b → ¬ F_g0 b) := Lib.hid (fun b h1 h2 => by have := E_w0.out b h1; have := (hF_g0 b h2).1; omega)
  have X_x2_g0 : Hid (∀ b, (ival w3_.heap.size w4_.heap.size) b → ¬ F_g0 b) := Lib.hid (fun b h1 h2 => by have := E_x2.out b h1; have := (hF_g0 b h2).1; omega)
  have N_w0_g0 : Hid (¬ F_g0 (w2_.heap.size)) := Lib.hid (fun h => by have := (hF_g0 _ h).1; have := lt_of_block K_w0.out; omega)
  have D_g0 : Hid (∀ b, F_g0 b → w.heap.size ≤ b) := Lib.hid (fun b h => Nat.le_trans HB.out.size (hF_g0 b h).1)
  replace A2 := Lib.hid ((sliceT 5 u8T).behind A2.out (hb.mono HB.out.size))
  replace O_w0 := Lib.hid (tyPlain.onext O_w0.out hb)
  replace E_w0 : Hid (∀ b, F_w0 b → b < w5_.heap.size) := Lib.hid (fun b h => Nat.lt_of_lt_of_le (E_w0.out b h) hb.size)
  replace O_x2 := Lib.hid ((sliceT 5 u8T).onext O_x2.out hb)
  replace E_x2 : Hid (∀ b, (ival w3_.heap.size w4_.heap.size) b → b < w5_.heap.size) := Lib.hid (fun b h => Nat.lt_of_lt_of_le (E_x2.out b h) hb.size)
  replace K_w0 := Lib.hid ((hb.block _ (lt_of_block K_w0.out)).trans K_w0.out)
  replace HB := Lib.hid (HB.out.trans (hb.mono HB.out.size))
  clear hb
  have O_g0 := Lib.hid hO_g0
  have E_g0 : Hid (∀ b, F_g0 b → b < w5_.heap.size) := Lib.hid (fun b h => (hF_g0 b h).2)
  clear hO_g0 hF_g0
  have N_g0_x2 : Hid (¬ (ival w3_.heap.size w4_.heap.size) (w5_.heap.size)) := Lib.hid (fun h => by have := E_x2.out _ h; omega)
  have N_g0_g0 : Hid (¬ F_g0 (w5_.heap.size)) := Lib.hid (fun h => by have := E_g0.out _ h; omega)
  have hb : Below w5_.heap.size w5_ (w5_.alloc (.cells #[.int .i64 Y0.1, .slice ag0_1 Y0.2.length ng0_1] 25)) := (Below.refl _ _).alloc (Nat.le_refl _) _
  replace A2 := Lib.hid ((sliceT 5 u8T).behind A2.out (hb.mono HB.out.size))
  replace O_w0 := Lib.hid (tyPlain.onext O_w0.out hb)
  replace E_w0 : Hid (∀ b, F_w0 b → b < (w5_.alloc (.cells #[.int .i64 Y0.1, .slice ag0_1 Y0.2.length ng0_1] 25)).heap.size) := Lib.hid (fun b h => Nat.lt_of_lt_of_le (E_w0.out b h) hb.size)
  replace O_x2 := Lib.hid ((sliceT 5 u8T).onext O_x2.out hb)
  replace E_x2 : Hid (∀ b, (ival w3_.heap.size w4_.heap.size) b → b < (w5_.alloc (.cells #[.int .i64 Y0.1, .slice ag0_1 Y0.2.length ng0_1] 25)).heap.size) := Lib.hid (fun b h => Nat.lt_of_lt_of_le (E_x2.out b h) hb.size)
  replace O_g0 := Lib.hid (tyPlain.onext O_g0.out hb)
  replace E_g0 : Hid (∀ b, F_g0 b → b < (w5_.alloc (.cells #[.int .i64 Y0.1, .slice ag0_1 Y0.2.length ng0_1] 25)).heap.size) := Lib.hid (fun b h => Nat.lt_of_lt_of_le (E_g0.out b h) hb.size)
  replace K_w0 := Lib.hid ((hb.block _ (lt_of_block K_w0.out)).trans K_w0.out)
  replace HB := Lib.hid (HB.out.trans (hb.mono HB.out.size))
  clear hb
  have K_g0 := Lib.hid (heap_alloc_new w5_ (.cells #[.int .i64 Y0.1, .slice ag0_1 Y0.2.length ng0_1] 25))
  have k_w0_0 := blk_cell K_w0.out 0
  rw [cell2_0] at k_w0_0
  have k_w0_1 := blk_cell K_w0.out 1
  rw [cell2_1] at k_w0_1
  have k_g0_0 := blk_cell K_g0.out 0
  rw [cell2_0] at k_g0_0
  have k_g0_1 := blk_cell K_g0.out 1
  rw [cell2_1] at k_g0_1
  go_wp2_with fail
  clear k_w0_0 k_w0_1 k_g0_0 k_g0_1
  obtain ⟨w6_, hw⟩ : ∃ x, x = (w5_.alloc (.cells #[.int .i64 Y0.1, .slice ag0_1 Y0.2.length ng0_1] 25)) := ⟨_, rfl⟩
  rw [← hw] at HB A2 O_w0 E_w0 O_x2 E_x2 O_g0 E_g0 K_w0 K_g0 ⊢
  clear hw
  -- ('eq', 'Plain', ('own', 'g0'), ('own', 'w0'))
  refine (eqPlain_same (tyPlain.ord O_g0.out) (tyPlain.ord O_w0.out) (Nat.le_refl _) (Nat.le_refl _)).mono ?_
  rintro e w7_ ⟨he, hb⟩
  subst he
  replace A2 := Lib.hid ((sliceT 5 u8T).behind A2.out (hb.mono HB.out.size))
  replace O_w0 := Lib.hid (tyPlain.onext O_w0.out hb)
  replace E_w0 : Hid (∀ b, F_w0 b → b < w7_.heap.size) := Lib.hid (fun b h => Nat.lt_of_lt_of_le (E_w0.out b h) hb.size)
  replace O_x2 := Lib.hid ((sliceT 5 u8T).onext O_x2.out hb)
  replace E_x2 : Hid (∀ b, (ival w3_.heap.size w4_.heap.size) b → b < w7_.heap.size) := Lib.hid (fun b h => Nat.lt_of_lt_of_le (E_x2.out b h) hb.size)
  replace O_g0 := Lib.hid (tyPlain.onext O_g0.out hb)
  replace E_g0 : Hid (∀ b, F_g0 b → b < w7_.heap.size) := Lib.hid (fun b h => Nat.lt_of_lt_of_le (E_g0.out b h) hb.size)
  replace K_w0 := Lib.hid ((hb.block _ (lt_of_block K_w0.out)).trans K_w0.out)
  replace K_g0 := Lib.hid ((hb.block _ (lt_of_block K_g0.out)).trans K_g0.out)
  replace HB := Lib.hid (HB.out.trans (hb.mono HB.out.size))
  clear hb
  -- ('eq', '[]byte', ('own', 'x2'), ('copy', 2, '[]byte'))
  have k_w0_0 := blk_cell K_w0.out 0
  rw [cell2_0] at k_w0_0
  have k_w0_1 := blk_cell K_w0.out 1
  rw [cell2_1] at k_w0_1
  have k_g0_0 := blk_cell K_g0.out 0
  rw [cell2_0] at k_g0_0
  have k_g0_1 := blk_cell K_g0.out 1
  rw [cell2_1] at k_g0_1
  go_wp2_with fail
  clear k_w0_0 k_w0_1 k_g0_0 k_g0_1
  refine (toByteS_t A2.out HB.out.size (Nat.le_trans B2t.out (by decide))).mono ?_
  rintro e w8_ ⟨v_t2, he, hO_t2, hb⟩
  subst he
  have hF_t2 : ∀ b, (ival w7_.heap.size w8_.heap.size) b → w7_.heap.size ≤ b ∧ b < w8_.heap.size := fun b h => h
  have X_x2_t2 : Hid (∀ b, (ival w3_.heap.size w4_.heap.size) b → ¬ (ival w7_.heap.size w8_.heap.size) b) := Lib.hid (fun b h1 h2 => by have := E_x2.out b h1; have := (hF_t2 b h2).1; omega)
  have X_g0_t2 : Hid (∀ b, F_g0 b → ¬ (ival w7_.heap.size w8_.heap.size) b) := Lib.hid (fun b h1 h2 => by have := E_g0.out b h1; have := (hF_t2 b h2).1; omega)
  have D_t2 : Hid (∀ b, (ival w7_.heap.size w8_.heap.size) b → w.heap.size ≤ b) := Lib.hid (fun b h => Nat.le_trans HB.out.size (hF_t2 b h).1)
  replace A2 := Lib.hid ((sliceT 5 u8T).behind A2.out (hb.mono HB.out.size))
  replace O_w0 := Lib.hid (tyPlain.onext O_w0.out hb)
  replace E_w0 : Hid (∀ b, F_w0 b → b < w8_.heap.size) := Lib.hid (fun b h => Nat.lt_of_lt_of_le (E_w0.out b h) hb.size)
  replace O_x2 := Lib.hid ((sliceT 5 u8T).onext O_x2.out hb)
  replace E_x2 : Hid (∀ b, (ival w3_.heap.size w4_.heap.size) b → b < w8_.heap.size) := Lib.hid (fun b h => Nat.lt_of_lt_of_le (E_x2.out b h) hb.size)
  replace O_g0 := Lib.hid (tyPlain.onext O_g0.out hb)
  replace E_g0 : Hid (∀ b, F_g0 b → b < w8_.heap.size) := Lib.hid (fun b h => Nat.lt_of_lt_of_le (E_g0.out b h) hb.size)
  replace K_w0 := Lib.hid ((hb.block _ (lt_of_block K_w0.out)).trans K_w0.out)
  replace K_g0 := Lib.hid ((hb.block _ (lt_of_block K_g0.out)).trans K_g0.out)
  replace HB := Lib.hid (HB.out.trans (hb.mono HB.out.size))
  clear hb
  have O_t2 := Lib.hid hO_t2
  have E_t2 : Hid (∀ b, (ival w7_.heap.size w8_.heap.size) b → b < w8_.heap.size) := Lib.hid (fun b h => (hF_t2 b h).2)
  clear hO_t2 hF_t2
  have k_w0_0 := blk_cell K_w0.out 0
  rw [cell2_0] at k_w0_0
  have k_w0_1 := blk_cell K_w0.out 1
  rw [cell2_1] at k_w0_1
  have k_g0_0 := blk_cell K_g0.out 0
  rw [cell2_0] at k_g0_0
  have k_g0_1 := blk_cell K_g0.out 1
  rw [cell2_1] at k_g0_1
  go_wp2_with fail
  clear k_w0_0 k_w0_1 k_g0_0 k_g0_1
  refine (eqByteS_same_t ((sliceT 5 u8T).ord O_x2.out) ((sliceT 5 u8T).ord O_t2.out) (Nat.le_refl _) (Nat.le_refl _)).mono ?_
  rintro e w9_ ⟨he, hb⟩
  subst he
  replace A2 := Lib.hid ((sliceT 5 u8T).behind A2.out (hb.mono HB.out.size))
  replace O_w0 := Lib.hid (tyPlain.onext O_w0.out hb)
  replace E_w0 : Hid (∀ b, F_w0 b → b < w9_.heap.size) := Lib.hid (fun b h => Nat.lt_of_lt_of_le (E_w0.out b h) hb.size)
  replace O_x2 := Lib.hid ((sliceT 5 u8T).onext O_x2.out hb)
  replace E_x2 : Hid (∀ b, (ival w3_.heap.size w4_.heap.size) b → b < w9_.heap.size) := Lib.hid (fun b h => Nat.lt_of_lt_of_le (E_x2.out b h) hb.size)
  replace O_g0 := Lib.hid (tyPlain.onext O_g0.out hb)
  replace E_g0 : Hid (∀ b, F_g0 b → b < w9_.heap.size) := Lib.hid (fun b h => Nat.lt_of_lt_of_le (E_g0.out b h) hb.size)
  replace O_t2 := Lib.hid ((sliceT 5 u8T).onext O_t2.out hb)
  replace E_t2 : Hid (∀ b, (ival w7_.heap.size w8_.heap.size) b → b < w9_.heap.size) := Lib.hid (fun b h => Nat.lt_of_lt_of_le (E_t2.out b h) hb.size)
  replace K_w0 := Lib.hid ((hb.block _ (lt_of_block K_w0.out)).trans K_w0.out)
  replace K_g0 := Lib.hid ((hb.block _ (lt_of_block K_g0.out)).trans K_g0.out)
  replace HB := Lib.hid (HB.out.trans (hb.mono HB.out.size))
  clear hb
  clear O_t2 E_t2 D_t2
  clear X_x2_t2
  clear X_g0_t2
  -- ('set', 'k', '1')
  -- ('mark', 'k', '[]byte', 'x2', 'k')
  have hF7 : (sliceT 5 u8T).vcnt s2 ≤ 1099511627776 := vb_bs L2t.out
  obtain ⟨K7, hK7⟩ : ∃ K : Int, K = 1 + (((sliceT 5 u8T).vcnt s2 : Nat) : Int) := ⟨_, rfl⟩
  have hB7 : 0 ≤ K7 ∧ K7 ≤ 1099511627786 := by omega
  have G7 := Lib.hid hK7
  clear hK7
  have k_w0_0 := blk_cell K_w0.out 0
  rw [cell2_0] at k_w0_0
  have k_w0_1 := blk_cell K_w0.out 1
  rw [cell2_1] at k_w0_1
  have k_g0_0 := blk_cell K_g0.out 0
  rw [cell2_0] at k_g0_0
  have k_g0_1 := blk_cell K_g0.out 1
  rw [cell2_1] at k_g0_1
  go_wp2_with fail
  clear k_w0_0 k_w0_1 k_g0_0 k_g0_1
  refine (markByteS_t (k0 := 1) O_x2.out (by omega) (by omega)).mono ?_
  rintro e w10_ ⟨he, hO, hk⟩
  rw [← G7.out] at he
  subst he
  have hb := hk.below (B := w.heap.size) D_x2.out HB.out.size
  replace A2 := Lib.hid ((sliceT 5 u8T).behind A2.out hb)
  replace O_w0 := Lib.hid (tyPlain.okept O_w0.out hk X_w0_x2.out)
  replace E_w0 : Hid (∀ b, F_w0 b → b < w10_.heap.size) := Lib.hid (fun b h => Nat.lt_of_lt_of_le (E_w0.out b h) hk.size)
  replace E_x2 : Hid (∀ b, (ival w3_.heap.size w4_.heap.size) b → b < w10_.heap.size) := Lib.hid (fun b h => Nat.lt_of_lt_of_le (E_x2.out b h) hk.size)
  replace O_g0 := Lib.hid (tyPlain.okept O_g0.out hk (fun b h1 h2 => X_x2_g0.out b h2 h1))
  replace E_g0 : Hid (∀ b, F_g0 b → b < w10_.heap.size) := Lib.hid (fun b h => Nat.lt_of_lt_of_le (E_g0.out b h) hk.size)
  replace K_w0 := Lib.hid ((hk.block _ (lt_of_block K_w0.out) N_w0_x2.out).trans K_w0.out)
  replace K_g0 := Lib.hid ((hk.block _ (lt_of_block K_g0.out) N_g0_x2.out).trans K_g0.out)
  replace HB := Lib.hid (HB.out.trans hb)
  replace O_x2 := Lib.hid hO
  clear hO hk hb
  clear O_x2 E_x2 D_x2
  clear X_w0_x2
  clear X_x2_g0
  clear N_w0_x2
  clear N_g0_x2
  -- ('eq', 'Plain', ('own', 'g0'), ('own', 'w0'))
  have k_w0_0 := blk_cell K_w0.out 0
  rw [cell2_0] at k_w0_0
  have k_w0_1 := blk_cell K_w0.out 1
  rw [cell2_1] at k_w0_1
  have k_g0_0 := blk_cell K_g0.out 0
  rw [cell2_0] at k_g0_0
  have k_g0_1 := blk_cell K_g0.out 1
  rw [cell2_1] at k_g0_1
  go_wp2_with fail
  clear k_w0_0 k_w0_1 k_g0_0 k_g0_1
  refine (eqPlain_same (tyPlain.ord O_g0.out) (tyPlain.ord O_w0.out) (Nat.le_refl _) (Nat.le_refl _)).mono ?_
  rintro e w11_ ⟨he, hb⟩
  subst he
  replace A2 := Lib.hid ((sliceT 5 u8T).behind A2.out (hb.mono HB.out.size))
  replace O_w0 := Lib.hid (tyPlain.onext O_w0.out hb)
  replace E_w0 : Hid (∀ b, F_w0 b → b < w11_.heap.size) := Lib.hid (fun b h => Nat.lt_of_lt_of_le (E_w0.out b h) hb.size)
  replace O_g0 := Lib.hid (tyPlain.onext O_g0.out hb)
  replace E_g0 : Hid (∀ b, F_g0 b → b < w11_.heap.size) := Lib.hid (fun b h => Nat.lt_of_lt_of_le (E_g0.out b h) hb.size)
  replace K_w0 := Lib.hid ((hb.block _ (lt_of_block K_w0.out)).trans K_w0.out)
  replace K_g0 := Lib.hid ((hb.block _ (lt_of_block K_g0.out)).trans K_g0.out)
  replace HB := Lib.hid (HB.out.trans (hb.mono HB.out.size))
  clear hb
  -- ('set', 'm', '1')
  -- ('mark', 'm', 'Plain', 'g0', 'm')
  have hF10 : tyPlain.vcnt Y0 ≤ 1099511627776 := by rw [HY0.out]; exact vb_open _ _ _
  obtain ⟨K10, hK10⟩ : ∃ K : Int, K = 1 + ((tyPlain.vcnt Y0 : Nat) : Int) := ⟨_, rfl⟩
  have hB10 : 0 ≤ K10 ∧ K10 ≤ 2199023255562 := by omega
  have G10 := Lib.hid hK10
  clear hK10
  have k_w0_0 := blk_cell K_w0.out 0
  rw [cell2_0] at k_w0_0
  have k_w0_1 := blk_cell K_w0.out 1
  rw [cell2_1] at k_w0_1
  have k_g0_0 := blk_cell K_g0.out 0
  rw [cell2_0] at k_g0_0
  have k_g0_1 := blk_cell K_g0.out 1
  rw [cell2_1] at k_g0_1
  go_wp2_with fail
  clear k_w0_0 k_w0_1 k_g0_0 k_g0_1
  refine (markPlain_any (k0 := 1) O_g0.out E_g0.out (by omega) (by omega)).mono ?_
  rintro e w12_ ⟨he, hO, hk⟩
  rw [← G10.out] at he
  subst he
  have hb := hk.below (B := w.heap.size) D_g0.out HB.out.size
  replace A2 := Lib.hid ((sliceT 5 u8T).behind A2.out hb)
  replace O_w0 := Lib.hid (tyPlain.okept O_w0.out hk X_w0_g0.out)
  replace E_w0 : Hid (∀ b, F_w0 b → b < w12_.heap.size) := Lib.hid (fun b h => Nat.lt_of_lt_of_le (E_w0.out b h) hk.size)
  replace E_g0 : Hid (∀ b, F_g0 b → b < w12_.heap.size) := Lib.hid (fun b h => Nat.lt_of_lt_of_le (E_g0.out b h) hk.size)
  replace K_w0 := Lib.hid ((hk.block _ (lt_of_block K_w0.out) N_w0_g0.out).trans K_w0.out)
  replace K_g0 := Lib.hid ((hk.block _ (lt_of_block K_g0.out) N_g0_g0.out).trans K_g0.out)
  replace HB := Lib.hid (HB.out.trans hb)
  replace O_g0 := Lib.hid hO
  clear hO hk hb
  -- ('set', 'q', '1')
  -- ('held', 'q', 'Plain', 'g0', 'q')
  have k_w0_0 := blk_cell K_w0.out 0
  rw [cell2_0] at k_w0_0
  have k_w0_1 := blk_cell K_w0.out 1
  rw [cell2_1] at k_w0_1
  have k_g0_0 := blk_cell K_g0.out 0
  rw [cell2_0] at k_g0_0
  have k_g0_1 := blk_cell K_g0.out 1
  rw [cell2_1] at k_g0_1
  go_wp2_with fail
  clear k_w0_0 k_w0_1 k_g0_0 k_g0_1
  refine (heldPlain_any (x := Y0) (k0 := 1) (tyPlain.ord O_g0.out) (Nat.le_refl _) (by omega) (by omega)).mono ?_
  rintro e w13_ ⟨he, hb⟩
  rw [← G10.out] at he
  subst he
  replace A2 := Lib.hid ((sliceT 5 u8T).behind A2.out (hb.mono HB.out.size))
  replace O_w0 := Lib.hid (tyPlain.onext O_w0.out hb)
  replace E_w0 : Hid (∀ b, F_w0 b → b < w13_.heap.size) := Lib.hid (fun b h => Nat.lt_of_lt_of_le (E_w0.out b h) hb.size)
  replace O_g0 := Lib.hid (tyPlain.onext O_g0.out hb)
  replace E_g0 : Hid (∀ b, F_g0 b → b < w13_.heap.size) := Lib.hid (fun b h => Nat.lt_of_lt_of_le (E_g0.out b h) hb.size)
  replace K_w0 := Lib.hid ((hb.block _ (lt_of_block K_w0.out)).trans K_w0.out)
  replace K_g0 := Lib.hid ((hb.block _ (lt_of_block K_g0.out)).trans K_g0.out)
  replace HB := Lib.hid (HB.out.trans (hb.mono HB.out.size))
  clear hb
  have dd12 : decide (K10 < 0) = false := by simp; omega
  -- ('call', 'impl', 'OpenCell', [('arg', 0), ('arg', 1), ('copy', 2, '[]byte')], ['h0', 'h1'])
  have k_w0_0 := blk_cell K_w0.out 0
  rw [cell2_0] at k_w0_0
  have k_w0_1 := blk_cell K_w0.out 1
  rw [cell2_1] at k_w0_1
  have k_g0_0 := blk_cell K_g0.out 0
  rw [cell2_0] at k_g0_0
  have k_g0_1 := blk_cell K_g0.out 1
  rw [cell2_1] at k_g0_1
  go_wp2_with fail
  clear k_w0_0 k_w0_1 k_g0_0 k_g0_1
  refine (toByteS_t A2.out HB.out.size (Nat.le_trans B2t.out (by decide))).mono ?_
  rintro e w14_ ⟨v_t3, he, hO_t3, hb⟩
  subst he
  have hF_t3 : ∀ b, (ival w13_.heap.size w14_.heap.size) b → w13_.heap.size ≤ b ∧ b < w14_.heap.size := fun b h => h
  have D_t3 : Hid (∀ b, (ival w13_.heap.size w14_.heap.size) b → w.heap.size ≤ b) := Lib.hid (fun b h => Nat.le_trans HB.out.size (hF_t3 b h).1)
  replace A2 := Lib.hid ((sliceT 5 u8T).behind A2.out (hb.mono HB.out.size))
  replace O_w0 := Lib.hid (tyPlain.onext O_w0.out hb)
  replace E_w0 : Hid (∀ b, F_w0 b → b < w14_.heap.size) := Lib.hid (fun b h => Nat.lt_of_lt_of_le (E_w0.out b h) hb.size)
  replace O_g0 := Lib.hid (tyPlain.onext O_g0.out hb)
  replace E_g0 : Hid (∀ b, F_g0 b → b < w14_.heap.size) := Lib.hid (fun b h => Nat.lt_of_lt_of_le (E_g0.out b h) hb.size)
  replace K_w0 := Lib.hid ((hb.block _ (lt_of_block K_w0.out)).trans K_w0.out)
  replace K_g0 := Lib.hid ((hb.block _ (lt_of_block K_g0.out)).trans K_g0.out)
  replace HB := Lib.hid (HB.out.trans (hb.mono HB.out.size))
  clear hb
  have O_t3 := Lib.hid hO_t3
  have E_t3 : Hid (∀ b, (ival w13_.heap.size w14_.heap.size) b → b < w14_.heap.size) := Lib.hid (fun b h => (hF_t3 b h).2)
  clear hO_t3 hF_t3
  have k_w0_0 := blk_cell K_w0.out 0
  rw [cell2_0] at k_w0_0
  have k_w0_1 := blk_cell K_w0.out 1
  rw [cell2_1] at k_w0_1
  have k_g0_0 := blk_cell K_g0.out 0
  rw [cell2_0] at k_g0_0
  have k_g0_1 := blk_cell K_g0.out 1
  rw [cell2_1] at k_g0_1
  go_wp2_with fail
  clear k_w0_0 k_w0_1 k_g0_0 k_g0_1
  refine (impl_oc_t ((sliceT 5 u8T).ord O_t3.out) (Nat.le_refl _) W0.out W1.out (HL.out.next HB.out)).mono ?_
  rintro e w15_ ⟨c_h0, F_h0, he, hO_h0, hF_h0, hb⟩
  replace hO_h0 : tyPlain.own F_h0 w15_ c_h0 ((ocK a0 a1 s2, ocB a0 a1 s2)) := hO_h0
  rw [← HY0.out] at hO_h0
  rw [← HY1.out] at he
  subst he
  obtain ⟨ah0_1, nh0_1, _, rfl, _⟩ := own_Plain hO_h0
  have D_h0 : Hid (∀ b, F_h0 b → w.heap.size ≤ b) := Lib.hid (fun b h => Nat.le_trans HB.out.size (hF_h0 b h).1)
  replace A2 := Lib.hid ((sliceT 5 u8T).behind A2.out (hb.mono HB.out.size))
  replace O_w0 := Lib.hid (tyPlain.onext O_w0.out hb)
  replace E_w0 : Hid (∀ b, F_w0 b → b < w15_.heap.size) := Lib.hid (fun b h => Nat.lt_of_lt_of_le (E_w0.out b h) hb.size)
  replace O_g0 := Lib.hid (tyPlain.onext O_g0.out hb)
  replace E_g0 : Hid (∀ b, F_g0 b → b < w15_.heap.size) := Lib.hid (fun b h => Nat.lt_of_lt_of_le (E_g0.out b h) hb.size)
  replace O_t3 := Lib.hid ((sliceT 5 u8T).onext O_t3.out hb)
  replace E_t3 : Hid (∀ b, (ival w13_.heap.size w14_.heap.size) b → b < w15_.heap.size) := Lib.hid (fun b h => Nat.lt_of_lt_of_le (E_t3.out b h) hb.size)
  replace K_w0 := Lib.hid ((hb.block _ (lt_of_block K_w0.out)).trans K_w0.out)
  replace K_g0 := Lib.hid ((hb.block _ (lt_of_block K_g0.out)).trans K_g0.out)
  replace HB := Lib.hid (HB.out.trans (hb.mono HB.out.size))
  clear hb
  have O_h0 := Lib.hid hO_h0
  have E_h0 : Hid (∀ b, F_h0 b → b < w15_.heap.size) := Lib.hid (fun b h => (hF_h0 b h).2)
  clear hO_h0 hF_h0
  have hb : Below w15_.heap.size w15_ (w15_.alloc (.cells #[.int .i64 Y0.1, .slice ah0_1 Y0.2.length nh0_1] 25)) := (Below.refl _ _).alloc (Nat.le_refl _) _
  replace A2 := Lib.hid ((sliceT 5 u8T).behind A2.out (hb.mono HB.out.size))
  replace O_w0 := Lib.hid (tyPlain.onext O_w0.out hb)
  replace E_w0 : Hid (∀ b, F_w0 b → b < (w15_.alloc (.cells #[.int .i64 Y0.1, .slice ah0_1 Y0.2.length nh0_1] 25)).heap.size) := Lib.hid (fun b h => Nat.lt_of_lt_of_le (E_w0.out b h) hb.size)
  replace O_g0 := Lib.hid (tyPlain.onext O_g0.out hb)
  replace E_g0 : Hid (∀ b, F_g0 b → b < (w15_.alloc (.cells #[.int .i64 Y0.1, .slice ah0_1 Y0.2.length nh0_1] 25)).heap.size) := Lib.hid (fun b h => Nat.lt_of_lt_of_le (E_g0.out b h) hb.size)
  replace O_t3 := Lib.hid ((sliceT 5 u8T).onext O_t3.out hb)
  replace E_t3 : Hid (∀ b, (ival w13_.heap.size w14_.heap.size) b → b < (w15_.alloc (.cells #[.int .i64 Y0.1, .slice ah0_1 Y0.2.length nh0_1] 25)).heap.size) := Lib.hid (fun b h => Nat.lt_of_lt_of_le (E_t3.out b h) hb.size)
  replace O_h0 := Lib.hid (tyPlain.onext O_h0.out hb)
  replace E_h0 : Hid (∀ b, F_h0 b → b < (w15_.alloc (.cells #[.int .i64 Y0.1, .slice ah0_1 Y0.2.length nh0_1] 25)).heap.size) := Lib.hid (fun b h => Nat.lt_of_lt_of_le (E_h0.out b h) hb.size)
  replace K_w0 := Lib.hid ((hb.block _ (lt_of_block K_w0.out)).trans K_w0.out)
  replace K_g0 := Lib.hid ((hb.block _ (lt_of_block K_g0.out)).trans K_g0.out)
  replace HB := Lib.hid (HB.out.trans (hb.mono HB.out.size))
  clear hb
  have K_h0 := Lib.hid (heap_alloc_new w15_ (.cells #[.int .i64 Y0.1, .slice ah0_1 Y0.2.length nh0_1] 25))
  have k_w0_0 := blk_cell K_w0.out 0
  rw [cell2_0] at k_w0_0
  have k_w0_1 := blk_cell K_w0.out 1
  rw [cell2_1] at k_w0_1
  have k_g0_0 := blk_cell K_g0.out 0
  rw [cell2_0] at k_g0_0
  have k_g0_1 := blk_cell K_g0.out 1
  rw [cell2_1] at k_g0_1
  have k_h0_0 := blk_cell K_h0.out 0
  rw [cell2_0] at k_h0_0
  have k_h0_1 := blk_cell K_h0.out 1
  rw [cell2_1] at k_h0_1
  go_wp2_with fail
  clear k_w0_0 k_w0_1 k_g0_0 k_g0_1 k_h0_0 k_h0_1
  obtain ⟨w16_, hw⟩ : ∃ x, x = (w15_.alloc (.cells #[.int .i64 Y0.1, .slice ah0_1 Y0.2.length nh0_1] 25)) := ⟨_, rfl⟩
  rw [← hw] at HB A2 O_w0 E_w0 O_g0 E_g0 O_t3 E_t3 O_h0 E_h0 K_w0 K_g0 K_h0 ⊢
  clear hw
  clear O_t3 E_t3 D_t3
  clear A2
  -- ('eq', 'Plain', ('own', 'h0'), ('own', 'w0'))
  refine (eqPlain_same (tyPlain.ord O_h0.out) (tyPlain.ord O_w0.out) (Nat.le_refl _) (Nat.le_refl _)).mono ?_
  rintro e w17_ ⟨he, hb⟩
  subst he
  replace O_w0 := Lib.hid (tyPlain.onext O_w0.out hb)
  replace E_w0 : Hid (∀ b, F_w0 b → b < w17_.heap.size) := Lib.hid (fun b h => Nat.lt_of_lt_of_le (E_w0.out b h) hb.size)
  replace O_g0 := Lib.hid (tyPlain.onext O_g0.out hb)
  replace E_g0 : Hid (∀ b, F_g0 b → b < w17_.heap.size) := Lib.hid (fun b h => Nat.lt_of_lt_of_le (E_g0.out b h) hb.size)
  replace O_h0 := Lib.hid (tyPlain.onext O_h0.out hb)
  replace E_h0 : Hid (∀ b, F_h0 b → b < w17_.heap.size) := Lib.hid (fun b h => Nat.lt_of_lt_of_le (E_h0.out b h) hb.size)
  replace K_w0 := Lib.hid ((hb.block _ (lt_of_block K_w0.out)).trans K_w0.out)
  replace K_g0 := Lib.hid ((hb.block _ (lt_of_block K_g0.out)).trans K_g0.out)
  replace K_h0 := Lib.hid ((hb.block _ (lt_of_block K_h0.out)).trans K_h0.out)
  replace HB := Lib.hid (HB.out.trans (hb.mono HB.out.size))
  clear hb
  clear O_w0 E_w0 D_w0
  clear X_w0_g0
  clear K_w0
  clear N_w0_g0
  clear O_h0 E_h0 D_h0
  clear K_h0
  -- ('set', 'q', '1')
  -- ('held', 'q', 'Plain', 'g0', 'q')
  have k_g0_0 := blk_cell K_g0.out 0
  rw [cell2_0] at k_g0_0
  have k_g0_1 := blk_cell K_g0.out 1
  rw [cell2_1] at k_g0_1
  go_wp2_with fail
  clear k_g0_0 k_g0_1
  refine (heldPlain_any (x := Y0) (k0 := 1) (tyPlain.ord O_g0.out) (Nat.le_refl _) (by omega) (by omega)).mono ?_
  rintro e w18_ ⟨he, hb⟩
  rw [← G10.out] at he
  subst he
  replace O_g0 := Lib.hid (tyPlain.onext O_g0.out hb)
  replace E_g0 : Hid (∀ b, F_g0 b → b < w18_.heap.size) := Lib.hid (fun b h => Nat.lt_of_lt_of_le (E_g0.out b h) hb.size)
  replace K_g0 := Lib.hid ((hb.block _ (lt_of_block K_g0.out)).trans K_g0.out)
  replace HB := Lib.hid (HB.out.trans (hb.mono HB.out.size))
  clear hb
  have dd16 : decide (K10 < 0) = false := by simp; omega
  clear O_g0 E_g0 D_g0
  clear N_g0_g0
  clear K_g0
  go_wp2_with fail
  go_ret
  exact ⟨rfl, HB.out⟩
  
end Go.Proofs.YtbimihljaalllaaDoor
