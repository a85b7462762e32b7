/- FnExactOpenStep: the walk. No conditions. -/
import Derived.Test.YtjbkhbbchacooaaGreatDoorJ1
import Derived.Test.YtjbkhbbchacooaaGreatDoorRtW
import Derived.Deep.RegionHeld3
import Derived.Deep.DeepCutAuto
namespace Go.Proofs.YtjbkhbbchacooaaGreatDoor
open Go Go.RowKit
set_option linter.unusedVariables false
attribute [local irreducible] kh

set_option maxHeartbeats 4000000 in
set_option maxRecDepth 100000 in
theorem fnExactOpenStep_walk (c0 : List Value) (s0 : VRatchet) (a1 : Int) (v2 : Value) (s2 : List Int) (w : World) (w0 : tyRatchet.rd w.heap.size w c0 s0) (w1 : (Lit.int .i64 a1).wf = true) (w2 : (sliceT 5 u8T).rd w.heap.size w [v2] s2) (hL : laidMetH Tryz.prog Rows.fnExactOpenStepRow.laid w) :
    Calls Tryz.prog 4 #[.agg c0.toArray, .int .i64 a1, v2] w fun e w' => e = .returned (.bool true) ∧ Below w.heap.size w w' := by
  have HL := Lib.hid (gv_of_laid hL)
  clear hL
  obtain ⟨a0_2, n0_2, rfl, _⟩ := rd_Ratchet w0
  have A0 := Lib.hid w0
  clear w0
  obtain ⟨av2, cv2, hv2, lv2, mv2, _⟩ := sl_open w2
  have hw2 := (List.cons.inj hv2).1
  clear hv2
  subst hw2
  unfold maxLen at mv2
  have A2 := Lib.hid w2
  clear w2
  have W1 := Lib.hid w1
  have w1b := wf_i64 w1
  clear w1
  by_cases by2 : (s2.length : Int) ≤ 1048576
  case neg =>
    have db2 : decide ((1048576 : Int) < (s2.length : Int)) = true := by simp; omega
    go_enter Tryz.func4, Tryz.ntmps4
    have hb := ((Below.refl w.heap.size w).alloc (Nat.le_refl _) (.cells #[.int .i64 s0.1, .int .i64 s0.2.1, .slice a0_2 s0.2.2.length n0_2] 44))
    have K_p0 := Lib.hid (heap_alloc_new w (.cells #[.int .i64 s0.1, .int .i64 s0.2.1, .slice a0_2 s0.2.2.length n0_2] 44))
    replace A0 := Lib.hid (tyRatchet.behind A0.out hb)
    replace A2 := Lib.hid ((sliceT 5 u8T).behind A2.out hb)
    have HB := Lib.hid hb
    clear hb
    have k_p0_0 := blk_cell K_p0.out 0
    rw [cell3_0] at k_p0_0
    have k_p0_1 := blk_cell K_p0.out 1
    rw [cell3_1] at k_p0_1
    have k_p0_2 := blk_cell K_p0.out 2
    rw [cell3_2] at k_p0_2
    go_wp2_with fail
    clear k_p0_0 k_p0_1 k_p0_2
    obtain ⟨w1_, hw⟩ : ∃ x, x = (w.alloc (.cells #[.int .i64 s0.1, .int .i64 s0.2.1, .slice a0_2 s0.2.2.length n0_2] 44)) := ⟨_, rfl⟩
    rw [← hw] at HB A0 A2 K_p0 ⊢
    clear hw
    go_ret
    exact ⟨rfl, HB.out⟩
  have db2 : decide ((1048576 : Int) < (s2.length : Int)) = false := by simp; omega
  have B2t : Hid ((sliceT 5 u8T).tot s2 ≤ 1048576) := Lib.hid (by show totL (intT _ _ _) _ ≤ _; rw [totL_int]; omega)
  have L2t : Hid (s2.length ≤ 1048576) := Lib.hid (by omega)
  clear by2
  by_cases bz0 : (tyRatchet.tot s0 : Int) ≤ (1048576 : Int)
  case neg =>
    have C0 := Lib.hid bz0
    clear bz0
    go_enter Tryz.func4, Tryz.ntmps4
    have hb := ((Below.refl w.heap.size w).alloc (Nat.le_refl _) (.cells #[.int .i64 s0.1, .int .i64 s0.2.1, .slice a0_2 s0.2.2.length n0_2] 44))
    have K_p0 := Lib.hid (heap_alloc_new w (.cells #[.int .i64 s0.1, .int .i64 s0.2.1, .slice a0_2 s0.2.2.length n0_2] 44))
    replace A0 := Lib.hid (tyRatchet.behind A0.out hb)
    replace A2 := Lib.hid ((sliceT 5 u8T).behind A2.out hb)
    have HB := Lib.hid hb
    clear hb
    have k_p0_0 := blk_cell K_p0.out 0
    rw [cell3_0] at k_p0_0
    have k_p0_1 := blk_cell K_p0.out 1
    rw [cell3_1] at k_p0_1
    have k_p0_2 := blk_cell K_p0.out 2
    rw [cell3_2] at k_p0_2
    go_wp2_with fail
    clear k_p0_0 k_p0_1 k_p0_2
    obtain ⟨w1_, hw⟩ : ∃ x, x = (w.alloc (.cells #[.int .i64 s0.1, .int .i64 s0.2.1, .slice a0_2 s0.2.2.length n0_2] 44)) := ⟨_, rfl⟩
    rw [← hw] at HB A0 A2 K_p0 ⊢
    clear hw
    refine (szRatchet_any A0.out (by omega) (by omega) HB.out.size).mono ?_
    rintro e w2_ ⟨he, hb⟩
    rw [if_neg (by have := C0.out; omega)] at he
    subst he
    replace A0 := Lib.hid (tyRatchet.behind A0.out (hb.mono HB.out.size))
    replace A2 := Lib.hid ((sliceT 5 u8T).behind A2.out (hb.mono HB.out.size))
    replace K_p0 := Lib.hid ((hb.block _ (lt_of_block K_p0.out)).trans K_p0.out)
    replace HB := Lib.hid (HB.out.trans (hb.mono HB.out.size))
    clear hb
    have k_p0_0 := blk_cell K_p0.out 0
    rw [cell3_0] at k_p0_0
    have k_p0_1 := blk_cell K_p0.out 1
    rw [cell3_1] at k_p0_1
    have k_p0_2 := blk_cell K_p0.out 2
    rw [cell3_2] at k_p0_2
    go_wp2_with fail
    clear k_p0_0 k_p0_1 k_p0_2
    go_ret
    exact ⟨rfl, HB.out⟩
  have C0 := Lib.hid bz0
  obtain ⟨q0, hq0⟩ : ∃ q : Int, q = (1048576 : Int) - (tyRatchet.tot s0 : Int) := ⟨_, rfl⟩
  have d0q : decide (q0 < 0) = false := by simp; omega
  have e0q : 0 ≤ q0 ∧ q0 ≤ 1048576 := by omega
  have B0t : Hid (tyRatchet.tot s0 ≤ 1048576) := Lib.hid (by omega)
  have H0q := Lib.hid hq0
  clear hq0 bz0
  go_enter Tryz.func4, Tryz.ntmps4
  have hb := ((Below.refl w.heap.size w).alloc (Nat.le_refl _) (.cells #[.int .i64 s0.1, .int .i64 s0.2.1, .slice a0_2 s0.2.2.length n0_2] 44))
  have K_p0 := Lib.hid (heap_alloc_new w (.cells #[.int .i64 s0.1, .int .i64 s0.2.1, .slice a0_2 s0.2.2.length n0_2] 44))
  replace A0 := Lib.hid (tyRatchet.behind A0.out hb)
  replace A2 := Lib.hid ((sliceT 5 u8T).behind A2.out hb)
  have HB := Lib.hid hb
  clear hb
  have k_p0_0 := blk_cell K_p0.out 0
  rw [cell3_0] at k_p0_0
  have k_p0_1 := blk_cell K_p0.out 1
  rw [cell3_1] at k_p0_1
  have k_p0_2 := blk_cell K_p0.out 2
  rw [cell3_2] at k_p0_2
  go_wp2_with fail
  clear k_p0_0 k_p0_1 k_p0_2
  obtain ⟨w1_, hw⟩ : ∃ x, x = (w.alloc (.cells #[.int .i64 s0.1, .int .i64 s0.2.1, .slice a0_2 s0.2.2.length n0_2] 44)) := ⟨_, rfl⟩
  rw [← hw] at HB A0 A2 K_p0 ⊢
  clear hw
  refine (szRatchet_any A0.out (by omega) (by omega) HB.out.size).mono ?_
  rintro e w2_ ⟨he, hb⟩
  rw [if_pos (by have := C0.out; omega), ← H0q.out] at he
  subst he
  replace A0 := Lib.hid (tyRatchet.behind A0.out (hb.mono HB.out.size))
  replace A2 := Lib.hid ((sliceT 5 u8T).behind A2.out (hb.mono HB.out.size))
  replace K_p0 := Lib.hid ((hb.block _ (lt_of_block K_p0.out)).trans K_p0.out)
  replace HB := Lib.hid (HB.out.trans (hb.mono HB.out.size))
  clear hb
  -- ('big', 2)
  -- ('sz', 0)
  -- ('call', 'spec', 'OpenStep', [('copy', 0, 'Ratchet'), ('arg', 1), ('copy', 2, '[]byte')], ['w0', 'w1', 'w2'])
  have k_p0_0 := blk_cell K_p0.out 0
  rw [cell3_0] at k_p0_0
  have k_p0_1 := blk_cell K_p0.out 1
  rw [cell3_1] at k_p0_1
  have k_p0_2 := blk_cell K_p0.out 2
  rw [cell3_2] at k_p0_2
  go_wp2_with fail
  clear k_p0_0 k_p0_1 k_p0_2
  refine (toRatchet_any A0.out HB.out.size (Nat.le_trans B0t.out (by decide))).mono ?_
  rintro e w3_ ⟨c_t1, he, hO_t1, hb⟩
  subst he
  have hF_t1 : ∀ b, (ival w2_.heap.size w3_.heap.size) b → w2_.heap.size ≤ b ∧ b < w3_.heap.size := fun b h => h
  obtain ⟨at1_2, nt1_2, _, rfl, _⟩ := own_Ratchet hO_t1
  have D_t1 : Hid (∀ b, (ival w2_.heap.size w3_.heap.size) b → w.heap.size ≤ b) := Lib.hid (fun b h => Nat.le_trans HB.out.size (hF_t1 b h).1)
  replace A0 := Lib.hid (tyRatchet.behind A0.out (hb.mono HB.out.size))
  replace A2 := Lib.hid ((sliceT 5 u8T).behind A2.out (hb.mono HB.out.size))
  replace K_p0 := Lib.hid ((hb.block _ (lt_of_block K_p0.out)).trans K_p0.out)
  replace HB := Lib.hid (HB.out.trans (hb.mono HB.out.size))
  clear hb
  have O_t1 := Lib.hid hO_t1
  have E_t1 : Hid (∀ b, (ival w2_.heap.size w3_.heap.size) b → b < w3_.heap.size) := Lib.hid (fun b h => (hF_t1 b h).2)
  clear hO_t1 hF_t1
  have k_p0_0 := blk_cell K_p0.out 0
  rw [cell3_0] at k_p0_0
  have k_p0_1 := blk_cell K_p0.out 1
  rw [cell3_1] at k_p0_1
  have k_p0_2 := blk_cell K_p0.out 2
  rw [cell3_2] at k_p0_2
  go_wp2_with fail
  clear k_p0_0 k_p0_1 k_p0_2
  refine (toByteS_t A2.out HB.out.size (Nat.le_trans B2t.out (by decide))).mono ?_
  rintro e w4_ ⟨v_t2, he, hO_t2, hb⟩
  subst he
  have hF_t2 : ∀ b, (ival w3_.heap.size w4_.heap.size) b → w3_.heap.size ≤ b ∧ b < w4_.heap.size := fun b h => h
  have D_t2 : Hid (∀ b, (ival w3_.heap.size w4_.heap.size) b → w.heap.size ≤ b) := Lib.hid (fun b h => Nat.le_trans HB.out.size (hF_t2 b h).1)
  replace A0 := Lib.hid (tyRatchet.behind A0.out (hb.mono HB.out.size))
  replace A2 := Lib.hid ((sliceT 5 u8T).behind A2.out (hb.mono HB.out.size))
  replace O_t1 := Lib.hid (tyRatchet.onext O_t1.out hb)
  replace E_t1 : Hid (∀ b, (ival w2_.heap.size w3_.heap.size) b → b < w4_.heap.size) := Lib.hid (fun b h => Nat.lt_of_lt_of_le (E_t1.out b h) hb.size)
  replace K_p0 := Lib.hid ((hb.block _ (lt_of_block K_p0.out)).trans K_p0.out)
  replace HB := Lib.hid (HB.out.trans (hb.mono HB.out.size))
  clear hb
  have O_t2 := Lib.hid hO_t2
  have E_t2 : Hid (∀ b, (ival w3_.heap.size w4_.heap.size) b → b < w4_.heap.size) := Lib.hid (fun b h => (hF_t2 b h).2)
  clear hO_t2 hF_t2
  have k_p0_0 := blk_cell K_p0.out 0
  rw [cell3_0] at k_p0_0
  have k_p0_1 := blk_cell K_p0.out 1
  rw [cell3_1] at k_p0_1
  have k_p0_2 := blk_cell K_p0.out 2
  rw [cell3_2] at k_p0_2
  go_wp2_with fail
  clear k_p0_0 k_p0_1 k_p0_2
  refine (spec_os_t (tyRatchet.ord O_t1.out) (Nat.le_refl _) ((sliceT 5 u8T).ord O_t2.out) (Nat.le_refl _) W1.out B0t.out).mono ?_
  obtain ⟨Y0, hY0⟩ : ∃ y : VRatchet, y = (osC s0.1 s0.2.1 s0.2.2 a1 s2, osS s0.1 s0.2.1 s0.2.2 a1 s2, osL s0.1 s0.2.1 s0.2.2 a1 s2) := ⟨_, rfl⟩
  obtain ⟨Y1, hY1⟩ : ∃ y : List Int, y = osB s0.1 s0.2.1 s0.2.2 a1 s2 := ⟨_, rfl⟩
  obtain ⟨Y2, hY2⟩ : ∃ y : Bool, y = osq s0.1 s0.2.1 s0.2.2 a1 s2 := ⟨_, rfl⟩
  rintro e w5_ ⟨c_w0, v_w1, F_w0, F_w1, he, hO_w0, hO_w1, hF_w0, hF_w1, hX_w0_w1, hb⟩
  replace hO_w0 : tyRatchet.own F_w0 w5_ c_w0 ((osC s0.1 s0.2.1 s0.2.2 a1 s2, osS s0.1 s0.2.1 s0.2.2 a1 s2, osL s0.1 s0.2.1 s0.2.2 a1 s2)) := hO_w0
  replace hO_w1 : (sliceT 5 u8T).own F_w1 w5_ [v_w1] (osB s0.1 s0.2.1 s0.2.2 a1 s2) := hO_w1
  rw [← hY0] at hO_w0
  rw [← hY1] at hO_w1
  rw [← hY2] at he
  have HY0 := Lib.hid hY0
  clear hY0
  have HY1 := Lib.hid hY1
  clear hY1
  have HY2 := Lib.hid hY2
  clear hY2
  subst he
  obtain ⟨aw0_2, nw0_2, _, rfl, _⟩ := own_Ratchet hO_w0
  clear hX_w0_w1
  have D_w0 : Hid (∀ b, F_w0 b → w.heap.size ≤ b) := Lib.hid (fun b h => Nat.le_trans HB.out.size (hF_w0 b h).1)
  have D_w1 : Hid (∀ b, F_w1 b → w.heap.size ≤ b) := Lib.hid (fun b h => Nat.le_trans HB.out.size (hF_w1 b h).1)
  replace A0 := Lib.hid (tyRatchet.behind A0.out (hb.mono HB.out.size))
  replace A2 := Lib.hid ((sliceT 5 u8T).behind A2.out (hb.mono HB.out.size))
  replace O_t1 := Lib.hid (tyRatchet.onext O_t1.out hb)
  replace E_t1 : Hid (∀ b, (ival w2_.heap.size w3_.heap.size) b → b < w5_.heap.size) := Lib.hid (fun b h => Nat.lt_of_lt_of_le (E_t1.out b h) hb.size)
  replace O_t2 := Lib.hid ((sliceT 5 u8T).onext O_t2.out hb)
  replace E_t2 : Hid (∀ b, (ival w3_.heap.size w4_.heap.size) b → b < w5_.heap.size) := Lib.hid (fun b h => Nat.lt_of_lt_of_le (E_t2.out b h) hb.size)
  replace K_p0 := Lib.hid ((hb.block _ (lt_of_block K_p0.out)).trans K_p0.out)
  replace HB := Lib.hid (HB.out.trans (hb.mono HB.out.size))
  clear hb
  have O_w0 := Lib.hid hO_w0
  have E_w0 : Hid (∀ b, F_w0 b → b < w5_.heap.size) := Lib.hid (fun b h => (hF_w0 b h).2)
  clear hO_w0 hF_w0
  have O_w1 := Lib.hid hO_w1
  have E_w1 : Hid (∀ b, F_w1 b → b < w5_.heap.size) := Lib.hid (fun b h => (hF_w1 b h).2)
  clear hO_w1 hF_w1
  have hb : Below w5_.heap.size w5_ (w5_.alloc (.cells #[.int .i64 Y0.1, .int .i64 Y0.2.1, .slice aw0_2 Y0.2.2.length nw0_2] 26)) := (Below.refl _ _).alloc (Nat.le_refl _) _
  replace A0 := Lib.hid (tyRatchet.behind A0.out (hb.mono HB.out.size))
  replace A2 := Lib.hid ((sliceT 5 u8T).behind A2.out (hb.mono HB.out.size))
  replace O_t1 := Lib.hid (tyRatchet.onext O_t1.out hb)
  replace E_t1 : Hid (∀ b, (ival w2_.heap.size w3_.heap.size) b → b < (w5_.alloc (.cells #[.int .i64 Y0.1, .int .i64 Y0.2.1, .slice aw0_2 Y0.2.2.length nw0_2] 26)).heap.size) := Lib.hid (fun b h => Nat.lt_of_lt_of_le (E_t1.out b h) hb.size)
  replace O_t2 := Lib.hid ((sliceT 5 u8T).onext O_t2.out hb)
  replace E_t2 : Hid (∀ b, (ival w3_.heap.size w4_.heap.size) b → b < (w5_.alloc (.cells #[.int .i64 Y0.1, .int .i64 Y0.2.1, .slice aw0_2 Y0.2.2.length nw0_2] 26)).heap.size) := Lib.hid (fun b h => Nat.lt_of_lt_of_le (E_t2.out b h) hb.size)
  replace O_w0 := Lib.hid (tyRatchet.onext O_w0.out hb)
  replace E_w0 : Hid (∀ b, F_w0 b → b < (w5_.alloc (.cells #[.int .i64 Y0.1, .int .i64 Y0.2.1, .slice aw0_2 Y0.2.2.length nw0_2] 26)).heap.size) := Lib.hid (fun b h => Nat.lt_of_lt_of_le (E_w0.out b h) hb.size)
  replace O_w1 := Lib.hid ((sliceT 5 u8T).onext O_w1.out hb)
  replace E_w1 : Hid (∀ b, F_w1 b → b < (w5_.alloc (.cells #[.int .i64 Y0.1, .int .i64 Y0.2.1, .slice aw0_2 Y0.2.2.length nw0_2] 26)).heap.size) := Lib.hid (fun b h => Nat.lt_of_lt_of_le (E_w1.out b h) hb.size)
  replace K_p0 := Lib.hid ((hb.block _ (lt_of_block K_p0.out)).trans K_p0.out)
  replace HB := Lib.hid (HB.out.trans (hb.mono HB.out.size))
  clear hb
  have K_w0 := Lib.hid (heap_alloc_new w5_ (.cells #[.int .i64 Y0.1, .int .i64 Y0.2.1, .slice aw0_2 Y0.2.2.length nw0_2] 26))
  have k_p0_0 := blk_cell K_p0.out 0
  rw [cell3_0] at k_p0_0
  have k_p0_1 := blk_cell K_p0.out 1
  rw [cell3_1] at k_p0_1
  have k_p0_2 := blk_cell K_p0.out 2
  rw [cell3_2] at k_p0_2
  have k_w0_0 := blk_cell K_w0.out 0
  rw [cell3_0] at k_w0_0
  have k_w0_1 := blk_cell K_w0.out 1
  rw [cell3_1] at k_w0_1
  have k_w0_2 := blk_cell K_w0.out 2
  rw [cell3_2] at k_w0_2
  go_wp2_with fail
  clear k_p0_0 k_p0_1 k_p0_2 k_w0_0 k_w0_1 k_w0_2
  obtain ⟨w6_, hw⟩ : ∃ x, x = (w5_.alloc (.cells #[.int .i64 Y0.1, .int .i64 Y0.2.1, .slice aw0_2 Y0.2.2.length nw0_2] 26)) := ⟨_, rfl⟩
  rw [← hw] at HB A0 A2 O_t1 E_t1 O_t2 E_t2 O_w0 E_w0 O_w1 E_w1 K_p0 K_w0 ⊢
  clear hw
  clear O_t1 E_t1 D_t1
  clear O_t2 E_t2 D_t2
  -- ('copy', 'x0', 0, 'Ratchet')
  refine (toRatchet_any A0.out HB.out.size (Nat.le_trans B0t.out (by decide))).mono ?_
  rintro e w7_ ⟨c_x0, he, hO_x0, hb⟩
  subst he
  have hF_x0 : ∀ b, (ival w6_.heap.size w7_.heap.size) b → w6_.heap.size ≤ b ∧ b < w7_.heap.size := fun b h => h
  obtain ⟨ax0_2, nx0_2, _, rfl, _⟩ := own_Ratchet hO_x0
  have X_w0_x0 : Hid (∀ b, F_w0 b → ¬ (ival w6_.heap.size w7_.heap.size) b) := Lib.hid (fun b h1 h2 => by have := E_w0.out b h1; have := (hF_x0 b h2).1; omega)
  have X_w1_x0 : Hid (∀ b, F_w1 b → ¬ (ival w6_.heap.size w7_.heap.size) b) := Lib.hid (fun b h1 h2 => by have := E_w1.out b h1; have := (hF_x0 b h2).1; omega)
  have N_p0_x0 : Hid (¬ (ival w6_.heap.size w7_.heap.size) (w.heap.size)) := Lib.hid (fun h => by have := (hF_x0 _ h).1; have := lt_of_block K_p0.out; omega)
  have N_w0_x0 : Hid (¬ (ival w6_.heap.size w7_.heap.size) (w5_.heap.size)) := Lib.hid (fun h => by have := (hF_x0 _ h).1; have := lt_of_block K_w0.out; omega)
  have D_x0 : Hid (∀ b, (ival w6_.heap.size w7_.heap.size) b → w.heap.size ≤ b) := Lib.hid (fun b h => Nat.le_trans HB.out.size (hF_x0 b h).1)
  replace A0 := Lib.hid (tyRatchet.behind A0.out (hb.mono HB.out.size))
  replace A2 := Lib.hid ((sliceT 5 u8T).behind A2.out (hb.mono HB.out.size))
  replace O_w0 := Lib.hid (tyRatchet.onext O_w0.out hb)
  replace E_w0 : Hid (∀ b, F_w0 b → b < w7_.heap.size) := Lib.hid (fun b h => Nat.lt_of_lt_of_le (E_w0.out b h) hb.size)
  replace O_w1 := Lib.hid ((sliceT 5 u8T).onext O_w1.out hb)
  replace E_w1 : Hid (∀ b, F_w1 b → b < w7_.heap.size) := Lib.hid (fun b h => Nat.lt_of_lt_of_le (E_w1.out b h) hb.size)
  replace K_p0 := Lib.hid ((hb.block _ (lt_of_block K_p0.out)).trans K_p0.out)
  replace K_w0 := Lib.hid ((hb.block _ (lt_of_block K_w0.out)).trans K_w0.out)
  replace HB := Lib.hid (HB.out.trans (hb.mono HB.out.size))
  clear hb
  have O_x0 := Lib.hid hO_x0
  have E_x0 : Hid (∀ b, (ival w6_.heap.size w7_.heap.size) b → b < w7_.heap.size) := Lib.hid (fun b h => (hF_x0 b h).2)
  clear hO_x0 hF_x0
  have hb : Below w7_.heap.size w7_ (w7_.alloc (.cells #[.int .i64 s0.1, .int .i64 s0.2.1, .slice ax0_2 s0.2.2.length nx0_2] 26)) := (Below.refl _ _).alloc (Nat.le_refl _) _
  have N_x0_x0 : Hid (¬ (ival w6_.heap.size w7_.heap.size) w7_.heap.size) := Lib.hid (fun h => by have := E_x0.out _ h; omega)
  replace A0 := Lib.hid (tyRatchet.behind A0.out (hb.mono HB.out.size))
  replace A2 := Lib.hid ((sliceT 5 u8T).behind A2.out (hb.mono HB.out.size))
  replace O_w0 := Lib.hid (tyRatchet.onext O_w0.out hb)
  replace E_w0 : Hid (∀ b, F_w0 b → b < (w7_.alloc (.cells #[.int .i64 s0.1, .int .i64 s0.2.1, .slice ax0_2 s0.2.2.length nx0_2] 26)).heap.size) := Lib.hid (fun b h => Nat.lt_of_lt_of_le (E_w0.out b h) hb.size)
  replace O_w1 := Lib.hid ((sliceT 5 u8T).onext O_w1.out hb)
  replace E_w1 : Hid (∀ b, F_w1 b → b < (w7_.alloc (.cells #[.int .i64 s0.1, .int .i64 s0.2.1, .slice ax0_2 s0.2.2.length nx0_2] 26)).heap.size) := Lib.hid (fun b h => Nat.lt_of_lt_of_le (E_w1.out b h) hb.size)
  replace O_x0 := Lib.hid (tyRatchet.onext O_x0.out hb)
  replace E_x0 : Hid (∀ b, (ival w6_.heap.size w7_.heap.size) b → b < (w7_.alloc (.cells #[.int .i64 s0.1, .int .i64 s0.2.1, .slice ax0_2 s0.2.2.length nx0_2] 26)).heap.size) := Lib.hid (fun b h => Nat.lt_of_lt_of_le (E_x0.out b h) hb.size)
  replace K_p0 := Lib.hid ((hb.block _ (lt_of_block K_p0.out)).trans K_p0.out)
  replace K_w0 := Lib.hid ((hb.block _ (lt_of_block K_w0.out)).trans K_w0.out)
  replace HB := Lib.hid (HB.out.trans (hb.mono HB.out.size))
  clear hb
  have K_x0 := Lib.hid (heap_alloc_new w7_ (.cells #[.int .i64 s0.1, .int .i64 s0.2.1, .slice ax0_2 s0.2.2.length nx0_2] 26))
  have k_p0_0 := blk_cell K_p0.out 0
  rw [cell3_0] at k_p0_0
  have k_p0_1 := blk_cell K_p0.out 1
  rw [cell3_1] at k_p0_1
  have k_p0_2 := blk_cell K_p0.out 2
  rw [cell3_2] at k_p0_2
  have k_w0_0 := blk_cell K_w0.out 0
  rw [cell3_0] at k_w0_0
  have k_w0_1 := blk_cell K_w0.out 1
  rw [cell3_1] at k_w0_1
  have k_w0_2 := blk_cell K_w0.out 2
  rw [cell3_2] at k_w0_2
  have k_x0_0 := blk_cell K_x0.out 0
  rw [cell3_0] at k_x0_0
  have k_x0_1 := blk_cell K_x0.out 1
  rw [cell3_1] at k_x0_1
  have k_x0_2 := blk_cell K_x0.out 2
  rw [cell3_2] at k_x0_2
  go_wp2_with fail
  clear k_p0_0 k_p0_1 k_p0_2 k_w0_0 k_w0_1 k_w0_2 k_x0_0 k_x0_1 k_x0_2
  obtain ⟨w8_, hw⟩ : ∃ x, x = w7_.alloc (.cells #[.int .i64 s0.1, .int .i64 s0.2.1, .slice ax0_2 s0.2.2.length nx0_2] 26) := ⟨_, rfl⟩
  rw [← hw] at HB A0 A2 O_w0 E_w0 O_w1 E_w1 O_x0 E_x0 K_p0 K_w0 K_x0 ⊢
  clear hw
  -- ('copy', 'x2', 2, '[]byte')
  refine (toByteS_t A2.out HB.out.size (Nat.le_trans B2t.out (by decide))).mono ?_
  rintro e w9_ ⟨v_x2, he, hO_x2, hb⟩
  subst he
  have hF_x2 : ∀ b, (ival w8_.heap.size w9_.heap.size) b → w8_.heap.size ≤ b ∧ b < w9_.heap.size := fun b h => h
  have X_w0_x2 : Hid (∀ b, F_w0 b → ¬ (ival w8_.heap.size w9_.heap.size) b) := Lib.hid (fun b h1 h2 => by have := E_w0.out b h1; have := (hF_x2 b h2).1; omega)
  have X_w1_x2 : Hid (∀ b, F_w1 b → ¬ (ival w8_.heap.size w9_.heap.size) b) := Lib.hid (fun b h1 h2 => by have := E_w1.out b h1; have := (hF_x2 b h2).1; omega)
  have X_x0_x2 : Hid (∀ b, (ival w6_.heap.size w7_.heap.size) b → ¬ (ival w8_.heap.size w9_.heap.size) b) := Lib.hid (fun b h1 h2 => by have := E_x0.out b h1; have := (hF_x2 b h2).1; omega)
  have N_p0_x2 : Hid (¬ (ival w8_.heap.size w9_.heap.size) (w.heap.size)) := Lib.hid (fun h => by have := (hF_x2 _ h).1; have := lt_of_block K_p0.out; omega)
  have N_w0_x2 : Hid (¬ (ival w8_.heap.size w9_.heap.size) (w5_.heap.size)) := Lib.hid (fun h => by have := (hF_x2 _ h).1; have := lt_of_block K_w0.out; omega)
  have N_x0_x2 : Hid (¬ (ival w8_.heap.size w9_.heap.size) (w7_.heap.size)) := Lib.hid (fun h => by have := (hF_x2 _ h).1; have := lt_of_block K_x0.out; omega)
  have D_x2 : Hid (∀ b, (ival w8_.heap.size w9_.heap.size) b → w.heap.size ≤ b) := Lib.hid (fun b h => Nat.le_trans HB.out.size (hF_x2 b h).1)
  replace A0 := Lib.hid (tyRatchet.behind A0.out (hb.mono HB.out.size))
  replace A2 := Lib.hid ((sliceT 5 u8T).behind A2.out (hb.mono HB.out.size))
  replace O_w0 := Lib.hid (tyRatchet.onext O_w0.out hb)
  replace E_w0 : Hid (∀ b, F_w0 b → b < w9_.heap.size) := Lib.hid (fun b h => Nat.lt_of_lt_of_le (E_w0.out b h) hb.size)
  replace O_w1 := Lib.hid ((sliceT 5 u8T).onext O_w1.out hb)
  replace E_w1 : Hid (∀ b, F_w1 b → b < w9_.heap.size) := Lib.hid (fun b h => Nat.lt_of_lt_of_le (E_w1.out b h) hb.size)
  replace O_x0 := Lib.hid (tyRatchet.onext O_x0.out hb)
  replace E_x0 : Hid (∀ b, (ival w6_.heap.size w7_.heap.size) b → b < w9_.heap.size) := Lib.hid (fun b h => Nat.lt_of_lt_of_le (E_x0.out b h) hb.size)
  replace K_p0 := Lib.hid ((hb.block _ (lt_of_block K_p0.out)).trans K_p0.out)
  replace K_w0 := Lib.hid ((hb.block _ (lt_of_block K_w0.out)).trans K_w0.out)
  replace K_x0 := Lib.hid ((hb.block _ (lt_of_block K_x0.out)).trans K_x0.out)
  replace HB := Lib.hid (HB.out.trans (hb.mono HB.out.size))
  clear hb
  have O_x2 := Lib.hid hO_x2
  have E_x2 : Hid (∀ b, (ival w8_.heap.size w9_.heap.size) b → b < w9_.heap.size) := Lib.hid (fun b h => (hF_x2 b h).2)
  clear hO_x2 hF_x2
  -- ('call', 'impl', 'OpenStep', [('own', 'x0'), ('arg', 1), ('own', 'x2')], ['g0', 'g1', 'g2'])
  have k_p0_0 := blk_cell K_p0.out 0
  rw [cell3_0] at k_p0_0
  have k_p0_1 := blk_cell K_p0.out 1
  rw [cell3_1] at k_p0_1
  have k_p0_2 := blk_cell K_p0.out 2
  rw [cell3_2] at k_p0_2
  have k_w0_0 := blk_cell K_w0.out 0
  rw [cell3_0] at k_w0_0
  have k_w0_1 := blk_cell K_w0.out 1
  rw [cell3_1] at k_w0_1
  have k_w0_2 := blk_cell K_w0.out 2
  rw [cell3_2] at k_w0_2
  have k_x0_0 := blk_cell K_x0.out 0
  rw [cell3_0] at k_x0_0
  have k_x0_1 := blk_cell K_x0.out 1
  rw [cell3_1] at k_x0_1
  have k_x0_2 := blk_cell K_x0.out 2
  rw [cell3_2] at k_x0_2
  go_wp2_with fail
  clear k_p0_0 k_p0_1 k_p0_2 k_w0_0 k_w0_1 k_w0_2 k_x0_0 k_x0_1 k_x0_2
  refine (impl_os_t (tyRatchet.ord O_x0.out) (Nat.le_refl _) ((sliceT 5 u8T).ord O_x2.out) (Nat.le_refl _) W1.out B0t.out (HL.out.next HB.out)).mono ?_
  rintro e w10_ ⟨c_g0, v_g1, F_g0, F_g1, he, hO_g0, hO_g1, hF_g0, hF_g1, hX_g0_g1, hb⟩
  replace hO_g0 : tyRatchet.own F_g0 w10_ c_g0 ((osC s0.1 s0.2.1 s0.2.2 a1 s2, osS s0.1 s0.2.1 s0.2.2 a1 s2, osL s0.1 s0.2.1 s0.2.2 a1 s2)) := hO_g0
  replace hO_g1 : (sliceT 5 u8T).own F_g1 w10_ [v_g1] (osB s0.1 s0.2.1 s0.2.2 a1 s2) := hO_g1
  rw [← HY0.out] at hO_g0
  rw [← HY1.out] at hO_g1
  rw [← HY2.out] at he
  subst he
  obtain ⟨ag0_2, ng0_2, _, rfl, _⟩ := own_Ratchet hO_g0
  have X_w0_g0 : Hid (∀ b, F_w0 b → ¬ F_g0 b) := Lib.hid (fun b h1 h2 => by have := E_w0.out b h1; have := (hF_g0 b h2).1; omega)
  have X_w1_g0 : Hid (∀ b, F_w1 b → ¬ F_g0 b) := Lib.hid (fun b h1 h2 => by have := E_w1.out b h1; have := (hF_g0 b h2).1; omega)
  have X_x0_g0 : Hid (∀ b, (ival w6_.heap.size w7_.heap.size) b → ¬ F_g0 b) := Lib.hid (fun b h1 h2 => by have := E_x0.out b h1; have := (hF_g0 b h2).1; omega)
  have X_x2_g0 : Hid (∀ b, (ival w8_.heap.size w9_.heap.size) b → ¬ F_g0 b) := Lib.hid (fun b h1 h2 => by have := E_x2.out b h1; have := (hF_g0 b h2).1; omega)
  have N_p0_g0 : Hid (¬ F_g0 (w.heap.size)) := Lib.hid (fun h => by have := (hF_g0 _ h).1; have := lt_of_block K_p0.out; omega)
  have N_w0_g0 : Hid (¬ F_g0 (w5_.heap.size)) := Lib.hid (fun h => by have := (hF_g0 _ h).1; have := lt_of_block K_w0.out; omega)
  have N_x0_g0 : Hid (¬ F_g0 (w7_.heap.size)) := Lib.hid (fun h => by have := (hF_g0 _ h).1; have := lt_of_block K_x0.out; omega)
  have X_w0_g1 : Hid (∀ b, F_w0 b → ¬ F_g1 b) := Lib.hid (fun b h1 h2 => by have := E_w0.out b h1; have := (hF_g1 b h2).1; omega)
  have X_w1_g1 : Hid (∀ b, F_w1 b → ¬ F_g1 b) := Lib.hid (fun b h1 h2 => by have := E_w1.out b h1; have := (hF_g1 b h2).1; omega)
  have X_x0_g1 : Hid (∀ b, (ival w6_.heap.size w7_.heap.size) b → ¬ F_g1 b) := Lib.hid (fun b h1 h2 => by have := E_x0.out b h1; have := (hF_g1 b h2).1; omega)
  have X_x2_g1 : Hid (∀ b, (ival w8_.heap.size w9_.heap.size) b → ¬ F_g1 b) := Lib.hid (fun b h1 h2 => by have := E_x2.out b h1; have := (hF_g1 b h2).1; omega)
  have N_p0_g1 : Hid (¬ F_g1 (w.heap.size)) := Lib.hid (fun h => by have := (hF_g1 _ h).1; have := lt_of_block K_p0.out; omega)
  have N_w0_g1 : Hid (¬ F_g1 (w5_.heap.size)) := Lib.hid (fun h => by have := (hF_g1 _ h).1; have := lt_of_block K_w0.out; omega)
  have N_x0_g1 : Hid (¬ F_g1 (w7_.heap.size)) := Lib.hid (fun h => by have := (hF_g1 _ h).1; have := lt_of_block K_x0.out; omega)
  have X_g0_g1 := Lib.hid hX_g0_g1
  clear hX_g0_g1
  have D_g0 : Hid (∀ b, F_g0 b → w.heap.size ≤ b) := Lib.hid (fun b h => Nat.le_trans HB.out.size (hF_g0 b h).1)
  have D_g1 : Hid (∀ b, F_g1 b → w.heap.size ≤ b) := Lib.hid (fun b h => Nat.le_trans HB.out.size (hF_g1 b h).1)
  replace A0 := Lib.hid (tyRatchet.behind A0.out (hb.mono HB.out.size))
  replace A2 := Lib.hid ((sliceT 5 u8T).behind A2.out (hb.mono HB.out.size))
  replace O_w0 := Lib.hid (tyRatchet.onext O_w0.out hb)
  replace E_w0 : Hid (∀ b, F_w0 b → b < w10_.heap.size) := Lib.hid (fun b h => Nat.lt_of_lt_of_le (E_w0.out b h) hb.size)
  replace O_w1 := Lib.hid ((sliceT 5 u8T).onext O_w1.out hb)
  replace E_w1 : Hid (∀ b, F_w1 b → b < w10_.heap.size) := Lib.hid (fun b h => Nat.lt_of_lt_of_le (E_w1.out b h) hb.size)
  replace O_x0 := Lib.hid (tyRatchet.onext O_x0.out hb)
  replace E_x0 : Hid (∀ b, (ival w6_.heap.size w7_.heap.size) b → b < w10_.heap.size) := Lib.hid (fun b h => Nat.lt_of_lt_of_le (E_x0.out b h) hb.size)
  replace O_x2 := Lib.hid ((sliceT 5 u8T).onext O_x2.out hb)
  replace E_x2 : Hid (∀ b, (ival w8_.heap.size w9_.heap.size) b → b < w10_.heap.size) := Lib.hid (fun b h => Nat.lt_of_lt_of_le (E_x2.out b h) hb.size)
  replace K_p0 := Lib.hid ((hb.block _ (lt_of_block K_p0.out)).trans K_p0.out)
  replace K_w0 := Lib.hid ((hb.block _ (lt_of_block K_w0.out)).trans K_w0.out)
  replace K_x0 := Lib.hid ((hb.block _ (lt_of_block K_x0.out)).trans K_x0.out)
  replace HB := Lib.hid (HB.out.trans (hb.mono HB.out.size))
  clear hb
  have O_g0 := Lib.hid hO_g0
  have E_g0 : Hid (∀ b, F_g0 b → b < w10_.heap.size) := Lib.hid (fun b h => (hF_g0 b h).2)
  clear hO_g0 hF_g0
  have O_g1 := Lib.hid hO_g1
  have E_g1 : Hid (∀ b, F_g1 b → b < w10_.heap.size) := Lib.hid (fun b h => (hF_g1 b h).2)
  clear hO_g1 hF_g1
  have N_g0_x0 : Hid (¬ (ival w6_.heap.size w7_.heap.size) (w10_.heap.size)) := Lib.hid (fun h => by have := E_x0.out _ h; omega)
  have N_g0_x2 : Hid (¬ (ival w8_.heap.size w9_.heap.size) (w10_.heap.size)) := Lib.hid (fun h => by have := E_x2.out _ h; omega)
  have N_g0_g0 : Hid (¬ F_g0 (w10_.heap.size)) := Lib.hid (fun h => by have := E_g0.out _ h; omega)
  have N_g0_g1 : Hid (¬ F_g1 (w10_.heap.size)) := Lib.hid (fun h => by have := E_g1.out _ h; omega)
  have hb : Below w10_.heap.size w10_ (w10_.alloc (.cells #[.int .i64 Y0.1, .int .i64 Y0.2.1, .slice ag0_2 Y0.2.2.length ng0_2] 26)) := (Below.refl _ _).alloc (Nat.le_refl _) _
  replace A0 := Lib.hid (tyRatchet.behind A0.out (hb.mono HB.out.size))
  replace A2 := Lib.hid ((sliceT 5 u8T).behind A2.out (hb.mono HB.out.size))
  replace O_w0 := Lib.hid (tyRatchet.onext O_w0.out hb)
  replace E_w0 : Hid (∀ b, F_w0 b → b < (w10_.alloc (.cells #[.int .i64 Y0.1, .int .i64 Y0.2.1, .slice ag0_2 Y0.2.2.length ng0_2] 26)).heap.size) := Lib.hid (fun b h => Nat.lt_of_lt_of_le (E_w0.out b h) hb.size)
  replace O_w1 := Lib.hid ((sliceT 5 u8T).onext O_w1.out hb)
  replace E_w1 : Hid (∀ b, F_w1 b → b < (w10_.alloc (.cells #[.int .i64 Y0.1, .int .i64 Y0.2.1, .slice ag0_2 Y0.2.2.length ng0_2] 26)).heap.size) := Lib.hid (fun b h => Nat.lt_of_lt_of_le (E_w1.out b h) hb.size)
  replace O_x0 := Lib.hid (tyRatchet.onext O_x0.out hb)
  replace E_x0 : Hid (∀ b, (ival w6_.heap.size w7_.heap.size) b → b < (w10_.alloc (.cells #[.int .i64 Y0.1, .int .i64 Y0.2.1, .slice ag0_2 Y0.2.2.length ng0_2] 26)).heap.size) := Lib.hid (fun b h => Nat.lt_of_lt_of_le (E_x0.out b h) hb.size)
  replace O_x2 := Lib.hid ((sliceT 5 u8T).onext O_x2.out hb)
  replace E_x2 : Hid (∀ b, (ival w8_.heap.size w9_.heap.size) b → b < (w10_.alloc (.cells #[.int .i64 Y0.1, .int .i64 Y0.2.1, .slice ag0_2 Y0.2.2.length ng0_2] 26)).heap.size) := Lib.hid (fun b h => Nat.lt_of_lt_of_le (E_x2.out b h) hb.size)
  replace O_g0 := Lib.hid (tyRatchet.onext O_g0.out hb)
  replace E_g0 : Hid (∀ b, F_g0 b → b < (w10_.alloc (.cells #[.int .i64 Y0.1, .int .i64 Y0.2.1, .slice ag0_2 Y0.2.2.length ng0_2] 26)).heap.size) := Lib.hid (fun b h => Nat.lt_of_lt_of_le (E_g0.out b h) hb.size)
  replace O_g1 := Lib.hid ((sliceT 5 u8T).onext O_g1.out hb)
  replace E_g1 : Hid (∀ b, F_g1 b → b < (w10_.alloc (.cells #[.int .i64 Y0.1, .int .i64 Y0.2.1, .slice ag0_2 Y0.2.2.length ng0_2] 26)).heap.size) := Lib.hid (fun b h => Nat.lt_of_lt_of_le (E_g1.out b h) hb.size)
  replace K_p0 := Lib.hid ((hb.block _ (lt_of_block K_p0.out)).trans K_p0.out)
  replace K_w0 := Lib.hid ((hb.block _ (lt_of_block K_w0.out)).trans K_w0.out)
  replace K_x0 := Lib.hid ((hb.block _ (lt_of_block K_x0.out)).trans K_x0.out)
  replace HB := Lib.hid (HB.out.trans (hb.mono HB.out.size))
  clear hb
  have K_g0 := Lib.hid (heap_alloc_new w10_ (.cells #[.int .i64 Y0.1, .int .i64 Y0.2.1, .slice ag0_2 Y0.2.2.length ng0_2] 26))
  have k_p0_0 := blk_cell K_p0.out 0
  rw [cell3_0] at k_p0_0
  have k_p0_1 := blk_cell K_p0.out 1
  rw [cell3_1] at k_p0_1
  have k_p0_2 := blk_cell K_p0.out 2
  rw [cell3_2] at k_p0_2
  have k_w0_0 := blk_cell K_w0.out 0
  rw [cell3_0] at k_w0_0
  have k_w0_1 := blk_cell K_w0.out 1
  rw [cell3_1] at k_w0_1
  have k_w0_2 := blk_cell K_w0.out 2
  rw [cell3_2] at k_w0_2
  have k_x0_0 := blk_cell K_x0.out 0
  rw [cell3_0] at k_x0_0
  have k_x0_1 := blk_cell K_x0.out 1
  rw [cell3_1] at k_x0_1
  have k_x0_2 := blk_cell K_x0.out 2
  rw [cell3_2] at k_x0_2
  have k_g0_0 := blk_cell K_g0.out 0
  rw [cell3_0] at k_g0_0
  have k_g0_1 := blk_cell K_g0.out 1
  rw [cell3_1] at k_g0_1
  have k_g0_2 := blk_cell K_g0.out 2
  rw [cell3_2] at k_g0_2
  go_wp2_with fail
  clear k_p0_0 k_p0_1 k_p0_2 k_w0_0 k_w0_1 k_w0_2 k_x0_0 k_x0_1 k_x0_2 k_g0_0 k_g0_1 k_g0_2
  obtain ⟨w11_, hw⟩ : ∃ x, x = (w10_.alloc (.cells #[.int .i64 Y0.1, .int .i64 Y0.2.1, .slice ag0_2 Y0.2.2.length ng0_2] 26)) := ⟨_, rfl⟩
  rw [← hw] at HB A0 A2 O_w0 E_w0 O_w1 E_w1 O_x0 E_x0 O_x2 E_x2 O_g0 E_g0 O_g1 E_g1 K_p0 K_w0 K_x0 K_g0 ⊢
  clear hw
  -- ('eq', 'Ratchet', ('own', 'g0'), ('own', 'w0'))
  refine (eqRatchet_same (tyRatchet.ord O_g0.out) (tyRatchet.ord O_w0.out) (Nat.le_refl _) (Nat.le_refl _)).mono ?_
  rintro e w12_ ⟨he, hb⟩
  subst he
  replace A0 := Lib.hid (tyRatchet.behind A0.out (hb.mono HB.out.size))
  replace A2 := Lib.hid ((sliceT 5 u8T).behind A2.out (hb.mono HB.out.size))
  replace O_w0 := Lib.hid (tyRatchet.onext O_w0.out hb)
  replace E_w0 : Hid (∀ b, F_w0 b → b < w12_.heap.size) := Lib.hid (fun b h => Nat.lt_of_lt_of_le (E_w0.out b h) hb.size)
  replace O_w1 := Lib.hid ((sliceT 5 u8T).onext O_w1.out hb)
  replace E_w1 : Hid (∀ b, F_w1 b → b < w12_.heap.size) := Lib.hid (fun b h => Nat.lt_of_lt_of_le (E_w1.out b h) hb.size)
  replace O_x0 := Lib.hid (tyRatchet.onext O_x0.out hb)
  replace E_x0 : Hid (∀ b, (ival w6_.heap.size w7_.heap.size) b → b < w12_.heap.size) := Lib.hid (fun b h => Nat.lt_of_lt_of_le (E_x0.out b h) hb.size)
  replace O_x2 := Lib.hid ((sliceT 5 u8T).onext O_x2.out hb)
  replace E_x2 : Hid (∀ b, (ival w8_.heap.size w9_.heap.size) b → b < w12_.heap.size) := Lib.hid (fun b h => Nat.lt_of_lt_of_le (E_x2.out b h) hb.size)
  replace O_g0 := Lib.hid (tyRatchet.onext O_g0.out hb)
  replace E_g0 : Hid (∀ b, F_g0 b → b < w12_.heap.size) := Lib.hid (fun b h => Nat.lt_of_lt_of_le (E_g0.out b h) hb.size)
  replace O_g1 := Lib.hid ((sliceT 5 u8T).onext O_g1.out hb)
  replace E_g1 : Hid (∀ b, F_g1 b → b < w12_.heap.size) := Lib.hid (fun b h => Nat.lt_of_lt_of_le (E_g1.out b h) hb.size)
  replace K_p0 := Lib.hid ((hb.block _ (lt_of_block K_p0.out)).trans K_p0.out)
  replace K_w0 := Lib.hid ((hb.block _ (lt_of_block K_w0.out)).trans K_w0.out)
  replace K_x0 := Lib.hid ((hb.block _ (lt_of_block K_x0.out)).trans K_x0.out)
  replace K_g0 := Lib.hid ((hb.block _ (lt_of_block K_g0.out)).trans K_g0.out)
  replace HB := Lib.hid (HB.out.trans (hb.mono HB.out.size))
  clear hb
  -- ('eq', '[]byte', ('own', 'g1'), ('own', 'w1'))
  have k_p0_0 := blk_cell K_p0.out 0
  rw [cell3_0] at k_p0_0
  have k_p0_1 := blk_cell K_p0.out 1
  rw [cell3_1] at k_p0_1
  have k_p0_2 := blk_cell K_p0.out 2
  rw [cell3_2] at k_p0_2
  have k_w0_0 := blk_cell K_w0.out 0
  rw [cell3_0] at k_w0_0
  have k_w0_1 := blk_cell K_w0.out 1
  rw [cell3_1] at k_w0_1
  have k_w0_2 := blk_cell K_w0.out 2
  rw [cell3_2] at k_w0_2
  have k_x0_0 := blk_cell K_x0.out 0
  rw [cell3_0] at k_x0_0
  have k_x0_1 := blk_cell K_x0.out 1
  rw [cell3_1] at k_x0_1
  have k_x0_2 := blk_cell K_x0.out 2
  rw [cell3_2] at k_x0_2
  have k_g0_0 := blk_cell K_g0.out 0
  rw [cell3_0] at k_g0_0
  have k_g0_1 := blk_cell K_g0.out 1
  rw [cell3_1] at k_g0_1
  have k_g0_2 := blk_cell K_g0.out 2
  rw [cell3_2] at k_g0_2
  go_wp2_with fail
  clear k_p0_0 k_p0_1 k_p0_2 k_w0_0 k_w0_1 k_w0_2 k_x0_0 k_x0_1 k_x0_2 k_g0_0 k_g0_1 k_g0_2
  refine (eqByteS_same_t ((sliceT 5 u8T).ord O_g1.out) ((sliceT 5 u8T).ord O_w1.out) (Nat.le_refl _) (Nat.le_refl _)).mono ?_
  rintro e w13_ ⟨he, hb⟩
  subst he
  replace A0 := Lib.hid (tyRatchet.behind A0.out (hb.mono HB.out.size))
  replace A2 := Lib.hid ((sliceT 5 u8T).behind A2.out (hb.mono HB.out.size))
  replace O_w0 := Lib.hid (tyRatchet.onext O_w0.out hb)
  replace E_w0 : Hid (∀ b, F_w0 b → b < w13_.heap.size) := Lib.hid (fun b h => Nat.lt_of_lt_of_le (E_w0.out b h) hb.size)
  replace O_w1 := Lib.hid ((sliceT 5 u8T).onext O_w1.out hb)
  replace E_w1 : Hid (∀ b, F_w1 b → b < w13_.heap.size) := Lib.hid (fun b h => Nat.lt_of_lt_of_le (E_w1.out b h) hb.size)
  replace O_x0 := Lib.hid (tyRatchet.onext O_x0.out hb)
  replace E_x0 : Hid (∀ b, (ival w6_.heap.size w7_.heap.size) b → b < w13_.heap.size) := Lib.hid (fun b h => Nat.lt_of_lt_of_le (E_x0.out b h) hb.size)
  replace O_x2 := Lib.hid ((sliceT 5 u8T).onext O_x2.out hb)
  replace E_x2 : Hid (∀ b, (ival w8_.heap.size w9_.heap.size) b → b < w13_.heap.size) := Lib.hid (fun b h => Nat.lt_of_lt_of_le (E_x2.out b h) hb.size)
  replace O_g0 := Lib.hid (tyRatchet.onext O_g0.out hb)
  replace E_g0 : Hid (∀ b, F_g0 b → b < w13_.heap.size) := Lib.hid (fun b h => Nat.lt_of_lt_of_le (E_g0.out b h) hb.size)
  replace O_g1 := Lib.hid ((sliceT 5 u8T).onext O_g1.out hb)
  replace E_g1 : Hid (∀ b, F_g1 b → b < w13_.heap.size) := Lib.hid (fun b h => Nat.lt_of_lt_of_le (E_g1.out b h) hb.size)
  replace K_p0 := Lib.hid ((hb.block _ (lt_of_block K_p0.out)).trans K_p0.out)
  replace K_w0 := Lib.hid ((hb.block _ (lt_of_block K_w0.out)).trans K_w0.out)
  replace K_x0 := Lib.hid ((hb.block _ (lt_of_block K_x0.out)).trans K_x0.out)
  replace K_g0 := Lib.hid ((hb.block _ (lt_of_block K_g0.out)).trans K_g0.out)
  replace HB := Lib.hid (HB.out.trans (hb.mono HB.out.size))
  clear hb
  -- ('eq', 'Ratchet', ('own', 'x0'), ('copy', 0, 'Ratchet'))
  have k_p0_0 := blk_cell K_p0.out 0
  rw [cell3_0] at k_p0_0
  have k_p0_1 := blk_cell K_p0.out 1
  rw [cell3_1] at k_p0_1
  have k_p0_2 := blk_cell K_p0.out 2
  rw [cell3_2] at k_p0_2
  have k_w0_0 := blk_cell K_w0.out 0
  rw [cell3_0] at k_w0_0
  have k_w0_1 := blk_cell K_w0.out 1
  rw [cell3_1] at k_w0_1
  have k_w0_2 := blk_cell K_w0.out 2
  rw [cell3_2] at k_w0_2
  have k_x0_0 := blk_cell K_x0.out 0
  rw [cell3_0] at k_x0_0
  have k_x0_1 := blk_cell K_x0.out 1
  rw [cell3_1] at k_x0_1
  have k_x0_2 := blk_cell K_x0.out 2
  rw [cell3_2] at k_x0_2
  have k_g0_0 := blk_cell K_g0.out 0
  rw [cell3_0] at k_g0_0
  have k_g0_1 := blk_cell K_g0.out 1
  rw [cell3_1] at k_g0_1
  have k_g0_2 := blk_cell K_g0.out 2
  rw [cell3_2] at k_g0_2
  go_wp2_with fail
  clear k_p0_0 k_p0_1 k_p0_2 k_w0_0 k_w0_1 k_w0_2 k_x0_0 k_x0_1 k_x0_2 k_g0_0 k_g0_1 k_g0_2
  have hb : Below w13_.heap.size w13_ w13_.drew := (Below.refl _ _).drew
  replace A0 := Lib.hid (tyRatchet.behind A0.out (hb.mono HB.out.size))
  replace A2 := Lib.hid ((sliceT 5 u8T).behind A2.out (hb.mono HB.out.size))
  replace O_w0 := Lib.hid (tyRatchet.onext O_w0.out hb)
  replace E_w0 : Hid (∀ b, F_w0 b → b < w13_.drew.heap.size) := Lib.hid (fun b h => Nat.lt_of_lt_of_le (E_w0.out b h) hb.size)
  replace O_w1 := Lib.hid ((sliceT 5 u8T).onext O_w1.out hb)
  replace E_w1 : Hid (∀ b, F_w1 b → b < w13_.drew.heap.size) := Lib.hid (fun b h => Nat.lt_of_lt_of_le (E_w1.out b h) hb.size)
  replace O_x0 := Lib.hid (tyRatchet.onext O_x0.out hb)
  replace E_x0 : Hid (∀ b, (ival w6_.heap.size w7_.heap.size) b → b < w13_.drew.heap.size) := Lib.hid (fun b h => Nat.lt_of_lt_of_le (E_x0.out b h) hb.size)
  replace O_x2 := Lib.hid ((sliceT 5 u8T).onext O_x2.out hb)
  replace E_x2 : Hid (∀ b, (ival w8_.heap.size w9_.heap.size) b → b < w13_.drew.heap.size) := Lib.hid (fun b h => Nat.lt_of_lt_of_le (E_x2.out b h) hb.size)
  replace O_g0 := Lib.hid (tyRatchet.onext O_g0.out hb)
  replace E_g0 : Hid (∀ b, F_g0 b → b < w13_.drew.heap.size) := Lib.hid (fun b h => Nat.lt_of_lt_of_le (E_g0.out b h) hb.size)
  replace O_g1 := Lib.hid ((sliceT 5 u8T).onext O_g1.out hb)
  replace E_g1 : Hid (∀ b, F_g1 b → b < w13_.drew.heap.size) := Lib.hid (fun b h => Nat.lt_of_lt_of_le (E_g1.out b h) hb.size)
  replace K_p0 := Lib.hid ((hb.block _ (lt_of_block K_p0.out)).trans K_p0.out)
  replace K_w0 := Lib.hid ((hb.block _ (lt_of_block K_w0.out)).trans K_w0.out)
  replace K_x0 := Lib.hid ((hb.block _ (lt_of_block K_x0.out)).trans K_x0.out)
  replace K_g0 := Lib.hid ((hb.block _ (lt_of_block K_g0.out)).trans K_g0.out)
  replace HB := Lib.hid (HB.out.trans (hb.mono HB.out.size))
  clear hb
  have d0 : w13_.drew.cell? ⟨w7_.heap.size, 0, none⟩ = some (.int .i64 s0.1) ∧ w13_.drew.cell? ⟨w7_.heap.size, 1, none⟩ = some (.int .i64 s0.2.1) ∧ w13_.drew.cell? ⟨w7_.heap.size, 2, none⟩ = some (.slice ax0_2 s0.2.2.length nx0_2) ∧ w13_.drew.cell? ⟨w.heap.size, 0, none⟩ = some (.int .i64 s0.1) ∧ w13_.drew.cell? ⟨w.heap.size, 1, none⟩ = some (.int .i64 s0.2.1) ∧ w13_.drew.cell? ⟨w.heap.size, 2, none⟩ = some (.slice a0_2 s0.2.2.length n0_2) := ⟨(blk_cell K_x0.out 0).trans (cell3_0 _ _ _), (blk_cell K_x0.out 1).trans (cell3_1 _ _ _), (blk_cell K_x0.out 2).trans (cell3_2 _ _ _), (blk_cell K_p0.out 0).trans (cell3_0 _ _ _), (blk_cell K_p0.out 1).trans (cell3_1 _ _ _), (blk_cell K_p0.out 2).trans (cell3_2 _ _ _)⟩
  go_region_held3 (fun w' => w'.cell? ⟨w7_.heap.size, 0, none⟩ = some (.int .i64 s0.1) ∧ w'.cell? ⟨w7_.heap.size, 1, none⟩ = some (.int .i64 s0.2.1) ∧ w'.cell? ⟨w7_.heap.size, 2, none⟩ = some (.slice ax0_2 s0.2.2.length nx0_2) ∧ w'.cell? ⟨w.heap.size, 0, none⟩ = some (.int .i64 s0.1) ∧ w'.cell? ⟨w.heap.size, 1, none⟩ = some (.int .i64 s0.2.1) ∧ w'.cell? ⟨w.heap.size, 2, none⟩ = some (.slice a0_2 s0.2.2.length n0_2)) (first | assumption | go_keep) ((first
    | (go_at_call 19
       go_loud (refine (toRatchet_any A0.out HB.out.size (Nat.le_trans B0t.out (by decide))).mono ?_
                rintro e w14_ ⟨c_t3, he, hO_t3, hb⟩
                subst he
                have hF_t3 : ∀ b, (ival w13_.drew.heap.size w14_.heap.size) b → w13_.drew.heap.size ≤ b ∧ b < w14_.heap.size := fun b h => h
                obtain ⟨at3_2, nt3_2, _, rfl, _⟩ := own_Ratchet hO_t3
                have X_x0_t3 : Hid (∀ b, (ival w6_.heap.size w7_.heap.size) b → ¬ (ival w13_.drew.heap.size w14_.heap.size) b) := Lib.hid (fun b h1 h2 => by have := E_x0.out b h1; have := (hF_t3 b h2).1; omega)
                have X_x2_t3 : Hid (∀ b, (ival w8_.heap.size w9_.heap.size) b → ¬ (ival w13_.drew.heap.size w14_.heap.size) b) := Lib.hid (fun b h1 h2 => by have := E_x2.out b h1; have := (hF_t3 b h2).1; omega)
                have X_g0_t3 : Hid (∀ b, F_g0 b → ¬ (ival w13_.drew.heap.size w14_.heap.size) b) := Lib.hid (fun b h1 h2 => by have := E_g0.out b h1; have := (hF_t3 b h2).1; omega)
                have X_g1_t3 : Hid (∀ b, F_g1 b → ¬ (ival w13_.drew.heap.size w14_.heap.size) b) := Lib.hid (fun b h1 h2 => by have := E_g1.out b h1; have := (hF_t3 b h2).1; omega)
                have D_t3 : Hid (∀ b, (ival w13_.drew.heap.size w14_.heap.size) b → w.heap.size ≤ b) := Lib.hid (fun b h => Nat.le_trans HB.out.size (hF_t3 b h).1)
                replace A0 := Lib.hid (tyRatchet.behind A0.out (hb.mono HB.out.size))
                replace A2 := Lib.hid ((sliceT 5 u8T).behind A2.out (hb.mono HB.out.size))
                replace O_w0 := Lib.hid (tyRatchet.onext O_w0.out hb)
                replace E_w0 : Hid (∀ b, F_w0 b → b < w14_.heap.size) := Lib.hid (fun b h => Nat.lt_of_lt_of_le (E_w0.out b h) hb.size)
                replace O_w1 := Lib.hid ((sliceT 5 u8T).onext O_w1.out hb)
                replace E_w1 : Hid (∀ b, F_w1 b → b < w14_.heap.size) := Lib.hid (fun b h => Nat.lt_of_lt_of_le (E_w1.out b h) hb.size)
                replace O_x0 := Lib.hid (tyRatchet.onext O_x0.out hb)
                replace E_x0 : Hid (∀ b, (ival w6_.heap.size w7_.heap.size) b → b < w14_.heap.size) := Lib.hid (fun b h => Nat.lt_of_lt_of_le (E_x0.out b h) hb.size)
                replace O_x2 := Lib.hid ((sliceT 5 u8T).onext O_x2.out hb)
                replace E_x2 : Hid (∀ b, (ival w8_.heap.size w9_.heap.size) b → b < w14_.heap.size) := Lib.hid (fun b h => Nat.lt_of_lt_of_le (E_x2.out b h) hb.size)
                replace O_g0 := Lib.hid (tyRatchet.onext O_g0.out hb)
                replace E_g0 : Hid (∀ b, F_g0 b → b < w14_.heap.size) := Lib.hid (fun b h => Nat.lt_of_lt_of_le (E_g0.out b h) hb.size)
                replace O_g1 := Lib.hid ((sliceT 5 u8T).onext O_g1.out hb)
                replace E_g1 : Hid (∀ b, F_g1 b → b < w14_.heap.size) := Lib.hid (fun b h => Nat.lt_of_lt_of_le (E_g1.out b h) hb.size)
                replace K_p0 := Lib.hid ((hb.block _ (lt_of_block K_p0.out)).trans K_p0.out)
                replace K_w0 := Lib.hid ((hb.block _ (lt_of_block K_w0.out)).trans K_w0.out)
                replace K_x0 := Lib.hid ((hb.block _ (lt_of_block K_x0.out)).trans K_x0.out)
                replace K_g0 := Lib.hid ((hb.block _ (lt_of_block K_g0.out)).trans K_g0.out)
                replace HB := Lib.hid (HB.out.trans (hb.mono HB.out.size))
                clear hb
                have O_t3 := Lib.hid hO_t3
                have E_t3 : Hid (∀ b, (ival w13_.drew.heap.size w14_.heap.size) b → b < w14_.heap.size) := Lib.hid (fun b h => (hF_t3 b h).2)
                clear hO_t3 hF_t3
                have d1 : w14_.cell? ⟨w7_.heap.size, 0, none⟩ = some (.int .i64 s0.1) ∧ w14_.cell? ⟨w7_.heap.size, 1, none⟩ = some (.int .i64 s0.2.1) ∧ w14_.cell? ⟨w7_.heap.size, 2, none⟩ = some (.slice ax0_2 s0.2.2.length nx0_2) ∧ w14_.cell? ⟨w.heap.size, 0, none⟩ = some (.int .i64 s0.1) ∧ w14_.cell? ⟨w.heap.size, 1, none⟩ = some (.int .i64 s0.2.1) ∧ w14_.cell? ⟨w.heap.size, 2, none⟩ = some (.slice a0_2 s0.2.2.length n0_2) := ⟨(blk_cell K_x0.out 0).trans (cell3_0 _ _ _), (blk_cell K_x0.out 1).trans (cell3_1 _ _ _), (blk_cell K_x0.out 2).trans (cell3_2 _ _ _), (blk_cell K_p0.out 0).trans (cell3_0 _ _ _), (blk_cell K_p0.out 1).trans (cell3_1 _ _ _), (blk_cell K_p0.out 2).trans (cell3_2 _ _ _)⟩))
    | (go_at_call 21
       go_loud (refine (eqRatchet_same (tyRatchet.ord O_x0.out) (tyRatchet.ord O_t3.out) (Nat.le_refl _) (Nat.le_refl _)).mono ?_
                rintro e w15_ ⟨he, hb⟩
                subst he
                replace A0 := Lib.hid (tyRatchet.behind A0.out (hb.mono HB.out.size))
                replace A2 := Lib.hid ((sliceT 5 u8T).behind A2.out (hb.mono HB.out.size))
                replace O_w0 := Lib.hid (tyRatchet.onext O_w0.out hb)
                replace E_w0 : Hid (∀ b, F_w0 b → b < w15_.heap.size) := Lib.hid (fun b h => Nat.lt_of_lt_of_le (E_w0.out b h) hb.size)
                replace O_w1 := Lib.hid ((sliceT 5 u8T).onext O_w1.out hb)
                replace E_w1 : Hid (∀ b, F_w1 b → b < w15_.heap.size) := Lib.hid (fun b h => Nat.lt_of_lt_of_le (E_w1.out b h) hb.size)
                replace O_x0 := Lib.hid (tyRatchet.onext O_x0.out hb)
                replace E_x0 : Hid (∀ b, (ival w6_.heap.size w7_.heap.size) b → b < w15_.heap.size) := Lib.hid (fun b h => Nat.lt_of_lt_of_le (E_x0.out b h) hb.size)
                replace O_x2 := Lib.hid ((sliceT 5 u8T).onext O_x2.out hb)
                replace E_x2 : Hid (∀ b, (ival w8_.heap.size w9_.heap.size) b → b < w15_.heap.size) := Lib.hid (fun b h => Nat.lt_of_lt_of_le (E_x2.out b h) hb.size)
                replace O_g0 := Lib.hid (tyRatchet.onext O_g0.out hb)
                replace E_g0 : Hid (∀ b, F_g0 b → b < w15_.heap.size) := Lib.hid (fun b h => Nat.lt_of_lt_of_le (E_g0.out b h) hb.size)
                replace O_g1 := Lib.hid ((sliceT 5 u8T).onext O_g1.out hb)
                replace E_g1 : Hid (∀ b, F_g1 b → b < w15_.heap.size) := Lib.hid (fun b h => Nat.lt_of_lt_of_le (E_g1.out b h) hb.size)
                replace O_t3 := Lib.hid (tyRatchet.onext O_t3.out hb)
                replace E_t3 : Hid (∀ b, (ival w13_.drew.heap.size w14_.heap.size) b → b < w15_.heap.size) := Lib.hid (fun b h => Nat.lt_of_lt_of_le (E_t3.out b h) hb.size)
                replace K_p0 := Lib.hid ((hb.block _ (lt_of_block K_p0.out)).trans K_p0.out)
                replace K_w0 := Lib.hid ((hb.block _ (lt_of_block K_w0.out)).trans K_w0.out)
                replace K_x0 := Lib.hid ((hb.block _ (lt_of_block K_x0.out)).trans K_x0.out)
                replace K_g0 := Lib.hid ((hb.block _ (lt_of_block K_g0.out)).trans K_g0.out)
                replace HB := Lib.hid (HB.out.trans (hb.mono HB.out.size))
                clear hb
                have d2 : w15_.cell? ⟨w7_.heap.size, 0, none⟩ = some (.int .i64 s0.1) ∧ w15_.cell? ⟨w7_.heap.size, 1, none⟩ = some (.int .i64 s0.2.1) ∧ w15_.cell? ⟨w7_.heap.size, 2, none⟩ = some (.slice ax0_2 s0.2.2.length nx0_2) ∧ w15_.cell? ⟨w.heap.size, 0, none⟩ = some (.int .i64 s0.1) ∧ w15_.cell? ⟨w.heap.size, 1, none⟩ = some (.int .i64 s0.2.1) ∧ w15_.cell? ⟨w.heap.size, 2, none⟩ = some (.slice a0_2 s0.2.2.length n0_2) := ⟨(blk_cell K_x0.out 0).trans (cell3_0 _ _ _), (blk_cell K_x0.out 1).trans (cell3_1 _ _ _), (blk_cell K_x0.out 2).trans (cell3_2 _ _ _), (blk_cell K_p0.out 0).trans (cell3_0 _ _ _), (blk_cell K_p0.out 1).trans (cell3_1 _ _ _), (blk_cell K_p0.out 2).trans (cell3_2 _ _ _)⟩))))
  clear d0 d1 d2
  clear O_t3 E_t3 D_t3
  clear X_x0_t3
  clear X_x2_t3
  clear X_g0_t3
  clear X_g1_t3
  -- ('eq', '[]byte', ('own', 'x2'), ('copy', 2, '[]byte'))
  have k_p0_0 := blk_cell K_p0.out 0
  rw [cell3_0] at k_p0_0
  have k_p0_1 := blk_cell K_p0.out 1
  rw [cell3_1] at k_p0_1
  have k_p0_2 := blk_cell K_p0.out 2
  rw [cell3_2] at k_p0_2
  have k_w0_0 := blk_cell K_w0.out 0
  rw [cell3_0] at k_w0_0
  have k_w0_1 := blk_cell K_w0.out 1
  rw [cell3_1] at k_w0_1
  have k_w0_2 := blk_cell K_w0.out 2
  rw [cell3_2] at k_w0_2
  have k_x0_0 := blk_cell K_x0.out 0
  rw [cell3_0] at k_x0_0
  have k_x0_1 := blk_cell K_x0.out 1
  rw [cell3_1] at k_x0_1
  have k_x0_2 := blk_cell K_x0.out 2
  rw [cell3_2] at k_x0_2
  have k_g0_0 := blk_cell K_g0.out 0
  rw [cell3_0] at k_g0_0
  have k_g0_1 := blk_cell K_g0.out 1
  rw [cell3_1] at k_g0_1
  have k_g0_2 := blk_cell K_g0.out 2
  rw [cell3_2] at k_g0_2
  go_wp2_with fail
  clear k_p0_0 k_p0_1 k_p0_2 k_w0_0 k_w0_1 k_w0_2 k_x0_0 k_x0_1 k_x0_2 k_g0_0 k_g0_1 k_g0_2
  refine (toByteS_t A2.out HB.out.size (Nat.le_trans B2t.out (by decide))).mono ?_
  rintro e w16_ ⟨v_t4, he, hO_t4, hb⟩
  subst he
  have hF_t4 : ∀ b, (ival w15_.heap.size w16_.heap.size) b → w15_.heap.size ≤ b ∧ b < w16_.heap.size := fun b h => h
  have X_x0_t4 : Hid (∀ b, (ival w6_.heap.size w7_.heap.size) b → ¬ (ival w15_.heap.size w16_.heap.size) b) := Lib.hid (fun b h1 h2 => by have := E_x0.out b h1; have := (hF_t4 b h2).1; omega)
  have X_x2_t4 : Hid (∀ b, (ival w8_.heap.size w9_.heap.size) b → ¬ (ival w15_.heap.size w16_.heap.size) b) := Lib.hid (fun b h1 h2 => by have := E_x2.out b h1; have := (hF_t4 b h2).1; omega)
  have X_g0_t4 : Hid (∀ b, F_g0 b → ¬ (ival w15_.heap.size w16_.heap.size) b) := Lib.hid (fun b h1 h2 => by have := E_g0.out b h1; have := (hF_t4 b h2).1; omega)
  have X_g1_t4 : Hid (∀ b, F_g1 b → ¬ (ival w15_.heap.size w16_.heap.size) b) := Lib.hid (fun b h1 h2 => by have := E_g1.out b h1; have := (hF_t4 b h2).1; omega)
  have D_t4 : Hid (∀ b, (ival w15_.heap.size w16_.heap.size) b → w.heap.size ≤ b) := Lib.hid (fun b h => Nat.le_trans HB.out.size (hF_t4 b h).1)
  replace A0 := Lib.hid (tyRatchet.behind A0.out (hb.mono HB.out.size))
  replace A2 := Lib.hid ((sliceT 5 u8T).behind A2.out (hb.mono HB.out.size))
  replace O_w0 := Lib.hid (tyRatchet.onext O_w0.out hb)
  replace E_w0 : Hid (∀ b, F_w0 b → b < w16_.heap.size) := Lib.hid (fun b h => Nat.lt_of_lt_of_le (E_w0.out b h) hb.size)
  replace O_w1 := Lib.hid ((sliceT 5 u8T).onext O_w1.out hb)
  replace E_w1 : Hid (∀ b, F_w1 b → b < w16_.heap.size) := Lib.hid (fun b h => Nat.lt_of_lt_of_le (E_w1.out b h) hb.size)
  replace O_x0 := Lib.hid (tyRatchet.onext O_x0.out hb)
  replace E_x0 : Hid (∀ b, (ival w6_.heap.size w7_.heap.size) b → b < w16_.heap.size) := Lib.hid (fun b h => Nat.lt_of_lt_of_le (E_x0.out b h) hb.size)
  replace O_x2 := Lib.hid ((sliceT 5 u8T).onext O_x2.out hb)
  replace E_x2 : Hid (∀ b, (ival w8_.heap.size w9_.heap.size) b → b < w16_.heap.size) := Lib.hid (fun b h => Nat.lt_of_lt_of_le (E_x2.out b h) hb.size)
  replace O_g0 := Lib.hid (tyRatchet.onext O_g0.out hb)
  replace E_g0 : Hid (∀ b, F_g0 b → b < w16_.heap.size) := Lib.hid (fun b h => Nat.lt_of_lt_of_le (E_g0.out b h) hb.size)
  replace O_g1 := Lib.hid ((sliceT 5 u8T).onext O_g1.out hb)
  replace E_g1 : Hid (∀ b, F_g1 b → b < w16_.heap.size) := Lib.hid (fun b h => Nat.lt_of_lt_of_le (E_g1.out b h) hb.size)
  replace K_p0 := Lib.hid ((hb.block _ (lt_of_block K_p0.out)).trans K_p0.out)
  replace K_w0 := Lib.hid ((hb.block _ (lt_of_block K_w0.out)).trans K_w0.out)
  replace K_x0 := Lib.hid ((hb.block _ (lt_of_block K_x0.out)).trans K_x0.out)
  replace K_g0 := Lib.hid ((hb.block _ (lt_of_block K_g0.out)).trans K_g0.out)
  replace HB := Lib.hid (HB.out.trans (hb.mono HB.out.size))
  clear hb
  have O_t4 := Lib.hid hO_t4
  have E_t4 : Hid (∀ b, (ival w15_.heap.size w16_.heap.size) b → b < w16_.heap.size) := Lib.hid (fun b h => (hF_t4 b h).2)
  clear hO_t4 hF_t4
  have k_p0_0 := blk_cell K_p0.out 0
  rw [cell3_0] at k_p0_0
  have k_p0_1 := blk_cell K_p0.out 1
  rw [cell3_1] at k_p0_1
  have k_p0_2 := blk_cell K_p0.out 2
  rw [cell3_2] at k_p0_2
  have k_w0_0 := blk_cell K_w0.out 0
  rw [cell3_0] at k_w0_0
  have k_w0_1 := blk_cell K_w0.out 1
  rw [cell3_1] at k_w0_1
  have k_w0_2 := blk_cell K_w0.out 2
  rw [cell3_2] at k_w0_2
  have k_x0_0 := blk_cell K_x0.out 0
  rw [cell3_0] at k_x0_0
  have k_x0_1 := blk_cell K_x0.out 1
  rw [cell3_1] at k_x0_1
  have k_x0_2 := blk_cell K_x0.out 2
  rw [cell3_2] at k_x0_2
  have k_g0_0 := blk_cell K_g0.out 0
  rw [cell3_0] at k_g0_0
  have k_g0_1 := blk_cell K_g0.out 1
  rw [cell3_1] at k_g0_1
  have k_g0_2 := blk_cell K_g0.out 2
  rw [cell3_2] at k_g0_2
  go_wp2_with fail
  clear k_p0_0 k_p0_1 k_p0_2 k_w0_0 k_w0_1 k_w0_2 k_x0_0 k_x0_1 k_x0_2 k_g0_0 k_g0_1 k_g0_2
  refine (eqByteS_same_t ((sliceT 5 u8T).ord O_x2.out) ((sliceT 5 u8T).ord O_t4.out) (Nat.le_refl _) (Nat.le_refl _)).mono ?_
  rintro e w17_ ⟨he, hb⟩
  subst he
  replace A0 := Lib.hid (tyRatchet.behind A0.out (hb.mono HB.out.size))
  replace A2 := Lib.hid ((sliceT 5 u8T).behind A2.out (hb.mono HB.out.size))
  replace O_w0 := Lib.hid (tyRatchet.onext O_w0.out hb)
  replace E_w0 : Hid (∀ b, F_w0 b → b < w17_.heap.size) := Lib.hid (fun b h => Nat.lt_of_lt_of_le (E_w0.out b h) hb.size)
  replace O_w1 := Lib.hid ((sliceT 5 u8T).onext O_w1.out hb)
  replace E_w1 : Hid (∀ b, F_w1 b → b < w17_.heap.size) := Lib.hid (fun b h => Nat.lt_of_lt_of_le (E_w1.out b h) hb.size)
  replace O_x0 := Lib.hid (tyRatchet.onext O_x0.out hb)
  replace E_x0 : Hid (∀ b, (ival w6_.heap.size w7_.heap.size) b → b < w17_.heap.size) := Lib.hid (fun b h => Nat.lt_of_lt_of_le (E_x0.out b h) hb.size)
  replace O_x2 := Lib.hid ((sliceT 5 u8T).onext O_x2.out hb)
  replace E_x2 : Hid (∀ b, (ival w8_.heap.size w9_.heap.size) b → b < w17_.heap.size) := Lib.hid (fun b h => Nat.lt_of_lt_of_le (E_x2.out b h) hb.size)
  replace O_g0 := Lib.hid (tyRatchet.onext O_g0.out hb)
  replace E_g0 : Hid (∀ b, F_g0 b → b < w17_.heap.size) := Lib.hid (fun b h => Nat.lt_of_lt_of_le (E_g0.out b h) hb.size)
  replace O_g1 := Lib.hid ((sliceT 5 u8T).onext O_g1.out hb)
  replace E_g1 : Hid (∀ b, F_g1 b → b < w17_.heap.size) := Lib.hid (fun b h => Nat.lt_of_lt_of_le (E_g1.out b h) hb.size)
  replace O_t4 := Lib.hid ((sliceT 5 u8T).onext O_t4.out hb)
  replace E_t4 : Hid (∀ b, (ival w15_.heap.size w16_.heap.size) b → b < w17_.heap.size) := Lib.hid (fun b h => Nat.lt_of_lt_of_le (E_t4.out b h) hb.size)
  replace K_p0 := Lib.hid ((hb.block _ (lt_of_block K_p0.out)).trans K_p0.out)
  replace K_w0 := Lib.hid ((hb.block _ (lt_of_block K_w0.out)).trans K_w0.out)
  replace K_x0 := Lib.hid ((hb.block _ (lt_of_block K_x0.out)).trans K_x0.out)
  replace K_g0 := Lib.hid ((hb.block _ (lt_of_block K_g0.out)).trans K_g0.out)
  replace HB := Lib.hid (HB.out.trans (hb.mono HB.out.size))
  clear hb
  clear O_t4 E_t4 D_t4
  clear X_x0_t4
  clear X_x2_t4
  clear X_g0_t4
  clear X_g1_t4
  -- ('set', 'k', '1')
  -- ('mark', 'k', 'Ratchet', 'x0', 'k')
  have hF11 : tyRatchet.vcnt s0 ≤ 1099511627776 := vb_rt B0t.out
  obtain ⟨K11, hK11⟩ : ∃ K : Int, K = 1 + ((tyRatchet.vcnt s0 : Nat) : Int) := ⟨_, rfl⟩
  have hB11 : 0 ≤ K11 ∧ K11 ≤ 1099511627786 := by omega
  have G11 := Lib.hid hK11
  clear hK11
  have k_p0_0 := blk_cell K_p0.out 0
  rw [cell3_0] at k_p0_0
  have k_p0_1 := blk_cell K_p0.out 1
  rw [cell3_1] at k_p0_1
  have k_p0_2 := blk_cell K_p0.out 2
  rw [cell3_2] at k_p0_2
  have k_w0_0 := blk_cell K_w0.out 0
  rw [cell3_0] at k_w0_0
  have k_w0_1 := blk_cell K_w0.out 1
  rw [cell3_1] at k_w0_1
  have k_w0_2 := blk_cell K_w0.out 2
  rw [cell3_2] at k_w0_2
  have k_x0_0 := blk_cell K_x0.out 0
  rw [cell3_0] at k_x0_0
  have k_x0_1 := blk_cell K_x0.out 1
  rw [cell3_1] at k_x0_1
  have k_x0_2 := blk_cell K_x0.out 2
  rw [cell3_2] at k_x0_2
  have k_g0_0 := blk_cell K_g0.out 0
  rw [cell3_0] at k_g0_0
  have k_g0_1 := blk_cell K_g0.out 1
  rw [cell3_1] at k_g0_1
  have k_g0_2 := blk_cell K_g0.out 2
  rw [cell3_2] at k_g0_2
  go_wp2_with fail
  clear k_p0_0 k_p0_1 k_p0_2 k_w0_0 k_w0_1 k_w0_2 k_x0_0 k_x0_1 k_x0_2 k_g0_0 k_g0_1 k_g0_2
  refine (markRatchet_any (k0 := 1) O_x0.out E_x0.out (by omega) (by omega)).mono ?_
  rintro e w18_ ⟨he, hO, hk⟩
  rw [← G11.out] at he
  subst he
  have hb := hk.below (B := w.heap.size) D_x0.out HB.out.size
  replace A0 := Lib.hid (tyRatchet.behind A0.out hb)
  replace A2 := Lib.hid ((sliceT 5 u8T).behind A2.out hb)
  replace O_w0 := Lib.hid (tyRatchet.okept O_w0.out hk X_w0_x0.out)
  replace E_w0 : Hid (∀ b, F_w0 b → b < w18_.heap.size) := Lib.hid (fun b h => Nat.lt_of_lt_of_le (E_w0.out b h) hk.size)
  replace O_w1 := Lib.hid ((sliceT 5 u8T).okept O_w1.out hk X_w1_x0.out)
  replace E_w1 : Hid (∀ b, F_w1 b → b < w18_.heap.size) := Lib.hid (fun b h => Nat.lt_of_lt_of_le (E_w1.out b h) hk.size)
  replace E_x0 : Hid (∀ b, (ival w6_.heap.size w7_.heap.size) b → b < w18_.heap.size) := Lib.hid (fun b h => Nat.lt_of_lt_of_le (E_x0.out b h) hk.size)
  replace O_x2 := Lib.hid ((sliceT 5 u8T).okept O_x2.out hk (fun b h1 h2 => X_x0_x2.out b h2 h1))
  replace E_x2 : Hid (∀ b, (ival w8_.heap.size w9_.heap.size) b → b < w18_.heap.size) := Lib.hid (fun b h => Nat.lt_of_lt_of_le (E_x2.out b h) hk.size)
  replace O_g0 := Lib.hid (tyRatchet.okept O_g0.out hk (fun b h1 h2 => X_x0_g0.out b h2 h1))
  replace E_g0 : Hid (∀ b, F_g0 b → b < w18_.heap.size) := Lib.hid (fun b h => Nat.lt_of_lt_of_le (E_g0.out b h) hk.size)
  replace O_g1 := Lib.hid ((sliceT 5 u8T).okept O_g1.out hk (fun b h1 h2 => X_x0_g1.out b h2 h1))
  replace E_g1 : Hid (∀ b, F_g1 b → b < w18_.heap.size) := Lib.hid (fun b h => Nat.lt_of_lt_of_le (E_g1.out b h) hk.size)
  replace K_p0 := Lib.hid ((hk.block _ (lt_of_block K_p0.out) N_p0_x0.out).trans K_p0.out)
  replace K_w0 := Lib.hid ((hk.block _ (lt_of_block K_w0.out) N_w0_x0.out).trans K_w0.out)
  replace K_x0 := Lib.hid ((hk.block _ (lt_of_block K_x0.out) N_x0_x0.out).trans K_x0.out)
  replace K_g0 := Lib.hid ((hk.block _ (lt_of_block K_g0.out) N_g0_x0.out).trans K_g0.out)
  replace HB := Lib.hid (HB.out.trans hb)
  replace O_x0 := Lib.hid hO
  clear hO hk hb
  clear O_x0 E_x0 D_x0
  clear X_w0_x0
  clear X_w1_x0
  clear X_x0_x2
  clear X_x0_g0
  clear X_x0_g1
  clear N_p0_x0
  clear N_w0_x0
  clear N_x0_x0
  clear N_g0_x0
  clear K_x0
  clear N_x0_x2
  clear N_x0_g0
  clear N_x0_g1
  -- ('mark', 'k', '[]byte', 'x2', 'k')
  have hF12 : (sliceT 5 u8T).vcnt s2 ≤ 1099511627776 := vb_rb L2t.out
  obtain ⟨K12, hK12⟩ : ∃ K : Int, K = K11 + (((sliceT 5 u8T).vcnt s2 : Nat) : Int) := ⟨_, rfl⟩
  have hB12 : 0 ≤ K12 ∧ K12 ≤ 2199023255562 := by omega
  have G12 := Lib.hid hK12
  clear hK12
  have k_p0_0 := blk_cell K_p0.out 0
  rw [cell3_0] at k_p0_0
  have k_p0_1 := blk_cell K_p0.out 1
  rw [cell3_1] at k_p0_1
  have k_p0_2 := blk_cell K_p0.out 2
  rw [cell3_2] at k_p0_2
  have k_w0_0 := blk_cell K_w0.out 0
  rw [cell3_0] at k_w0_0
  have k_w0_1 := blk_cell K_w0.out 1
  rw [cell3_1] at k_w0_1
  have k_w0_2 := blk_cell K_w0.out 2
  rw [cell3_2] at k_w0_2
  have k_g0_0 := blk_cell K_g0.out 0
  rw [cell3_0] at k_g0_0
  have k_g0_1 := blk_cell K_g0.out 1
  rw [cell3_1] at k_g0_1
  have k_g0_2 := blk_cell K_g0.out 2
  rw [cell3_2] at k_g0_2
  go_wp2_with fail
  clear k_p0_0 k_p0_1 k_p0_2 k_w0_0 k_w0_1 k_w0_2 k_g0_0 k_g0_1 k_g0_2
  refine (markByteS_t (k0 := K11) O_x2.out (by omega) (by omega)).mono ?_
  rintro e w19_ ⟨he, hO, hk⟩
  rw [← G12.out] at he
  subst he
  have hb := hk.below (B := w.heap.size) D_x2.out HB.out.size
  replace A0 := Lib.hid (tyRatchet.behind A0.out hb)
  replace A2 := Lib.hid ((sliceT 5 u8T).behind A2.out hb)
  replace O_w0 := Lib.hid (tyRatchet.okept O_w0.out hk X_w0_x2.out)
  replace E_w0 : Hid (∀ b, F_w0 b → b < w19_.heap.size) := Lib.hid (fun b h => Nat.lt_of_lt_of_le (E_w0.out b h) hk.size)
  replace O_w1 := Lib.hid ((sliceT 5 u8T).okept O_w1.out hk X_w1_x2.out)
  replace E_w1 : Hid (∀ b, F_w1 b → b < w19_.heap.size) := Lib.hid (fun b h => Nat.lt_of_lt_of_le (E_w1.out b h) hk.size)
  replace E_x2 : Hid (∀ b, (ival w8_.heap.size w9_.heap.size) b → b < w19_.heap.size) := Lib.hid (fun b h => Nat.lt_of_lt_of_le (E_x2.out b h) hk.size)
  replace O_g0 := Lib.hid (tyRatchet.okept O_g0.out hk (fun b h1 h2 => X_x2_g0.out b h2 h1))
  replace E_g0 : Hid (∀ b, F_g0 b → b < w19_.heap.size) := Lib.hid (fun b h => Nat.lt_of_lt_of_le (E_g0.out b h) hk.size)
  replace O_g1 := Lib.hid ((sliceT 5 u8T).okept O_g1.out hk (fun b h1 h2 => X_x2_g1.out b h2 h1))
  replace E_g1 : Hid (∀ b, F_g1 b → b < w19_.heap.size) := Lib.hid (fun b h => Nat.lt_of_lt_of_le (E_g1.out b h) hk.size)
  replace K_p0 := Lib.hid ((hk.block _ (lt_of_block K_p0.out) N_p0_x2.out).trans K_p0.out)
  replace K_w0 := Lib.hid ((hk.block _ (lt_of_block K_w0.out) N_w0_x2.out).trans K_w0.out)
  replace K_g0 := Lib.hid ((hk.block _ (lt_of_block K_g0.out) N_g0_x2.out).trans K_g0.out)
  replace HB := Lib.hid (HB.out.trans hb)
  replace O_x2 := Lib.hid hO
  clear hO hk hb
  clear O_x2 E_x2 D_x2
  clear X_w0_x2
  clear X_w1_x2
  clear X_x2_g0
  clear X_x2_g1
  clear N_p0_x2
  clear N_w0_x2
  clear N_g0_x2
  -- ('eq', 'Ratchet', ('own', 'g0'), ('own', 'w0'))
  have k_p0_0 := blk_cell K_p0.out 0
  rw [cell3_0] at k_p0_0
  have k_p0_1 := blk_cell K_p0.out 1
  rw [cell3_1] at k_p0_1
  have k_p0_2 := blk_cell K_p0.out 2
  rw [cell3_2] at k_p0_2
  have k_w0_0 := blk_cell K_w0.out 0
  rw [cell3_0] at k_w0_0
  have k_w0_1 := blk_cell K_w0.out 1
  rw [cell3_1] at k_w0_1
  have k_w0_2 := blk_cell K_w0.out 2
  rw [cell3_2] at k_w0_2
  have k_g0_0 := blk_cell K_g0.out 0
  rw [cell3_0] at k_g0_0
  have k_g0_1 := blk_cell K_g0.out 1
  rw [cell3_1] at k_g0_1
  have k_g0_2 := blk_cell K_g0.out 2
  rw [cell3_2] at k_g0_2
  go_wp2_with fail
  clear k_p0_0 k_p0_1 k_p0_2 k_w0_0 k_w0_1 k_w0_2 k_g0_0 k_g0_1 k_g0_2
  refine (eqRatchet_same (tyRatchet.ord O_g0.out) (tyRatchet.ord O_w0.out) (Nat.le_refl _) (Nat.le_refl _)).mono ?_
  rintro e w20_ ⟨he, hb⟩
  subst he
  replace A0 := Lib.hid (tyRatchet.behind A0.out (hb.mono HB.out.size))
  replace A2 := Lib.hid ((sliceT 5 u8T).behind A2.out (hb.mono HB.out.size))
  replace O_w0 := Lib.hid (tyRatchet.onext O_w0.out hb)
  replace E_w0 : Hid (∀ b, F_w0 b → b < w20_.heap.size) := Lib.hid (fun b h => Nat.lt_of_lt_of_le (E_w0.out b h) hb.size)
  replace O_w1 := Lib.hid ((sliceT 5 u8T).onext O_w1.out hb)
  replace E_w1 : Hid (∀ b, F_w1 b → b < w20_.heap.size) := Lib.hid (fun b h => Nat.lt_of_lt_of_le (E_w1.out b h) hb.size)
  replace O_g0 := Lib.hid (tyRatchet.onext O_g0.out hb)
  replace E_g0 : Hid (∀ b, F_g0 b → b < w20_.heap.size) := Lib.hid (fun b h => Nat.lt_of_lt_of_le (E_g0.out b h) hb.size)
  replace O_g1 := Lib.hid ((sliceT 5 u8T).onext O_g1.out hb)
  replace E_g1 : Hid (∀ b, F_g1 b → b < w20_.heap.size) := Lib.hid (fun b h => Nat.lt_of_lt_of_le (E_g1.out b h) hb.size)
  replace K_p0 := Lib.hid ((hb.block _ (lt_of_block K_p0.out)).trans K_p0.out)
  replace K_w0 := Lib.hid ((hb.block _ (lt_of_block K_w0.out)).trans K_w0.out)
  replace K_g0 := Lib.hid ((hb.block _ (lt_of_block K_g0.out)).trans K_g0.out)
  replace HB := Lib.hid (HB.out.trans (hb.mono HB.out.size))
  clear hb
  -- ('eq', '[]byte', ('own', 'g1'), ('own', 'w1'))
  have k_p0_0 := blk_cell K_p0.out 0
  rw [cell3_0] at k_p0_0
  have k_p0_1 := blk_cell K_p0.out 1
  rw [cell3_1] at k_p0_1
  have k_p0_2 := blk_cell K_p0.out 2
  rw [cell3_2] at k_p0_2
  have k_w0_0 := blk_cell K_w0.out 0
  rw [cell3_0] at k_w0_0
  have k_w0_1 := blk_cell K_w0.out 1
  rw [cell3_1] at k_w0_1
  have k_w0_2 := blk_cell K_w0.out 2
  rw [cell3_2] at k_w0_2
  have k_g0_0 := blk_cell K_g0.out 0
  rw [cell3_0] at k_g0_0
  have k_g0_1 := blk_cell K_g0.out 1
  rw [cell3_1] at k_g0_1
  have k_g0_2 := blk_cell K_g0.out 2
  rw [cell3_2] at k_g0_2
  go_wp2_with fail
  clear k_p0_0 k_p0_1 k_p0_2 k_w0_0 k_w0_1 k_w0_2 k_g0_0 k_g0_1 k_g0_2
  refine (eqByteS_same_t ((sliceT 5 u8T).ord O_g1.out) ((sliceT 5 u8T).ord O_w1.out) (Nat.le_refl _) (Nat.le_refl _)).mono ?_
  rintro e w21_ ⟨he, hb⟩
  subst he
  replace A0 := Lib.hid (tyRatchet.behind A0.out (hb.mono HB.out.size))
  replace A2 := Lib.hid ((sliceT 5 u8T).behind A2.out (hb.mono HB.out.size))
  replace O_w0 := Lib.hid (tyRatchet.onext O_w0.out hb)
  replace E_w0 : Hid (∀ b, F_w0 b → b < w21_.heap.size) := Lib.hid (fun b h => Nat.lt_of_lt_of_le (E_w0.out b h) hb.size)
  replace O_w1 := Lib.hid ((sliceT 5 u8T).onext O_w1.out hb)
  replace E_w1 : Hid (∀ b, F_w1 b → b < w21_.heap.size) := Lib.hid (fun b h => Nat.lt_of_lt_of_le (E_w1.out b h) hb.size)
  replace O_g0 := Lib.hid (tyRatchet.onext O_g0.out hb)
  replace E_g0 : Hid (∀ b, F_g0 b → b < w21_.heap.size) := Lib.hid (fun b h => Nat.lt_of_lt_of_le (E_g0.out b h) hb.size)
  replace O_g1 := Lib.hid ((sliceT 5 u8T).onext O_g1.out hb)
  replace E_g1 : Hid (∀ b, F_g1 b → b < w21_.heap.size) := Lib.hid (fun b h => Nat.lt_of_lt_of_le (E_g1.out b h) hb.size)
  replace K_p0 := Lib.hid ((hb.block _ (lt_of_block K_p0.out)).trans K_p0.out)
  replace K_w0 := Lib.hid ((hb.block _ (lt_of_block K_w0.out)).trans K_w0.out)
  replace K_g0 := Lib.hid ((hb.block _ (lt_of_block K_g0.out)).trans K_g0.out)
  replace HB := Lib.hid (HB.out.trans (hb.mono HB.out.size))
  clear hb
  -- ('set', 'm', '1')
  -- ('mark', 'm', 'Ratchet', 'g0', 'm')
  have hF16 : tyRatchet.vcnt Y0 ≤ 1099511627776 := by rw [HY0.out]; exact vb_os B0t.out _ _ _ _
  obtain ⟨K16, hK16⟩ : ∃ K : Int, K = 1 + ((tyRatchet.vcnt Y0 : Nat) : Int) := ⟨_, rfl⟩
  have hB16 : 0 ≤ K16 ∧ K16 ≤ 3298534883338 := by omega
  have G16 := Lib.hid hK16
  clear hK16
  have k_p0_0 := blk_cell K_p0.out 0
  rw [cell3_0] at k_p0_0
  have k_p0_1 := blk_cell K_p0.out 1
  rw [cell3_1] at k_p0_1
  have k_p0_2 := blk_cell K_p0.out 2
  rw [cell3_2] at k_p0_2
  have k_w0_0 := blk_cell K_w0.out 0
  rw [cell3_0] at k_w0_0
  have k_w0_1 := blk_cell K_w0.out 1
  rw [cell3_1] at k_w0_1
  have k_w0_2 := blk_cell K_w0.out 2
  rw [cell3_2] at k_w0_2
  have k_g0_0 := blk_cell K_g0.out 0
  rw [cell3_0] at k_g0_0
  have k_g0_1 := blk_cell K_g0.out 1
  rw [cell3_1] at k_g0_1
  have k_g0_2 := blk_cell K_g0.out 2
  rw [cell3_2] at k_g0_2
  go_wp2_with fail
  clear k_p0_0 k_p0_1 k_p0_2 k_w0_0 k_w0_1 k_w0_2 k_g0_0 k_g0_1 k_g0_2
  refine (markRatchet_any (k0 := 1) O_g0.out E_g0.out (by omega) (by omega)).mono ?_
  rintro e w22_ ⟨he, hO, hk⟩
  rw [← G16.out] at he
  subst he
  have hb := hk.below (B := w.heap.size) D_g0.out HB.out.size
  replace A0 := Lib.hid (tyRatchet.behind A0.out hb)
  replace A2 := Lib.hid ((sliceT 5 u8T).behind A2.out hb)
  replace O_w0 := Lib.hid (tyRatchet.okept O_w0.out hk X_w0_g0.out)
  replace E_w0 : Hid (∀ b, F_w0 b → b < w22_.heap.size) := Lib.hid (fun b h => Nat.lt_of_lt_of_le (E_w0.out b h) hk.size)
  replace O_w1 := Lib.hid ((sliceT 5 u8T).okept O_w1.out hk X_w1_g0.out)
  replace E_w1 : Hid (∀ b, F_w1 b → b < w22_.heap.size) := Lib.hid (fun b h => Nat.lt_of_lt_of_le (E_w1.out b h) hk.size)
  replace E_g0 : Hid (∀ b, F_g0 b → b < w22_.heap.size) := Lib.hid (fun b h => Nat.lt_of_lt_of_le (E_g0.out b h) hk.size)
  replace O_g1 := Lib.hid ((sliceT 5 u8T).okept O_g1.out hk (fun b h1 h2 => X_g0_g1.out b h2 h1))
  replace E_g1 : Hid (∀ b, F_g1 b → b < w22_.heap.size) := Lib.hid (fun b h => Nat.lt_of_lt_of_le (E_g1.out b h) hk.size)
  replace K_p0 := Lib.hid ((hk.block _ (lt_of_block K_p0.out) N_p0_g0.out).trans K_p0.out)
  replace K_w0 := Lib.hid ((hk.block _ (lt_of_block K_w0.out) N_w0_g0.out).trans K_w0.out)
  replace K_g0 := Lib.hid ((hk.block _ (lt_of_block K_g0.out) N_g0_g0.out).trans K_g0.out)
  replace HB := Lib.hid (HB.out.trans hb)
  replace O_g0 := Lib.hid hO
  clear hO hk hb
  -- ('mark', 'm', '[]byte', 'g1', 'm')
  have hF17 : (sliceT 5 u8T).vcnt Y1 ≤ 1099511627776 := by rw [HY1.out]; exact vb_osb _ _ _ _ _ _
  obtain ⟨K17, hK17⟩ : ∃ K : Int, K = K16 + (((sliceT 5 u8T).vcnt Y1 : Nat) : Int) := ⟨_, rfl⟩
  have hB17 : 0 ≤ K17 ∧ K17 ≤ 4398046511114 := by omega
  have G17 := Lib.hid hK17
  clear hK17
  have k_p0_0 := blk_cell K_p0.out 0
  rw [cell3_0] at k_p0_0
  have k_p0_1 := blk_cell K_p0.out 1
  rw [cell3_1] at k_p0_1
  have k_p0_2 := blk_cell K_p0.out 2
  rw [cell3_2] at k_p0_2
  have k_w0_0 := blk_cell K_w0.out 0
  rw [cell3_0] at k_w0_0
  have k_w0_1 := blk_cell K_w0.out 1
  rw [cell3_1] at k_w0_1
  have k_w0_2 := blk_cell K_w0.out 2
  rw [cell3_2] at k_w0_2
  have k_g0_0 := blk_cell K_g0.out 0
  rw [cell3_0] at k_g0_0
  have k_g0_1 := blk_cell K_g0.out 1
  rw [cell3_1] at k_g0_1
  have k_g0_2 := blk_cell K_g0.out 2
  rw [cell3_2] at k_g0_2
  go_wp2_with fail
  clear k_p0_0 k_p0_1 k_p0_2 k_w0_0 k_w0_1 k_w0_2 k_g0_0 k_g0_1 k_g0_2
  refine (markByteS_t (k0 := K16) O_g1.out (by omega) (by omega)).mono ?_
  rintro e w23_ ⟨he, hO, hk⟩
  rw [← G17.out] at he
  subst he
  have hb := hk.below (B := w.heap.size) D_g1.out HB.out.size
  replace A0 := Lib.hid (tyRatchet.behind A0.out hb)
  replace A2 := Lib.hid ((sliceT 5 u8T).behind A2.out hb)
  replace O_w0 := Lib.hid (tyRatchet.okept O_w0.out hk X_w0_g1.out)
  replace E_w0 : Hid (∀ b, F_w0 b → b < w23_.heap.size) := Lib.hid (fun b h => Nat.lt_of_lt_of_le (E_w0.out b h) hk.size)
  replace O_w1 := Lib.hid ((sliceT 5 u8T).okept O_w1.out hk X_w1_g1.out)
  replace E_w1 : Hid (∀ b, F_w1 b → b < w23_.heap.size) := Lib.hid (fun b h => Nat.lt_of_lt_of_le (E_w1.out b h) hk.size)
  replace O_g0 := Lib.hid (tyRatchet.okept O_g0.out hk X_g0_g1.out)
  replace E_g0 : Hid (∀ b, F_g0 b → b < w23_.heap.size) := Lib.hid (fun b h => Nat.lt_of_lt_of_le (E_g0.out b h) hk.size)
  replace E_g1 : Hid (∀ b, F_g1 b → b < w23_.heap.size) := Lib.hid (fun b h => Nat.lt_of_lt_of_le (E_g1.out b h) hk.size)
  replace K_p0 := Lib.hid ((hk.block _ (lt_of_block K_p0.out) N_p0_g1.out).trans K_p0.out)
  replace K_w0 := Lib.hid ((hk.block _ (lt_of_block K_w0.out) N_w0_g1.out).trans K_w0.out)
  replace K_g0 := Lib.hid ((hk.block _ (lt_of_block K_g0.out) N_g0_g1.out).trans K_g0.out)
  replace HB := Lib.hid (HB.out.trans hb)
  replace O_g1 := Lib.hid hO
  clear hO hk hb
  -- ('set', 'q', '1')
  -- ('held', 'q', 'Ratchet', 'g0', 'q')
  have k_p0_0 := blk_cell K_p0.out 0
  rw [cell3_0] at k_p0_0
  have k_p0_1 := blk_cell K_p0.out 1
  rw [cell3_1] at k_p0_1
  have k_p0_2 := blk_cell K_p0.out 2
  rw [cell3_2] at k_p0_2
  have k_w0_0 := blk_cell K_w0.out 0
  rw [cell3_0] at k_w0_0
  have k_w0_1 := blk_cell K_w0.out 1
  rw [cell3_1] at k_w0_1
  have k_w0_2 := blk_cell K_w0.out 2
  rw [cell3_2] at k_w0_2
  have k_g0_0 := blk_cell K_g0.out 0
  rw [cell3_0] at k_g0_0
  have k_g0_1 := blk_cell K_g0.out 1
  rw [cell3_1] at k_g0_1
  have k_g0_2 := blk_cell K_g0.out 2
  rw [cell3_2] at k_g0_2
  go_wp2_with fail
  clear k_p0_0 k_p0_1 k_p0_2 k_w0_0 k_w0_1 k_w0_2 k_g0_0 k_g0_1 k_g0_2
  refine (heldRatchet_any (x := Y0) (k0 := 1) (tyRatchet.ord O_g0.out) (Nat.le_refl _) (by omega) (by omega)).mono ?_
  rintro e w24_ ⟨he, hb⟩
  rw [← G16.out] at he
  subst he
  replace A0 := Lib.hid (tyRatchet.behind A0.out (hb.mono HB.out.size))
  replace A2 := Lib.hid ((sliceT 5 u8T).behind A2.out (hb.mono HB.out.size))
  replace O_w0 := Lib.hid (tyRatchet.onext O_w0.out hb)
  replace E_w0 : Hid (∀ b, F_w0 b → b < w24_.heap.size) := Lib.hid (fun b h => Nat.lt_of_lt_of_le (E_w0.out b h) hb.size)
  replace O_w1 := Lib.hid ((sliceT 5 u8T).onext O_w1.out hb)
  replace E_w1 : Hid (∀ b, F_w1 b → b < w24_.heap.size) := Lib.hid (fun b h => Nat.lt_of_lt_of_le (E_w1.out b h) hb.size)
  replace O_g0 := Lib.hid (tyRatchet.onext O_g0.out hb)
  replace E_g0 : Hid (∀ b, F_g0 b → b < w24_.heap.size) := Lib.hid (fun b h => Nat.lt_of_lt_of_le (E_g0.out b h) hb.size)
  replace O_g1 := Lib.hid ((sliceT 5 u8T).onext O_g1.out hb)
  replace E_g1 : Hid (∀ b, F_g1 b → b < w24_.heap.size) := Lib.hid (fun b h => Nat.lt_of_lt_of_le (E_g1.out b h) hb.size)
  replace K_p0 := Lib.hid ((hb.block _ (lt_of_block K_p0.out)).trans K_p0.out)
  replace K_w0 := Lib.hid ((hb.block _ (lt_of_block K_w0.out)).trans K_w0.out)
  replace K_g0 := Lib.hid ((hb.block _ (lt_of_block K_g0.out)).trans K_g0.out)
  replace HB := Lib.hid (HB.out.trans (hb.mono HB.out.size))
  clear hb
  have dd19 : decide (K16 < 0) = false := by simp; omega
  -- ('held', 'q', '[]byte', 'g1', 'q')
  have k_p0_0 := blk_cell K_p0.out 0
  rw [cell3_0] at k_p0_0
  have k_p0_1 := blk_cell K_p0.out 1
  rw [cell3_1] at k_p0_1
  have k_p0_2 := blk_cell K_p0.out 2
  rw [cell3_2] at k_p0_2
  have k_w0_0 := blk_cell K_w0.out 0
  rw [cell3_0] at k_w0_0
  have k_w0_1 := blk_cell K_w0.out 1
  rw [cell3_1] at k_w0_1
  have k_w0_2 := blk_cell K_w0.out 2
  rw [cell3_2] at k_w0_2
  have k_g0_0 := blk_cell K_g0.out 0
  rw [cell3_0] at k_g0_0
  have k_g0_1 := blk_cell K_g0.out 1
  rw [cell3_1] at k_g0_1
  have k_g0_2 := blk_cell K_g0.out 2
  rw [cell3_2] at k_g0_2
  go_wp2_with fail
  clear k_p0_0 k_p0_1 k_p0_2 k_w0_0 k_w0_1 k_w0_2 k_g0_0 k_g0_1 k_g0_2
  refine (heldByteS_t (x := Y1) (k0 := K16) ((sliceT 5 u8T).ord O_g1.out) (Nat.le_refl _) (by omega) (by omega)).mono ?_
  rintro e w25_ ⟨he, hb⟩
  rw [← G17.out] at he
  subst he
  replace A0 := Lib.hid (tyRatchet.behind A0.out (hb.mono HB.out.size))
  replace A2 := Lib.hid ((sliceT 5 u8T).behind A2.out (hb.mono HB.out.size))
  replace O_w0 := Lib.hid (tyRatchet.onext O_w0.out hb)
  replace E_w0 : Hid (∀ b, F_w0 b → b < w25_.heap.size) := Lib.hid (fun b h => Nat.lt_of_lt_of_le (E_w0.out b h) hb.size)
  replace O_w1 := Lib.hid ((sliceT 5 u8T).onext O_w1.out hb)
  replace E_w1 : Hid (∀ b, F_w1 b → b < w25_.heap.size) := Lib.hid (fun b h => Nat.lt_of_lt_of_le (E_w1.out b h) hb.size)
  replace O_g0 := Lib.hid (tyRatchet.onext O_g0.out hb)
  replace E_g0 : Hid (∀ b, F_g0 b → b < w25_.heap.size) := Lib.hid (fun b h => Nat.lt_of_lt_of_le (E_g0.out b h) hb.size)
  replace O_g1 := Lib.hid ((sliceT 5 u8T).onext O_g1.out hb)
  replace E_g1 : Hid (∀ b, F_g1 b → b < w25_.heap.size) := Lib.hid (fun b h => Nat.lt_of_lt_of_le (E_g1.out b h) hb.size)
  replace K_p0 := Lib.hid ((hb.block _ (lt_of_block K_p0.out)).trans K_p0.out)
  replace K_w0 := Lib.hid ((hb.block _ (lt_of_block K_w0.out)).trans K_w0.out)
  replace K_g0 := Lib.hid ((hb.block _ (lt_of_block K_g0.out)).trans K_g0.out)
  replace HB := Lib.hid (HB.out.trans (hb.mono HB.out.size))
  clear hb
  have dd20 : decide (K17 < 0) = false := by simp; omega
  -- ('call', 'impl', 'OpenStep', [('copy', 0, 'Ratchet'), ('arg', 1), ('copy', 2, '[]byte')], ['h0', 'h1', 'h2'])
  have k_p0_0 := blk_cell K_p0.out 0
  rw [cell3_0] at k_p0_0
  have k_p0_1 := blk_cell K_p0.out 1
  rw [cell3_1] at k_p0_1
  have k_p0_2 := blk_cell K_p0.out 2
  rw [cell3_2] at k_p0_2
  have k_w0_0 := blk_cell K_w0.out 0
  rw [cell3_0] at k_w0_0
  have k_w0_1 := blk_cell K_w0.out 1
  rw [cell3_1] at k_w0_1
  have k_w0_2 := blk_cell K_w0.out 2
  rw [cell3_2] at k_w0_2
  have k_g0_0 := blk_cell K_g0.out 0
  rw [cell3_0] at k_g0_0
  have k_g0_1 := blk_cell K_g0.out 1
  rw [cell3_1] at k_g0_1
  have k_g0_2 := blk_cell K_g0.out 2
  rw [cell3_2] at k_g0_2
  go_wp2_with fail
  clear k_p0_0 k_p0_1 k_p0_2 k_w0_0 k_w0_1 k_w0_2 k_g0_0 k_g0_1 k_g0_2
  refine (toRatchet_any A0.out HB.out.size (Nat.le_trans B0t.out (by decide))).mono ?_
  rintro e w26_ ⟨c_t5, he, hO_t5, hb⟩
  subst he
  have hF_t5 : ∀ b, (ival w25_.heap.size w26_.heap.size) b → w25_.heap.size ≤ b ∧ b < w26_.heap.size := fun b h => h
  obtain ⟨at5_2, nt5_2, _, rfl, _⟩ := own_Ratchet hO_t5
  have D_t5 : Hid (∀ b, (ival w25_.heap.size w26_.heap.size) b → w.heap.size ≤ b) := Lib.hid (fun b h => Nat.le_trans HB.out.size (hF_t5 b h).1)
  replace A0 := Lib.hid (tyRatchet.behind A0.out (hb.mono HB.out.size))
  replace A2 := Lib.hid ((sliceT 5 u8T).behind A2.out (hb.mono HB.out.size))
  replace O_w0 := Lib.hid (tyRatchet.onext O_w0.out hb)
  replace E_w0 : Hid (∀ b, F_w0 b → b < w26_.heap.size) := Lib.hid (fun b h => Nat.lt_of_lt_of_le (E_w0.out b h) hb.size)
  replace O_w1 := Lib.hid ((sliceT 5 u8T).onext O_w1.out hb)
  replace E_w1 : Hid (∀ b, F_w1 b → b < w26_.heap.size) := Lib.hid (fun b h => Nat.lt_of_lt_of_le (E_w1.out b h) hb.size)
  replace O_g0 := Lib.hid (tyRatchet.onext O_g0.out hb)
  replace E_g0 : Hid (∀ b, F_g0 b → b < w26_.heap.size) := Lib.hid (fun b h => Nat.lt_of_lt_of_le (E_g0.out b h) hb.size)
  replace O_g1 := Lib.hid ((sliceT 5 u8T).onext O_g1.out hb)
  replace E_g1 : Hid (∀ b, F_g1 b → b < w26_.heap.size) := Lib.hid (fun b h => Nat.lt_of_lt_of_le (E_g1.out b h) hb.size)
  replace K_p0 := Lib.hid ((hb.block _ (lt_of_block K_p0.out)).trans K_p0.out)
  replace K_w0 := Lib.hid ((hb.block _ (lt_of_block K_w0.out)).trans K_w0.out)
  replace K_g0 := Lib.hid ((hb.block _ (lt_of_block K_g0.out)).trans K_g0.out)
  replace HB := Lib.hid (HB.out.trans (hb.mono HB.out.size))
  clear hb
  have O_t5 := Lib.hid hO_t5
  have E_t5 : Hid (∀ b, (ival w25_.heap.size w26_.heap.size) b → b < w26_.heap.size) := Lib.hid (fun b h => (hF_t5 b h).2)
  clear hO_t5 hF_t5
  have k_p0_0 := blk_cell K_p0.out 0
  rw [cell3_0] at k_p0_0
  have k_p0_1 := blk_cell K_p0.out 1
  rw [cell3_1] at k_p0_1
  have k_p0_2 := blk_cell K_p0.out 2
  rw [cell3_2] at k_p0_2
  have k_w0_0 := blk_cell K_w0.out 0
  rw [cell3_0] at k_w0_0
  have k_w0_1 := blk_cell K_w0.out 1
  rw [cell3_1] at k_w0_1
  have k_w0_2 := blk_cell K_w0.out 2
  rw [cell3_2] at k_w0_2
  have k_g0_0 := blk_cell K_g0.out 0
  rw [cell3_0] at k_g0_0
  have k_g0_1 := blk_cell K_g0.out 1
  rw [cell3_1] at k_g0_1
  have k_g0_2 := blk_cell K_g0.out 2
  rw [cell3_2] at k_g0_2
  go_wp2_with fail
  clear k_p0_0 k_p0_1 k_p0_2 k_w0_0 k_w0_1 k_w0_2 k_g0_0 k_g0_1 k_g0_2
  refine (toByteS_t A2.out HB.out.size (Nat.le_trans B2t.out (by decide))).mono ?_
  rintro e w27_ ⟨v_t6, he, hO_t6, hb⟩
  subst he
  have hF_t6 : ∀ b, (ival w26_.heap.size w27_.heap.size) b → w26_.heap.size ≤ b ∧ b < w27_.heap.size := fun b h => h
  have D_t6 : Hid (∀ b, (ival w26_.heap.size w27_.heap.size) b → w.heap.size ≤ b) := Lib.hid (fun b h => Nat.le_trans HB.out.size (hF_t6 b h).1)
  replace A0 := Lib.hid (tyRatchet.behind A0.out (hb.mono HB.out.size))
  replace A2 := Lib.hid ((sliceT 5 u8T).behind A2.out (hb.mono HB.out.size))
  replace O_w0 := Lib.hid (tyRatchet.onext O_w0.out hb)
  replace E_w0 : Hid (∀ b, F_w0 b → b < w27_.heap.size) := Lib.hid (fun b h => Nat.lt_of_lt_of_le (E_w0.out b h) hb.size)
  replace O_w1 := Lib.hid ((sliceT 5 u8T).onext O_w1.out hb)
  replace E_w1 : Hid (∀ b, F_w1 b → b < w27_.heap.size) := Lib.hid (fun b h => Nat.lt_of_lt_of_le (E_w1.out b h) hb.size)
  replace O_g0 := Lib.hid (tyRatchet.onext O_g0.out hb)
  replace E_g0 : Hid (∀ b, F_g0 b → b < w27_.heap.size) := Lib.hid (fun b h => Nat.lt_of_lt_of_le (E_g0.out b h) hb.size)
  replace O_g1 := Lib.hid ((sliceT 5 u8T).onext O_g1.out hb)
  replace E_g1 : Hid (∀ b, F_g1 b → b < w27_.heap.size) := Lib.hid (fun b h => Nat.lt_of_lt_of_le (E_g1.out b h) hb.size)
  replace O_t5 := Lib.hid (tyRatchet.onext O_t5.out hb)
  replace E_t5 : Hid (∀ b, (ival w25_.heap.size w26_.heap.size) b → b < w27_.heap.size) := Lib.hid (fun b h => Nat.lt_of_lt_of_le (E_t5.out b h) hb.size)
  replace K_p0 := Lib.hid ((hb.block _ (lt_of_block K_p0.out)).trans K_p0.out)
  replace K_w0 := Lib.hid ((hb.block _ (lt_of_block K_w0.out)).trans K_w0.out)
  replace K_g0 := Lib.hid ((hb.block _ (lt_of_block K_g0.out)).trans K_g0.out)
  replace HB := Lib.hid (HB.out.trans (hb.mono HB.out.size))
  clear hb
  have O_t6 := Lib.hid hO_t6
  have E_t6 : Hid (∀ b, (ival w26_.heap.size w27_.heap.size) b → b < w27_.heap.size) := Lib.hid (fun b h => (hF_t6 b h).2)
  clear hO_t6 hF_t6
  have k_p0_0 := blk_cell K_p0.out 0
  rw [cell3_0] at k_p0_0
  have k_p0_1 := blk_cell K_p0.out 1
  rw [cell3_1] at k_p0_1
  have k_p0_2 := blk_cell K_p0.out 2
  rw [cell3_2] at k_p0_2
  have k_w0_0 := blk_cell K_w0.out 0
  rw [cell3_0] at k_w0_0
  have k_w0_1 := blk_cell K_w0.out 1
  rw [cell3_1] at k_w0_1
  have k_w0_2 := blk_cell K_w0.out 2
  rw [cell3_2] at k_w0_2
  have k_g0_0 := blk_cell K_g0.out 0
  rw [cell3_0] at k_g0_0
  have k_g0_1 := blk_cell K_g0.out 1
  rw [cell3_1] at k_g0_1
  have k_g0_2 := blk_cell K_g0.out 2
  rw [cell3_2] at k_g0_2
  go_wp2_with fail
  clear k_p0_0 k_p0_1 k_p0_2 k_w0_0 k_w0_1 k_w0_2 k_g0_0 k_g0_1 k_g0_2
  refine (impl_os_t (tyRatchet.ord O_t5.out) (Nat.le_refl _) ((sliceT 5 u8T).ord O_t6.out) (Nat.le_refl _) W1.out B0t.out (HL.out.next HB.out)).mono ?_
  rintro e w28_ ⟨c_h0, v_h1, F_h0, F_h1, he, hO_h0, hO_h1, hF_h0, hF_h1, hX_h0_h1, hb⟩
  replace hO_h0 : tyRatchet.own F_h0 w28_ c_h0 ((osC s0.1 s0.2.1 s0.2.2 a1 s2, osS s0.1 s0.2.1 s0.2.2 a1 s2, osL s0.1 s0.2.1 s0.2.2 a1 s2)) := hO_h0
  replace hO_h1 : (sliceT 5 u8T).own F_h1 w28_ [v_h1] (osB s0.1 s0.2.1 s0.2.2 a1 s2) := hO_h1
  rw [← HY0.out] at hO_h0
  rw [← HY1.out] at hO_h1
  rw [← HY2.out] at he
  subst he
  obtain ⟨ah0_2, nh0_2, _, rfl, _⟩ := own_Ratchet hO_h0
  clear hX_h0_h1
  have D_h0 : Hid (∀ b, F_h0 b → w.heap.size ≤ b) := Lib.hid (fun b h => Nat.le_trans HB.out.size (hF_h0 b h).1)
  have D_h1 : Hid (∀ b, F_h1 b → w.heap.size ≤ b) := Lib.hid (fun b h => Nat.le_trans HB.out.size (hF_h1 b h).1)
  replace A0 := Lib.hid (tyRatchet.behind A0.out (hb.mono HB.out.size))
  replace A2 := Lib.hid ((sliceT 5 u8T).behind A2.out (hb.mono HB.out.size))
  replace O_w0 := Lib.hid (tyRatchet.onext O_w0.out hb)
  replace E_w0 : Hid (∀ b, F_w0 b → b < w28_.heap.size) := Lib.hid (fun b h => Nat.lt_of_lt_of_le (E_w0.out b h) hb.size)
  replace O_w1 := Lib.hid ((sliceT 5 u8T).onext O_w1.out hb)
  replace E_w1 : Hid (∀ b, F_w1 b → b < w28_.heap.size) := Lib.hid (fun b h => Nat.lt_of_lt_of_le (E_w1.out b h) hb.size)
  replace O_g0 := Lib.hid (tyRatchet.onext O_g0.out hb)
  replace E_g0 : Hid (∀ b, F_g0 b → b < w28_.heap.size) := Lib.hid (fun b h => Nat.lt_of_lt_of_le (E_g0.out b h) hb.size)
  replace O_g1 := Lib.hid ((sliceT 5 u8T).onext O_g1.out hb)
  replace E_g1 : Hid (∀ b, F_g1 b → b < w28_.heap.size) := Lib.hid (fun b h => Nat.lt_of_lt_of_le (E_g1.out b h) hb.size)
  replace O_t5 := Lib.hid (tyRatchet.onext O_t5.out hb)
  replace E_t5 : Hid (∀ b, (ival w25_.heap.size w26_.heap.size) b → b < w28_.heap.size) := Lib.hid (fun b h => Nat.lt_of_lt_of_le (E_t5.out b h) hb.size)
  replace O_t6 := Lib.hid ((sliceT 5 u8T).onext O_t6.out hb)
  replace E_t6 : Hid (∀ b, (ival w26_.heap.size w27_.heap.size) b → b < w28_.heap.size) := Lib.hid (fun b h => Nat.lt_of_lt_of_le (E_t6.out b h) hb.size)
  replace K_p0 := Lib.hid ((hb.block _ (lt_of_block K_p0.out)).trans K_p0.out)
  replace K_w0 := Lib.hid ((hb.block _ (lt_of_block K_w0.out)).trans K_w0.out)
  replace K_g0 := Lib.hid ((hb.block _ (lt_of_block K_g0.out)).trans K_g0.out)
  replace HB := Lib.hid (HB.out.trans (hb.mono HB.out.size))
  clear hb
  have O_h0 := Lib.hid hO_h0
  have E_h0 : Hid (∀ b, F_h0 b → b < w28_.heap.size) := Lib.hid (fun b h => (hF_h0 b h).2)
  clear hO_h0 hF_h0
  have O_h1 := Lib.hid hO_h1
  have E_h1 : Hid (∀ b, F_h1 b → b < w28_.heap.size) := Lib.hid (fun b h => (hF_h1 b h).2)
  clear hO_h1 hF_h1
  have hb : Below w28_.heap.size w28_ (w28_.alloc (.cells #[.int .i64 Y0.1, .int .i64 Y0.2.1, .slice ah0_2 Y0.2.2.length nh0_2] 26)) := (Below.refl _ _).alloc (Nat.le_refl _) _
  replace A0 := Lib.hid (tyRatchet.behind A0.out (hb.mono HB.out.size))
  replace A2 := Lib.hid ((sliceT 5 u8T).behind A2.out (hb.mono HB.out.size))
  replace O_w0 := Lib.hid (tyRatchet.onext O_w0.out hb)
  replace E_w0 : Hid (∀ b, F_w0 b → b < (w28_.alloc (.cells #[.int .i64 Y0.1, .int .i64 Y0.2.1, .slice ah0_2 Y0.2.2.length nh0_2] 26)).heap.size) := Lib.hid (fun b h => Nat.lt_of_lt_of_le (E_w0.out b h) hb.size)
  replace O_w1 := Lib.hid ((sliceT 5 u8T).onext O_w1.out hb)
  replace E_w1 : Hid (∀ b, F_w1 b → b < (w28_.alloc (.cells #[.int .i64 Y0.1, .int .i64 Y0.2.1, .slice ah0_2 Y0.2.2.length nh0_2] 26)).heap.size) := Lib.hid (fun b h => Nat.lt_of_lt_of_le (E_w1.out b h) hb.size)
  replace O_g0 := Lib.hid (tyRatchet.onext O_g0.out hb)
  replace E_g0 : Hid (∀ b, F_g0 b → b < (w28_.alloc (.cells #[.int .i64 Y0.1, .int .i64 Y0.2.1, .slice ah0_2 Y0.2.2.length nh0_2] 26)).heap.size) := Lib.hid (fun b h => Nat.lt_of_lt_of_le (E_g0.out b h) hb.size)
  replace O_g1 := Lib.hid ((sliceT 5 u8T).onext O_g1.out hb)
  replace E_g1 : Hid (∀ b, F_g1 b → b < (w28_.alloc (.cells #[.int .i64 Y0.1, .int .i64 Y0.2.1, .slice ah0_2 Y0.2.2.length nh0_2] 26)).heap.size) := Lib.hid (fun b h => Nat.lt_of_lt_of_le (E_g1.out b h) hb.size)
  replace O_t5 := Lib.hid (tyRatchet.onext O_t5.out hb)
  replace E_t5 : Hid (∀ b, (ival w25_.heap.size w26_.heap.size) b → b < (w28_.alloc (.cells #[.int .i64 Y0.1, .int .i64 Y0.2.1, .slice ah0_2 Y0.2.2.length nh0_2] 26)).heap.size) := Lib.hid (fun b h => Nat.lt_of_lt_of_le (E_t5.out b h) hb.size)
  replace O_t6 := Lib.hid ((sliceT 5 u8T).onext O_t6.out hb)
  replace E_t6 : Hid (∀ b, (ival w26_.heap.size w27_.heap.size) b → b < (w28_.alloc (.cells #[.int .i64 Y0.1, .int .i64 Y0.2.1, .slice ah0_2 Y0.2.2.length nh0_2] 26)).heap.size) := Lib.hid (fun b h => Nat.lt_of_lt_of_le (E_t6.out b h) hb.size)
  replace O_h0 := Lib.hid (tyRatchet.onext O_h0.out hb)
  replace E_h0 : Hid (∀ b, F_h0 b → b < (w28_.alloc (.cells #[.int .i64 Y0.1, .int .i64 Y0.2.1, .slice ah0_2 Y0.2.2.length nh0_2] 26)).heap.size) := Lib.hid (fun b h => Nat.lt_of_lt_of_le (E_h0.out b h) hb.size)
  replace O_h1 := Lib.hid ((sliceT 5 u8T).onext O_h1.out hb)
  replace E_h1 : Hid (∀ b, F_h1 b → b < (w28_.alloc (.cells #[.int .i64 Y0.1, .int .i64 Y0.2.1, .slice ah0_2 Y0.2.2.length nh0_2] 26)).heap.size) := Lib.hid (fun b h => Nat.lt_of_lt_of_le (E_h1.out b h) hb.size)
  replace K_p0 := Lib.hid ((hb.block _ (lt_of_block K_p0.out)).trans K_p0.out)
  replace K_w0 := Lib.hid ((hb.block _ (lt_of_block K_w0.out)).trans K_w0.out)
  replace K_g0 := Lib.hid ((hb.block _ (lt_of_block K_g0.out)).trans K_g0.out)
  replace HB := Lib.hid (HB.out.trans (hb.mono HB.out.size))
  clear hb
  have K_h0 := Lib.hid (heap_alloc_new w28_ (.cells #[.int .i64 Y0.1, .int .i64 Y0.2.1, .slice ah0_2 Y0.2.2.length nh0_2] 26))
  have k_p0_0 := blk_cell K_p0.out 0
  rw [cell3_0] at k_p0_0
  have k_p0_1 := blk_cell K_p0.out 1
  rw [cell3_1] at k_p0_1
  have k_p0_2 := blk_cell K_p0.out 2
  rw [cell3_2] at k_p0_2
  have k_w0_0 := blk_cell K_w0.out 0
  rw [cell3_0] at k_w0_0
  have k_w0_1 := blk_cell K_w0.out 1
  rw [cell3_1] at k_w0_1
  have k_w0_2 := blk_cell K_w0.out 2
  rw [cell3_2] at k_w0_2
  have k_g0_0 := blk_cell K_g0.out 0
  rw [cell3_0] at k_g0_0
  have k_g0_1 := blk_cell K_g0.out 1
  rw [cell3_1] at k_g0_1
  have k_g0_2 := blk_cell K_g0.out 2
  rw [cell3_2] at k_g0_2
  have k_h0_0 := blk_cell K_h0.out 0
  rw [cell3_0] at k_h0_0
  have k_h0_1 := blk_cell K_h0.out 1
  rw [cell3_1] at k_h0_1
  have k_h0_2 := blk_cell K_h0.out 2
  rw [cell3_2] at k_h0_2
  go_wp2_with fail
  clear k_p0_0 k_p0_1 k_p0_2 k_w0_0 k_w0_1 k_w0_2 k_g0_0 k_g0_1 k_g0_2 k_h0_0 k_h0_1 k_h0_2
  obtain ⟨w29_, hw⟩ : ∃ x, x = (w28_.alloc (.cells #[.int .i64 Y0.1, .int .i64 Y0.2.1, .slice ah0_2 Y0.2.2.length nh0_2] 26)) := ⟨_, rfl⟩
  rw [← hw] at HB A0 A2 O_w0 E_w0 O_w1 E_w1 O_g0 E_g0 O_g1 E_g1 O_t5 E_t5 O_t6 E_t6 O_h0 E_h0 O_h1 E_h1 K_p0 K_w0 K_g0 K_h0 ⊢
  clear hw
  clear O_t5 E_t5 D_t5
  clear O_t6 E_t6 D_t6
  clear A0
  clear K_p0
  clear N_p0_g0
  clear N_p0_g1
  clear A2
  -- ('eq', 'Ratchet', ('own', 'h0'), ('own', 'w0'))
  refine (eqRatchet_same (tyRatchet.ord O_h0.out) (tyRatchet.ord O_w0.out) (Nat.le_refl _) (Nat.le_refl _)).mono ?_
  rintro e w30_ ⟨he, hb⟩
  subst he
  replace O_w0 := Lib.hid (tyRatchet.onext O_w0.out hb)
  replace E_w0 : Hid (∀ b, F_w0 b → b < w30_.heap.size) := Lib.hid (fun b h => Nat.lt_of_lt_of_le (E_w0.out b h) hb.size)
  replace O_w1 := Lib.hid ((sliceT 5 u8T).onext O_w1.out hb)
  replace E_w1 : Hid (∀ b, F_w1 b → b < w30_.heap.size) := Lib.hid (fun b h => Nat.lt_of_lt_of_le (E_w1.out b h) hb.size)
  replace O_g0 := Lib.hid (tyRatchet.onext O_g0.out hb)
  replace E_g0 : Hid (∀ b, F_g0 b → b < w30_.heap.size) := Lib.hid (fun b h => Nat.lt_of_lt_of_le (E_g0.out b h) hb.size)
  replace O_g1 := Lib.hid ((sliceT 5 u8T).onext O_g1.out hb)
  replace E_g1 : Hid (∀ b, F_g1 b → b < w30_.heap.size) := Lib.hid (fun b h => Nat.lt_of_lt_of_le (E_g1.out b h) hb.size)
  replace O_h0 := Lib.hid (tyRatchet.onext O_h0.out hb)
  replace E_h0 : Hid (∀ b, F_h0 b → b < w30_.heap.size) := Lib.hid (fun b h => Nat.lt_of_lt_of_le (E_h0.out b h) hb.size)
  replace O_h1 := Lib.hid ((sliceT 5 u8T).onext O_h1.out hb)
  replace E_h1 : Hid (∀ b, F_h1 b → b < w30_.heap.size) := Lib.hid (fun b h => Nat.lt_of_lt_of_le (E_h1.out b h) hb.size)
  replace K_w0 := Lib.hid ((hb.block _ (lt_of_block K_w0.out)).trans K_w0.out)
  replace K_g0 := Lib.hid ((hb.block _ (lt_of_block K_g0.out)).trans K_g0.out)
  replace K_h0 := Lib.hid ((hb.block _ (lt_of_block K_h0.out)).trans K_h0.out)
  replace HB := Lib.hid (HB.out.trans (hb.mono HB.out.size))
  clear hb
  clear O_w0 E_w0 D_w0
  clear X_w0_g0
  clear X_w0_g1
  clear K_w0
  clear N_w0_g0
  clear N_w0_g1
  clear O_h0 E_h0 D_h0
  clear K_h0
  -- ('eq', '[]byte', ('own', 'h1'), ('own', 'w1'))
  have k_g0_0 := blk_cell K_g0.out 0
  rw [cell3_0] at k_g0_0
  have k_g0_1 := blk_cell K_g0.out 1
  rw [cell3_1] at k_g0_1
  have k_g0_2 := blk_cell K_g0.out 2
  rw [cell3_2] at k_g0_2
  go_wp2_with fail
  clear k_g0_0 k_g0_1 k_g0_2
  refine (eqByteS_same_t ((sliceT 5 u8T).ord O_h1.out) ((sliceT 5 u8T).ord O_w1.out) (Nat.le_refl _) (Nat.le_refl _)).mono ?_
  rintro e w31_ ⟨he, hb⟩
  subst he
  replace O_w1 := Lib.hid ((sliceT 5 u8T).onext O_w1.out hb)
  replace E_w1 : Hid (∀ b, F_w1 b → b < w31_.heap.size) := Lib.hid (fun b h => Nat.lt_of_lt_of_le (E_w1.out b h) hb.size)
  replace O_g0 := Lib.hid (tyRatchet.onext O_g0.out hb)
  replace E_g0 : Hid (∀ b, F_g0 b → b < w31_.heap.size) := Lib.hid (fun b h => Nat.lt_of_lt_of_le (E_g0.out b h) hb.size)
  replace O_g1 := Lib.hid ((sliceT 5 u8T).onext O_g1.out hb)
  replace E_g1 : Hid (∀ b, F_g1 b → b < w31_.heap.size) := Lib.hid (fun b h => Nat.lt_of_lt_of_le (E_g1.out b h) hb.size)
  replace O_h1 := Lib.hid ((sliceT 5 u8T).onext O_h1.out hb)
  replace E_h1 : Hid (∀ b, F_h1 b → b < w31_.heap.size) := Lib.hid (fun b h => Nat.lt_of_lt_of_le (E_h1.out b h) hb.size)
  replace K_g0 := Lib.hid ((hb.block _ (lt_of_block K_g0.out)).trans K_g0.out)
  replace HB := Lib.hid (HB.out.trans (hb.mono HB.out.size))
  clear hb
  clear O_w1 E_w1 D_w1
  clear X_w1_g0
  clear X_w1_g1
  clear O_h1 E_h1 D_h1
  -- ('set', 'q', '1')
  -- ('held', 'q', 'Ratchet', 'g0', 'q')
  have k_g0_0 := blk_cell K_g0.out 0
  rw [cell3_0] at k_g0_0
  have k_g0_1 := blk_cell K_g0.out 1
  rw [cell3_1] at k_g0_1
  have k_g0_2 := blk_cell K_g0.out 2
  rw [cell3_2] at k_g0_2
  go_wp2_with fail
  clear k_g0_0 k_g0_1 k_g0_2
  refine (heldRatchet_any (x := Y0) (k0 := 1) (tyRatchet.ord O_g0.out) (Nat.le_refl _) (by omega) (by omega)).mono ?_
  rintro e w32_ ⟨he, hb⟩
  rw [← G16.out] at he
  subst he
  replace O_g0 := Lib.hid (tyRatchet.onext O_g0.out hb)
  replace E_g0 : Hid (∀ b, F_g0 b → b < w32_.heap.size) := Lib.hid (fun b h => Nat.lt_of_lt_of_le (E_g0.out b h) hb.size)
  replace O_g1 := Lib.hid ((sliceT 5 u8T).onext O_g1.out hb)
  replace E_g1 : Hid (∀ b, F_g1 b → b < w32_.heap.size) := Lib.hid (fun b h => Nat.lt_of_lt_of_le (E_g1.out b h) hb.size)
  replace K_g0 := Lib.hid ((hb.block _ (lt_of_block K_g0.out)).trans K_g0.out)
  replace HB := Lib.hid (HB.out.trans (hb.mono HB.out.size))
  clear hb
  have dd25 : decide (K16 < 0) = false := by simp; omega
  clear O_g0 E_g0 D_g0
  clear X_g0_g1
  clear N_g0_g0
  clear K_g0
  clear N_g0_g1
  -- ('held', 'q', '[]byte', 'g1', 'q')
  go_wp2_with fail
  refine (heldByteS_t (x := Y1) (k0 := K16) ((sliceT 5 u8T).ord O_g1.out) (Nat.le_refl _) (by omega) (by omega)).mono ?_
  rintro e w33_ ⟨he, hb⟩
  rw [← G17.out] at he
  subst he
  replace O_g1 := Lib.hid ((sliceT 5 u8T).onext O_g1.out hb)
  replace E_g1 : Hid (∀ b, F_g1 b → b < w33_.heap.size) := Lib.hid (fun b h => Nat.lt_of_lt_of_le (E_g1.out b h) hb.size)
  replace HB := Lib.hid (HB.out.trans (hb.mono HB.out.size))
  clear hb
  have dd26 : decide (K17 < 0) = false := by simp; omega
  clear O_g1 E_g1 D_g1
  go_wp2_with fail
  go_ret
  exact ⟨rfl, HB.out⟩
  
end Go.Proofs.YtjbkhbbchacooaaGreatDoor
