/- FnExactReceiveFromMailbox: the walk. No conditions. -/
import Derived.Test.YtbimihljaalllaaDoorMbX
import Derived.Test.YtbimihljaalllaaDoorCells
import Derived.Deep.RegionHeld3
import Derived.Deep.DeepCutAuto
namespace Go.Proofs.YtbimihljaalllaaDoor
open Go Go.RowKit
set_option linter.unusedVariables false
attribute [local irreducible] kh

set_option maxHeartbeats 4000000 in
set_option maxRecDepth 100000 in
theorem fnExactReceiveFromMailbox_walk (c0 : List Value) (s0 : VMailbox) (a1 : Int) (v2 : Value) (s2 : List Int) (w : World) (w0 : tyMailbox.rd w.heap.size w c0 s0) (w1 : (Lit.int .i64 a1).wf = true) (w2 : (sliceT 5 u8T).rd w.heap.size w [v2] s2) (hL : laidMetH Tryd.prog Rows.fnExactReceiveFromMailboxRow.laid w) :
    Calls Tryd.prog 7 #[.agg c0.toArray, .int .i64 a1, v2] w fun e w' => e = .returned (.bool true) ∧ Below w.heap.size w w' := by
  have HL := Lib.hid (gv_of_laid hL)
  clear hL
  obtain ⟨rfl, _⟩ := rd_Mailbox w0
  have A0 := Lib.hid w0
  clear w0
  obtain ⟨av2, cv2, hv2, lv2, mv2, _⟩ := sl_open w2
  have hw2 := (List.cons.inj hv2).1
  clear hv2
  subst hw2
  unfold maxLen at mv2
  have A2 := Lib.hid w2
  clear w2
  have W1 := Lib.hid w1
  have w1b := wf_i64 w1
  clear w1
  by_cases by2 : (s2.length : Int) ≤ 1048576
  case neg =>
    have db2 : decide ((1048576 : Int) < (s2.length : Int)) = true := by simp; omega
    go_enter Tryd.func7, Tryd.ntmps7
    have hb := ((Below.refl w.heap.size w).alloc (Nat.le_refl _) (.cells #[.int .i64 s0.1, .int .i64 s0.2.1, .int .i64 s0.2.2] 53))
    have K_p0 := Lib.hid (heap_alloc_new w (.cells #[.int .i64 s0.1, .int .i64 s0.2.1, .int .i64 s0.2.2] 53))
    replace A0 := Lib.hid (tyMailbox.behind A0.out hb)
    replace A2 := Lib.hid ((sliceT 5 u8T).behind A2.out hb)
    have HB := Lib.hid hb
    clear hb
    have k_p0_0 := blk_cell K_p0.out 0
    rw [cell3_0] at k_p0_0
    have k_p0_1 := blk_cell K_p0.out 1
    rw [cell3_1] at k_p0_1
    have k_p0_2 := blk_cell K_p0.out 2
    rw [cell3_2] at k_p0_2
    go_wp2_with fail
    clear k_p0_0 k_p0_1 k_p0_2
    obtain ⟨w1_, hw⟩ : ∃ x, x = (w.alloc (.cells #[.int .i64 s0.1, .int .i64 s0.2.1, .int .i64 s0.2.2] 53)) := ⟨_, rfl⟩
    rw [← hw] at HB A0 A2 K_p0 ⊢
    clear hw
    go_ret
    exact ⟨rfl, HB.out⟩
  have db2 : decide ((1048576 : Int) < (s2.length : Int)) = false := by simp; omega
  have B2t : Hid ((sliceT 5 u8T).tot s2 ≤ 1048576) := Lib.hid (by show totL (intT _ _ _) _ ≤ _; rw [totL_int]; omega)
  have L2t : Hid (s2.length ≤ 1048576) := Lib.hid (by omega)
  clear by2
  go_enter Tryd.func7, Tryd.ntmps7
  have hb := ((Below.refl w.heap.size w).alloc (Nat.le_refl _) (.cells #[.int .i64 s0.1, .int .i64 s0.2.1, .int .i64 s0.2.2] 53))
  have K_p0 := Lib.hid (heap_alloc_new w (.cells #[.int .i64 s0.1, .int .i64 s0.2.1, .int .i64 s0.2.2] 53))
  replace A0 := Lib.hid (tyMailbox.behind A0.out hb)
  replace A2 := Lib.hid ((sliceT 5 u8T).behind A2.out hb)
  have HB := Lib.hid hb
  clear hb
  have k_p0_0 := blk_cell K_p0.out 0
  rw [cell3_0] at k_p0_0
  have k_p0_1 := blk_cell K_p0.out 1
  rw [cell3_1] at k_p0_1
  have k_p0_2 := blk_cell K_p0.out 2
  rw [cell3_2] at k_p0_2
  go_wp2_with fail
  clear k_p0_0 k_p0_1 k_p0_2
  obtain ⟨w1_, hw⟩ : ∃ x, x = (w.alloc (.cells #[.int .i64 s0.1, .int .i64 s0.2.1, .int .i64 s0.2.2] 53)) := ⟨_, rfl⟩
  rw [← hw] at HB A0 A2 K_p0 ⊢
  clear hw
  -- ('big', 2)
  -- ('call', 'spec', 'ReceiveFromMailbox', [('copy', 0, 'Mailbox'), ('arg', 1), ('copy', 2, '[]byte')], ['w0', 'w1', 'w2'])
  refine (toMailbox_any A0.out HB.out.size (show (0 : Nat) ≤ 1073741824 by decide)).mono ?_
  rintro e w2_ ⟨c_t1, he, hO_t1, hb⟩
  subst he
  have hF_t1 : ∀ b, (ival w1_.heap.size w2_.heap.size) b → w1_.heap.size ≤ b ∧ b < w2_.heap.size := fun b h => h
  obtain ⟨rfl, _⟩ := own_Mailbox hO_t1
  have D_t1 : Hid (∀ b, (ival w1_.heap.size w2_.heap.size) b → w.heap.size ≤ b) := Lib.hid (fun b h => Nat.le_trans HB.out.size (hF_t1 b h).1)
  replace A0 := Lib.hid (tyMailbox.behind A0.out (hb.mono HB.out.size))
  replace A2 := Lib.hid ((sliceT 5 u8T).behind A2.out (hb.mono HB.out.size))
  replace K_p0 := Lib.hid ((hb.block _ (lt_of_block K_p0.out)).trans K_p0.out)
  replace HB := Lib.hid (HB.out.trans (hb.mono HB.out.size))
  clear hb
  have O_t1 := Lib.hid hO_t1
  have E_t1 : Hid (∀ b, (ival w1_.heap.size w2_.heap.size) b → b < w2_.heap.size) := Lib.hid (fun b h => (hF_t1 b h).2)
  clear hO_t1 hF_t1
  have k_p0_0 := blk_cell K_p0.out 0
  rw [cell3_0] at k_p0_0
  have k_p0_1 := blk_cell K_p0.out 1
  rw [cell3_1] at k_p0_1
  have k_p0_2 := blk_cell K_p0.out 2
  rw [cell3_2] at k_p0_2
  go_wp2_with fail
  clear k_p0_0 k_p0_1 k_p0_2
  refine (toByteS_t A2.out HB.out.size (Nat.le_trans B2t.out (by decide))).mono ?_
  rintro e w3_ ⟨v_t2, he, hO_t2, hb⟩
  subst he
  have hF_t2 : ∀ b, (ival w2_.heap.size w3_.heap.size) b → w2_.heap.size ≤ b ∧ b < w3_.heap.size := fun b h => h
  have D_t2 : Hid (∀ b, (ival w2_.heap.size w3_.heap.size) b → w.heap.size ≤ b) := Lib.hid (fun b h => Nat.le_trans HB.out.size (hF_t2 b h).1)
  replace A0 := Lib.hid (tyMailbox.behind A0.out (hb.mono HB.out.size))
  replace A2 := Lib.hid ((sliceT 5 u8T).behind A2.out (hb.mono HB.out.size))
  replace O_t1 := Lib.hid (tyMailbox.onext O_t1.out hb)
  replace E_t1 : Hid (∀ b, (ival w1_.heap.size w2_.heap.size) b → b < w3_.heap.size) := Lib.hid (fun b h => Nat.lt_of_lt_of_le (E_t1.out b h) hb.size)
  replace K_p0 := Lib.hid ((hb.block _ (lt_of_block K_p0.out)).trans K_p0.out)
  replace HB := Lib.hid (HB.out.trans (hb.mono HB.out.size))
  clear hb
  have O_t2 := Lib.hid hO_t2
  have E_t2 : Hid (∀ b, (ival w2_.heap.size w3_.heap.size) b → b < w3_.heap.size) := Lib.hid (fun b h => (hF_t2 b h).2)
  clear hO_t2 hF_t2
  have k_p0_0 := blk_cell K_p0.out 0
  rw [cell3_0] at k_p0_0
  have k_p0_1 := blk_cell K_p0.out 1
  rw [cell3_1] at k_p0_1
  have k_p0_2 := blk_cell K_p0.out 2
  rw [cell3_2] at k_p0_2
  go_wp2_with fail
  clear k_p0_0 k_p0_1 k_p0_2
  refine (spec_rv_t (tyMailbox.ord O_t1.out) (Nat.le_refl _) ((sliceT 5 u8T).ord O_t2.out) (Nat.le_refl _) W1.out).mono ?_
  obtain ⟨Y0, hY0⟩ : ∃ y : VMailbox, y = (s0.1, s0.2.1, rvR s0.1 s0.2.1 s0.2.2 a1 s2) := ⟨_, rfl⟩
  obtain ⟨Y1, hY1⟩ : ∃ y : List Int, y = rvL s0.1 s0.2.1 s0.2.2 a1 s2 := ⟨_, rfl⟩
  obtain ⟨Y2, hY2⟩ : ∃ y : Bool, y = rvok s0.1 s0.2.1 s0.2.2 a1 s2 := ⟨_, rfl⟩
  rintro e w4_ ⟨c_w0, v_w1, F_w0, F_w1, he, hO_w0, hO_w1, hF_w0, hF_w1, hX_w0_w1, hb⟩
  replace hO_w0 : tyMailbox.own F_w0 w4_ c_w0 ((s0.1, s0.2.1, rvR s0.1 s0.2.1 s0.2.2 a1 s2)) := hO_w0
  replace hO_w1 : (sliceT 5 u8T).own F_w1 w4_ [v_w1] (rvL s0.1 s0.2.1 s0.2.2 a1 s2) := hO_w1
  rw [← hY0] at hO_w0
  rw [← hY1] at hO_w1
  rw [← hY2] at he
  have HY0 := Lib.hid hY0
  clear hY0
  have HY1 := Lib.hid hY1
  clear hY1
  have HY2 := Lib.hid hY2
  clear hY2
  subst he
  obtain ⟨rfl, _⟩ := own_Mailbox hO_w0
  clear hX_w0_w1
  have D_w0 : Hid (∀ b, F_w0 b → w.heap.size ≤ b) := Lib.hid (fun b h => Nat.le_trans HB.out.size (hF_w0 b h).1)
  have D_w1 : Hid (∀ b, F_w1 b → w.heap.size ≤ b) := Lib.hid (fun b h => Nat.le_trans HB.out.size (hF_w1 b h).1)
  replace A0 := Lib.hid (tyMailbox.behind A0.out (hb.mono HB.out.size))
  replace A2 := Lib.hid ((sliceT 5 u8T).behind A2.out (hb.mono HB.out.size))
  replace O_t1 := Lib.hid (tyMailbox.onext O_t1.out hb)
  replace E_t1 : Hid (∀ b, (ival w1_.heap.size w2_.heap.size) b → b < w4_.heap.size) := Lib.hid (fun b h => Nat.lt_of_lt_of_le (E_t1.out b h) hb.size)
  replace O_t2 := Lib.hid ((sliceT 5 u8T).onext O_t2.out hb)
  replace E_t2 : Hid (∀ b, (ival w2_.heap.size w3_.heap.size) b → b < w4_.heap.size) := Lib.hid (fun b h => Nat.lt_of_lt_of_le (E_t2.out b h) hb.size)
  replace K_p0 := Lib.hid ((hb.block _ (lt_of_block K_p0.out)).trans K_p0.out)
  replace HB := Lib.hid (HB.out.trans (hb.mono HB.out.size))
  clear hb
  have O_w0 := Lib.hid hO_w0
  have E_w0 : Hid (∀ b, F_w0 b → b < w4_.heap.size) := Lib.hid (fun b h => (hF_w0 b h).2)
  clear hO_w0 hF_w0
  have O_w1 := Lib.hid hO_w1
  have E_w1 : Hid (∀ b, F_w1 b → b < w4_.heap.size) := Lib.hid (fun b h => (hF_w1 b h).2)
  clear hO_w1 hF_w1
  have hb : Below w4_.heap.size w4_ (w4_.alloc (.cells #[.int .i64 Y0.1, .int .i64 Y0.2.1, .int .i64 Y0.2.2] 44)) := (Below.refl _ _).alloc (Nat.le_refl _) _
  replace A0 := Lib.hid (tyMailbox.behind A0.out (hb.mono HB.out.size))
  replace A2 := Lib.hid ((sliceT 5 u8T).behind A2.out (hb.mono HB.out.size))
  replace O_t1 := Lib.hid (tyMailbox.onext O_t1.out hb)
  replace E_t1 : Hid (∀ b, (ival w1_.heap.size w2_.heap.size) b → b < (w4_.alloc (.cells #[.int .i64 Y0.1, .int .i64 Y0.2.1, .int .i64 Y0.2.2] 44)).heap.size) := Lib.hid (fun b h => Nat.lt_of_lt_of_le (E_t1.out b h) hb.size)
  replace O_t2 := Lib.hid ((sliceT 5 u8T).onext O_t2.out hb)
  replace E_t2 : Hid (∀ b, (ival w2_.heap.size w3_.heap.size) b → b < (w4_.alloc (.cells #[.int .i64 Y0.1, .int .i64 Y0.2.1, .int .i64 Y0.2.2] 44)).heap.size) := Lib.hid (fun b h => Nat.lt_of_lt_of_le (E_t2.out b h) hb.size)
  replace O_w0 := Lib.hid (tyMailbox.onext O_w0.out hb)
  replace E_w0 : Hid (∀ b, F_w0 b → b < (w4_.alloc (.cells #[.int .i64 Y0.1, .int .i64 Y0.2.1, .int .i64 Y0.2.2] 44)).heap.size) := Lib.hid (fun b h => Nat.lt_of_lt_of_le (E_w0.out b h) hb.size)
  replace O_w1 := Lib.hid ((sliceT 5 u8T).onext O_w1.out hb)
  replace E_w1 : Hid (∀ b, F_w1 b → b < (w4_.alloc (.cells #[.int .i64 Y0.1, .int .i64 Y0.2.1, .int .i64 Y0.2.2] 44)).heap.size) := Lib.hid (fun b h => Nat.lt_of_lt_of_le (E_w1.out b h) hb.size)
  replace K_p0 := Lib.hid ((hb.block _ (lt_of_block K_p0.out)).trans K_p0.out)
  replace HB := Lib.hid (HB.out.trans (hb.mono HB.out.size))
  clear hb
  have K_w0 := Lib.hid (heap_alloc_new w4_ (.cells #[.int .i64 Y0.1, .int .i64 Y0.2.1, .int .i64 Y0.2.2] 44))
  have k_p0_0 := blk_cell K_p0.out 0
  rw [cell3_0] at k_p0_0
  have k_p0_1 := blk_cell K_p0.out 1
  rw [cell3_1] at k_p0_1
  have k_p0_2 := blk_cell K_p0.out 2
  rw [cell3_2] at k_p0_2
  have k_w0_0 := blk_cell K_w0.out 0
  rw [cell3_0] at k_w0_0
  have k_w0_1 := blk_cell K_w0.out 1
  rw [cell3_1] at k_w0_1
  have k_w0_2 := blk_cell K_w0.out 2
  rw [cell3_2] at k_w0_2
  go_wp2_with fail
  clear k_p0_0 k_p0_1 k_p0_2 k_w0_0 k_w0_1 k_w0_2
  obtain ⟨w5_, hw⟩ : ∃ x, x = (w4_.alloc (.cells #[.int .i64 Y0.1, .int .i64 Y0.2.1, .int .i64 Y0.2.2] 44)) := ⟨_, rfl⟩
  rw [← hw] at HB A0 A2 O_t1 E_t1 O_t2 E_t2 O_w0 E_w0 O_w1 E_w1 K_p0 K_w0 ⊢
  clear hw
  clear O_t1 E_t1 D_t1
  clear O_t2 E_t2 D_t2
  -- ('copy', 'x2', 2, '[]byte')
  refine (toByteS_t A2.out HB.out.size (Nat.le_trans B2t.out (by decide))).mono ?_
  rintro e w6_ ⟨v_x2, he, hO_x2, hb⟩
  subst he
  have hF_x2 : ∀ b, (ival w5_.heap.size w6_.heap.size) b → w5_.heap.size ≤ b ∧ b < w6_.heap.size := fun b h => h
  have X_w0_x2 : Hid (∀ b, F_w0 b → ¬ (ival w5_.heap.size w6_.heap.size) b) := Lib.hid (fun b h1 h2 => by have := E_w0.out b h1; have := (hF_x2 b h2).1; omega)
  have X_w1_x2 : Hid (∀ b, F_w1 b → ¬ (ival w5_.heap.size w6_.heap.size) b) := Lib.hid (fun b h1 h2 => by have := E_w1.out b h1; have := (hF_x2 b h2).1; omega)
  have N_p0_x2 : Hid (¬ (ival w5_.heap.size w6_.heap.size) (w.heap.size)) := Lib.hid (fun h => by have := (hF_x2 _ h).1; have := lt_of_block K_p0.out; omega)
  have N_w0_x2 : Hid (¬ (ival w5_.heap.size w6_.heap.size) (w4_.heap.size)) := Lib.hid (fun h => by have := (hF_x2 _ h).1; have := lt_of_block K_w0.out; omega)
  have D_x2 : Hid (∀ b, (ival w5_.heap.size w6_.heap.size) b → w.heap.size ≤ b) := Lib.hid (fun b h => Nat.le_trans HB.out.size (hF_x2 b h).1)
  replace A0 := Lib.hid (tyMailbox.behind A0.out (hb.mono HB.out.size))
  replace A2 := Lib.hid ((sliceT 5 u8T).behind A2.out (hb.mono HB.out.size))
  replace O_w0 := Lib.hid (tyMailbox.onext O_w0.out hb)
  replace E_w0 : Hid (∀ b, F_w0 b → b < w6_.heap.size) := Lib.hid (fun b h => Nat.lt_of_lt_of_le (E_w0.out b h) hb.size)
  replace O_w1 := Lib.hid ((sliceT 5 u8T).onext O_w1.out hb)
  replace E_w1 : Hid (∀ b, F_w1 b → b < w6_.heap.size) := Lib.hid (fun b h => Nat.lt_of_lt_of_le (E_w1.out b h) hb.size)
  replace K_p0 := Lib.hid ((hb.block _ (lt_of_block K_p0.out)).trans K_p0.out)
  replace K_w0 := Lib.hid ((hb.block _ (lt_of_block K_w0.out)).trans K_w0.out)
  replace HB := Lib.hid (HB.out.trans (hb.mono HB.out.size))
  clear hb
  have O_x2 := Lib.hid hO_x2
  have E_x2 : Hid (∀ b, (ival w5_.heap.size w6_.heap.size) b → b < w6_.heap.size) := Lib.hid (fun b h => (hF_x2 b h).2)
  clear hO_x2 hF_x2
  -- ('call', 'impl', 'ReceiveFromMailbox', [('copy', 0, 'Mailbox'), ('arg', 1), ('own', 'x2')], ['g0', 'g1', 'g2'])
  have k_p0_0 := blk_cell K_p0.out 0
  rw [cell3_0] at k_p0_0
  have k_p0_1 := blk_cell K_p0.out 1
  rw [cell3_1] at k_p0_1
  have k_p0_2 := blk_cell K_p0.out 2
  rw [cell3_2] at k_p0_2
  have k_w0_0 := blk_cell K_w0.out 0
  rw [cell3_0] at k_w0_0
  have k_w0_1 := blk_cell K_w0.out 1
  rw [cell3_1] at k_w0_1
  have k_w0_2 := blk_cell K_w0.out 2
  rw [cell3_2] at k_w0_2
  go_wp2_with fail
  clear k_p0_0 k_p0_1 k_p0_2 k_w0_0 k_w0_1 k_w0_2
  refine (toMailbox_any A0.out HB.out.size (show (0 : Nat) ≤ 1073741824 by decide)).mono ?_
  rintro e w7_ ⟨c_t3, he, hO_t3, hb⟩
  subst he
  have hF_t3 : ∀ b, (ival w6_.heap.size w7_.heap.size) b → w6_.heap.size ≤ b ∧ b < w7_.heap.size := fun b h => h
  obtain ⟨rfl, _⟩ := own_Mailbox hO_t3
  have X_x2_t3 : Hid (∀ b, (ival w5_.heap.size w6_.heap.size) b → ¬ (ival w6_.heap.size w7_.heap.size) b) := Lib.hid (fun b h1 h2 => by have := E_x2.out b h1; have := (hF_t3 b h2).1; omega)
  have D_t3 : Hid (∀ b, (ival w6_.heap.size w7_.heap.size) b → w.heap.size ≤ b) := Lib.hid (fun b h => Nat.le_trans HB.out.size (hF_t3 b h).1)
  replace A0 := Lib.hid (tyMailbox.behind A0.out (hb.mono HB.out.size))
  replace A2 := Lib.hid ((sliceT 5 u8T).behind A2.out (hb.mono HB.out.size))
  replace O_w0 := Lib.hid (tyMailbox.onext O_w0.out hb)
  replace E_w0 : Hid (∀ b, F_w0 b → b < w7_.heap.size) := Lib.hid (fun b h => Nat.lt_of_lt_of_le (E_w0.out b h) hb.size)
  replace O_w1 := Lib.hid ((sliceT 5 u8T).onext O_w1.out hb)
  replace E_w1 : Hid (∀ b, F_w1 b → b < w7_.heap.size) := Lib.hid (fun b h => Nat.lt_of_lt_of_le (E_w1.out b h) hb.size)
  replace O_x2 := Lib.hid ((sliceT 5 u8T).onext O_x2.out hb)
  replace E_x2 : Hid (∀ b, (ival w5_.heap.size w6_.heap.size) b → b < w7_.heap.size) := Lib.hid (fun b h => Nat.lt_of_lt_of_le (E_x2.out b h) hb.size)
  replace K_p0 := Lib.hid ((hb.block _ (lt_of_block K_p0.out)).trans K_p0.out)
  replace K_w0 := Lib.hid ((hb.block _ (lt_of_block K_w0.out)).trans K_w0.out)
  replace HB := Lib.hid (HB.out.trans (hb.mono HB.out.size))
  clear hb
  have O_t3 := Lib.hid hO_t3
  have E_t3 : Hid (∀ b, (ival w6_.heap.size w7_.heap.size) b → b < w7_.heap.size) := Lib.hid (fun b h => (hF_t3 b h).2)
  clear hO_t3 hF_t3
  have k_p0_0 := blk_cell K_p0.out 0
  rw [cell3_0] at k_p0_0
  have k_p0_1 := blk_cell K_p0.out 1
  rw [cell3_1] at k_p0_1
  have k_p0_2 := blk_cell K_p0.out 2
  rw [cell3_2] at k_p0_2
  have k_w0_0 := blk_cell K_w0.out 0
  rw [cell3_0] at k_w0_0
  have k_w0_1 := blk_cell K_w0.out 1
  rw [cell3_1] at k_w0_1
  have k_w0_2 := blk_cell K_w0.out 2
  rw [cell3_2] at k_w0_2
  go_wp2_with fail
  clear k_p0_0 k_p0_1 k_p0_2 k_w0_0 k_w0_1 k_w0_2
  refine (impl_rv_t (tyMailbox.ord O_t3.out) (Nat.le_refl _) ((sliceT 5 u8T).ord O_x2.out) (Nat.le_refl _) W1.out (HL.out.next HB.out)).mono ?_
  rintro e w8_ ⟨c_g0, v_g1, F_g0, F_g1, he, hO_g0, hO_g1, hF_g0, hF_g1, hX_g0_g1, hb⟩
  replace hO_g0 : tyMailbox.own F_g0 w8_ c_g0 ((s0.1, s0.2.1, rvR s0.1 s0.2.1 s0.2.2 a1 s2)) := hO_g0
  replace hO_g1 : (sliceT 5 u8T).own F_g1 w8_ [v_g1] (rvL s0.1 s0.2.1 s0.2.2 a1 s2) := hO_g1
  rw [← HY0.out] at hO_g0
  rw [← HY1.out] at hO_g1
  rw [← HY2.out] at he
  subst he
  obtain ⟨rfl, _⟩ := own_Mailbox hO_g0
  have X_x2_g0 : Hid (∀ b, (ival w5_.heap.size w6_.heap.size) b → ¬ F_g0 b) := Lib.hid (fun b h1 h2 => by have := E_x2.out b h1; have := (hF_g0 b h2).1; omega)
  have X_w0_g1 : Hid (∀ b, F_w0 b → ¬ F_g1 b) := Lib.hid (fun b h1 h2 => by have := E_w0.out b h1; have := (hF_g1 b h2).1; omega)
  have X_w1_g1 : Hid (∀ b, F_w1 b → ¬ F_g1 b) := Lib.hid (fun b h1 h2 => by have := E_w1.out b h1; have := (hF_g1 b h2).1; omega)
  have X_x2_g1 : Hid (∀ b, (ival w5_.heap.size w6_.heap.size) b → ¬ F_g1 b) := Lib.hid (fun b h1 h2 => by have := E_x2.out b h1; have := (hF_g1 b h2).1; omega)
  have X_t3_g1 : Hid (∀ b, (ival w6_.heap.size w7_.heap.size) b → ¬ F_g1 b) := Lib.hid (fun b h1 h2 => by have := E_t3.out b h1; have := (hF_g1 b h2).1; omega)
  have N_p0_g1 : Hid (¬ F_g1 (w.heap.size)) := Lib.hid (fun h => by have := (hF_g1 _ h).1; have := lt_of_block K_p0.out; omega)
  have N_w0_g1 : Hid (¬ F_g1 (w4_.heap.size)) := Lib.hid (fun h => by have := (hF_g1 _ h).1; have := lt_of_block K_w0.out; omega)
  have X_g0_g1 := Lib.hid hX_g0_g1
  clear hX_g0_g1
  have D_g0 : Hid (∀ b, F_g0 b → w.heap.size ≤ b) := Lib.hid (fun b h => Nat.le_trans HB.out.size (hF_g0 b h).1)
  have D_g1 : Hid (∀ b, F_g1 b → w.heap.size ≤ b) := Lib.hid (fun b h => Nat.le_trans HB.out.size (hF_g1 b h).1)
  replace A0 := Lib.hid (tyMailbox.behind A0.out (hb.mono HB.out.size))
  replace A2 := Lib.hid ((sliceT 5 u8T).behind A2.out (hb.mono HB.out.size))
  replace O_w0 := Lib.hid (tyMailbox.onext O_w0.out hb)
  replace E_w0 : Hid (∀ b, F_w0 b → b < w8_.heap.size) := Lib.hid (fun b h => Nat.lt_of_lt_of_le (E_w0.out b h) hb.size)
  replace O_w1 := Lib.hid ((sliceT 5 u8T).onext O_w1.out hb)
  replace E_w1 : Hid (∀ b, F_w1 b → b < w8_.heap.size) := Lib.hid (fun b h => Nat.lt_of_lt_of_le (E_w1.out b h) hb.size)
  replace O_x2 := Lib.hid ((sliceT 5 u8T).onext O_x2.out hb)
  replace E_x2 : Hid (∀ b, (ival w5_.heap.size w6_.heap.size) b → b < w8_.heap.size) := Lib.hid (fun b h => Nat.lt_of_lt_of_le (E_x2.out b h) hb.size)
  replace O_t3 := Lib.hid (tyMailbox.onext O_t3.out hb)
  replace E_t3 : Hid (∀ b, (ival w6_.heap.size w7_.heap.size) b → b < w8_.heap.size) := Lib.hid (fun b h => Nat.lt_of_lt_of_le (E_t3.out b h) hb.size)
  replace K_p0 := Lib.hid ((hb.block _ (lt_of_block K_p0.out)).trans K_p0.out)
  replace K_w0 := Lib.hid ((hb.block _ (lt_of_block K_w0.out)).trans K_w0.out)
  replace HB := Lib.hid (HB.out.trans (hb.mono HB.out.size))
  clear hb
  have O_g0 := Lib.hid hO_g0
  have E_g0 : Hid (∀ b, F_g0 b → b < w8_.heap.size) := Lib.hid (fun b h => (hF_g0 b h).2)
  clear hO_g0 hF_g0
  have O_g1 := Lib.hid hO_g1
  have E_g1 : Hid (∀ b, F_g1 b → b < w8_.heap.size) := Lib.hid (fun b h => (hF_g1 b h).2)
  clear hO_g1 hF_g1
  have N_g0_x2 : Hid (¬ (ival w5_.heap.size w6_.heap.size) (w8_.heap.size)) := Lib.hid (fun h => by have := E_x2.out _ h; omega)
  have N_g0_g1 : Hid (¬ F_g1 (w8_.heap.size)) := Lib.hid (fun h => by have := E_g1.out _ h; omega)
  have hb : Below w8_.heap.size w8_ (w8_.alloc (.cells #[.int .i64 Y0.1, .int .i64 Y0.2.1, .int .i64 Y0.2.2] 44)) := (Below.refl _ _).alloc (Nat.le_refl _) _
  replace A0 := Lib.hid (tyMailbox.behind A0.out (hb.mono HB.out.size))
  replace A2 := Lib.hid ((sliceT 5 u8T).behind A2.out (hb.mono HB.out.size))
  replace O_w0 := Lib.hid (tyMailbox.onext O_w0.out hb)
  replace E_w0 : Hid (∀ b, F_w0 b → b < (w8_.alloc (.cells #[.int .i64 Y0.1, .int .i64 Y0.2.1, .int .i64 Y0.2.2] 44)).heap.size) := Lib.hid (fun b h => Nat.lt_of_lt_of_le (E_w0.out b h) hb.size)
  replace O_w1 := Lib.hid ((sliceT 5 u8T).onext O_w1.out hb)
  replace E_w1 : Hid (∀ b, F_w1 b → b < (w8_.alloc (.cells #[.int .i64 Y0.1, .int .i64 Y0.2.1, .int .i64 Y0.2.2] 44)).heap.size) := Lib.hid (fun b h => Nat.lt_of_lt_of_le (E_w1.out b h) hb.size)
  replace O_x2 := Lib.hid ((sliceT 5 u8T).onext O_x2.out hb)
  replace E_x2 : Hid (∀ b, (ival w5_.heap.size w6_.heap.size) b → b < (w8_.alloc (.cells #[.int .i64 Y0.1, .int .i64 Y0.2.1, .int .i64 Y0.2.2] 44)).heap.size) := Lib.hid (fun b h => Nat.lt_of_lt_of_le (E_x2.out b h) hb.size)
  replace O_t3 := Lib.hid (tyMailbox.onext O_t3.out hb)
  replace E_t3 : Hid (∀ b, (ival w6_.heap.size w7_.heap.size) b → b < (w8_.alloc (.cells #[.int .i64 Y0.1, .int .i64 Y0.2.1, .int .i64 Y0.2.2] 44)).heap.size) := Lib.hid (fun b h => Nat.lt_of_lt_of_le (E_t3.out b h) hb.size)
  replace O_g0 := Lib.hid (tyMailbox.onext O_g0.out hb)
  replace E_g0 : Hid (∀ b, F_g0 b → b < (w8_.alloc (.cells #[.int .i64 Y0.1, .int .i64 Y0.2.1, .int .i64 Y0.2.2] 44)).heap.size) := Lib.hid (fun b h => Nat.lt_of_lt_of_le (E_g0.out b h) hb.size)
  replace O_g1 := Lib.hid ((sliceT 5 u8T).onext O_g1.out hb)
  replace E_g1 : Hid (∀ b, F_g1 b → b < (w8_.alloc (.cells #[.int .i64 Y0.1, .int .i64 Y0.2.1, .int .i64 Y0.2.2] 44)).heap.size) := Lib.hid (fun b h => Nat.lt_of_lt_of_le (E_g1.out b h) hb.size)
  replace K_p0 := Lib.hid ((hb.block _ (lt_of_block K_p0.out)).trans K_p0.out)
  replace K_w0 := Lib.hid ((hb.block _ (lt_of_block K_w0.out)).trans K_w0.out)
  replace HB := Lib.hid (HB.out.trans (hb.mono HB.out.size))
  clear hb
  have K_g0 := Lib.hid (heap_alloc_new w8_ (.cells #[.int .i64 Y0.1, .int .i64 Y0.2.1, .int .i64 Y0.2.2] 44))
  have k_p0_0 := blk_cell K_p0.out 0
  rw [cell3_0] at k_p0_0
  have k_p0_1 := blk_cell K_p0.out 1
  rw [cell3_1] at k_p0_1
  have k_p0_2 := blk_cell K_p0.out 2
  rw [cell3_2] at k_p0_2
  have k_w0_0 := blk_cell K_w0.out 0
  rw [cell3_0] at k_w0_0
  have k_w0_1 := blk_cell K_w0.out 1
  rw [cell3_1] at k_w0_1
  have k_w0_2 := blk_cell K_w0.out 2
  rw [cell3_2] at k_w0_2
  have k_g0_0 := blk_cell K_g0.out 0
  rw [cell3_0] at k_g0_0
  have k_g0_1 := blk_cell K_g0.out 1
  rw [cell3_1] at k_g0_1
  have k_g0_2 := blk_cell K_g0.out 2
  rw [cell3_2] at k_g0_2
  go_wp2_with fail
  clear k_p0_0 k_p0_1 k_p0_2 k_w0_0 k_w0_1 k_w0_2 k_g0_0 k_g0_1 k_g0_2
  obtain ⟨w9_, hw⟩ : ∃ x, x = (w8_.alloc (.cells #[.int .i64 Y0.1, .int .i64 Y0.2.1, .int .i64 Y0.2.2] 44)) := ⟨_, rfl⟩
  rw [← hw] at HB A0 A2 O_w0 E_w0 O_w1 E_w1 O_x2 E_x2 O_t3 E_t3 O_g0 E_g0 O_g1 E_g1 K_p0 K_w0 K_g0 ⊢
  clear hw
  clear O_t3 E_t3 D_t3
  clear X_x2_t3
  clear X_t3_g1
  -- ('eq', 'Mailbox', ('own', 'g0'), ('own', 'w0'))
  refine (eqMailbox_same (tyMailbox.ord O_g0.out) (tyMailbox.ord O_w0.out) (Nat.le_refl _) (Nat.le_refl _)).mono ?_
  rintro e w10_ ⟨he, hb⟩
  subst he
  replace A0 := Lib.hid (tyMailbox.behind A0.out (hb.mono HB.out.size))
  replace A2 := Lib.hid ((sliceT 5 u8T).behind A2.out (hb.mono HB.out.size))
  replace O_w0 := Lib.hid (tyMailbox.onext O_w0.out hb)
  replace E_w0 : Hid (∀ b, F_w0 b → b < w10_.heap.size) := Lib.hid (fun b h => Nat.lt_of_lt_of_le (E_w0.out b h) hb.size)
  replace O_w1 := Lib.hid ((sliceT 5 u8T).onext O_w1.out hb)
  replace E_w1 : Hid (∀ b, F_w1 b → b < w10_.heap.size) := Lib.hid (fun b h => Nat.lt_of_lt_of_le (E_w1.out b h) hb.size)
  replace O_x2 := Lib.hid ((sliceT 5 u8T).onext O_x2.out hb)
  replace E_x2 : Hid (∀ b, (ival w5_.heap.size w6_.heap.size) b → b < w10_.heap.size) := Lib.hid (fun b h => Nat.lt_of_lt_of_le (E_x2.out b h) hb.size)
  replace O_g0 := Lib.hid (tyMailbox.onext O_g0.out hb)
  replace E_g0 : Hid (∀ b, F_g0 b → b < w10_.heap.size) := Lib.hid (fun b h => Nat.lt_of_lt_of_le (E_g0.out b h) hb.size)
  replace O_g1 := Lib.hid ((sliceT 5 u8T).onext O_g1.out hb)
  replace E_g1 : Hid (∀ b, F_g1 b → b < w10_.heap.size) := Lib.hid (fun b h => Nat.lt_of_lt_of_le (E_g1.out b h) hb.size)
  replace K_p0 := Lib.hid ((hb.block _ (lt_of_block K_p0.out)).trans K_p0.out)
  replace K_w0 := Lib.hid ((hb.block _ (lt_of_block K_w0.out)).trans K_w0.out)
  replace K_g0 := Lib.hid ((hb.block _ (lt_of_block K_g0.out)).trans K_g0.out)
  replace HB := Lib.hid (HB.out.trans (hb.mono HB.out.size))
  clear hb
  -- ('eq', '[]byte', ('own', 'g1'), ('own', 'w1'))
  have k_p0_0 := blk_cell K_p0.out 0
  rw [cell3_0] at k_p0_0
  have k_p0_1 := blk_cell K_p0.out 1
  rw [cell3_1] at k_p0_1
  have k_p0_2 := blk_cell K_p0.out 2
  rw [cell3_2] at k_p0_2
  have k_w0_0 := blk_cell K_w0.out 0
  rw [cell3_0] at k_w0_0
  have k_w0_1 := blk_cell K_w0.out 1
  rw [cell3_1] at k_w0_1
  have k_w0_2 := blk_cell K_w0.out 2
  rw [cell3_2] at k_w0_2
  have k_g0_0 := blk_cell K_g0.out 0
  rw [cell3_0] at k_g0_0
  have k_g0_1 := blk_cell K_g0.out 1
  rw [cell3_1] at k_g0_1
  have k_g0_2 := blk_cell K_g0.out 2
  rw [cell3_2] at k_g0_2
  go_wp2_with fail
  clear k_p0_0 k_p0_1 k_p0_2 k_w0_0 k_w0_1 k_w0_2 k_g0_0 k_g0_1 k_g0_2
  refine (eqByteS_same_t ((sliceT 5 u8T).ord O_g1.out) ((sliceT 5 u8T).ord O_w1.out) (Nat.le_refl _) (Nat.le_refl _)).mono ?_
  rintro e w11_ ⟨he, hb⟩
  subst he
  replace A0 := Lib.hid (tyMailbox.behind A0.out (hb.mono HB.out.size))
  replace A2 := Lib.hid ((sliceT 5 u8T).behind A2.out (hb.mono HB.out.size))
  replace O_w0 := Lib.hid (tyMailbox.onext O_w0.out hb)
  replace E_w0 : Hid (∀ b, F_w0 b → b < w11_.heap.size) := Lib.hid (fun b h => Nat.lt_of_lt_of_le (E_w0.out b h) hb.size)
  replace O_w1 := Lib.hid ((sliceT 5 u8T).onext O_w1.out hb)
  replace E_w1 : Hid (∀ b, F_w1 b → b < w11_.heap.size) := Lib.hid (fun b h => Nat.lt_of_lt_of_le (E_w1.out b h) hb.size)
  replace O_x2 := Lib.hid ((sliceT 5 u8T).onext O_x2.out hb)
  replace E_x2 : Hid (∀ b, (ival w5_.heap.size w6_.heap.size) b → b < w11_.heap.size) := Lib.hid (fun b h => Nat.lt_of_lt_of_le (E_x2.out b h) hb.size)
  replace O_g0 := Lib.hid (tyMailbox.onext O_g0.out hb)
  replace E_g0 : Hid (∀ b, F_g0 b → b < w11_.heap.size) := Lib.hid (fun b h => Nat.lt_of_lt_of_le (E_g0.out b h) hb.size)
  replace O_g1 := Lib.hid ((sliceT 5 u8T).onext O_g1.out hb)
  replace E_g1 : Hid (∀ b, F_g1 b → b < w11_.heap.size) := Lib.hid (fun b h => Nat.lt_of_lt_of_le (E_g1.out b h) hb.size)
  replace K_p0 := Lib.hid ((hb.block _ (lt_of_block K_p0.out)).trans K_p0.out)
  replace K_w0 := Lib.hid ((hb.block _ (lt_of_block K_w0.out)).trans K_w0.out)
  replace K_g0 := Lib.hid ((hb.block _ (lt_of_block K_g0.out)).trans K_g0.out)
  replace HB := Lib.hid (HB.out.trans (hb.mono HB.out.size))
  clear hb
  -- ('eq', '[]byte', ('own', 'x2'), ('copy', 2, '[]byte'))
  have k_p0_0 := blk_cell K_p0.out 0
  rw [cell3_0] at k_p0_0
  have k_p0_1 := blk_cell K_p0.out 1
  rw [cell3_1] at k_p0_1
  have k_p0_2 := blk_cell K_p0.out 2
  rw [cell3_2] at k_p0_2
  have k_w0_0 := blk_cell K_w0.out 0
  rw [cell3_0] at k_w0_0
  have k_w0_1 := blk_cell K_w0.out 1
  rw [cell3_1] at k_w0_1
  have k_w0_2 := blk_cell K_w0.out 2
  rw [cell3_2] at k_w0_2
  have k_g0_0 := blk_cell K_g0.out 0
  rw [cell3_0] at k_g0_0
  have k_g0_1 := blk_cell K_g0.out 1
  rw [cell3_1] at k_g0_1
  have k_g0_2 := blk_cell K_g0.out 2
  rw [cell3_2] at k_g0_2
  go_wp2_with fail
  clear k_p0_0 k_p0_1 k_p0_2 k_w0_0 k_w0_1 k_w0_2 k_g0_0 k_g0_1 k_g0_2
  refine (toByteS_t A2.out HB.out.size (Nat.le_trans B2t.out (by decide))).mono ?_
  rintro e w12_ ⟨v_t4, he, hO_t4, hb⟩
  subst he
  have hF_t4 : ∀ b, (ival w11_.heap.size w12_.heap.size) b → w11_.heap.size ≤ b ∧ b < w12_.heap.size := fun b h => h
  have X_x2_t4 : Hid (∀ b, (ival w5_.heap.size w6_.heap.size) b → ¬ (ival w11_.heap.size w12_.heap.size) b) := Lib.hid (fun b h1 h2 => by have := E_x2.out b h1; have := (hF_t4 b h2).1; omega)
  have X_g1_t4 : Hid (∀ b, F_g1 b → ¬ (ival w11_.heap.size w12_.heap.size) b) := Lib.hid (fun b h1 h2 => by have := E_g1.out b h1; have := (hF_t4 b h2).1; omega)
  have D_t4 : Hid (∀ b, (ival w11_.heap.size w12_.heap.size) b → w.heap.size ≤ b) := Lib.hid (fun b h => Nat.le_trans HB.out.size (hF_t4 b h).1)
  replace A0 := Lib.hid (tyMailbox.behind A0.out (hb.mono HB.out.size))
  replace A2 := Lib.hid ((sliceT 5 u8T).behind A2.out (hb.mono HB.out.size))
  replace O_w0 := Lib.hid (tyMailbox.onext O_w0.out hb)
  replace E_w0 : Hid (∀ b, F_w0 b → b < w12_.heap.size) := Lib.hid (fun b h => Nat.lt_of_lt_of_le (E_w0.out b h) hb.size)
  replace O_w1 := Lib.hid ((sliceT 5 u8T).onext O_w1.out hb)
  replace E_w1 : Hid (∀ b, F_w1 b → b < w12_.heap.size) := Lib.hid (fun b h => Nat.lt_of_lt_of_le (E_w1.out b h) hb.size)
  replace O_x2 := Lib.hid ((sliceT 5 u8T).onext O_x2.out hb)
  replace E_x2 : Hid (∀ b, (ival w5_.heap.size w6_.heap.size) b → b < w12_.heap.size) := Lib.hid (fun b h => Nat.lt_of_lt_of_le (E_x2.out b h) hb.size)
  replace O_g0 := Lib.hid (tyMailbox.onext O_g0.out hb)
  replace E_g0 : Hid (∀ b, F_g0 b → b < w12_.heap.size) := Lib.hid (fun b h => Nat.lt_of_lt_of_le (E_g0.out b h) hb.size)
  replace O_g1 := Lib.hid ((sliceT 5 u8T).onext O_g1.out hb)
  replace E_g1 : Hid (∀ b, F_g1 b → b < w12_.heap.size) := Lib.hid (fun b h => Nat.lt_of_lt_of_le (E_g1.out b h) hb.size)
  replace K_p0 := Lib.hid ((hb.block _ (lt_of_block K_p0.out)).trans K_p0.out)
  replace K_w0 := Lib.hid ((hb.block _ (lt_of_block K_w0.out)).trans K_w0.out)
  replace K_g0 := Lib.hid ((hb.block _ (lt_of_block K_g0.out)).trans K_g0.out)
  replace HB := Lib.hid (HB.out.trans (hb.mono HB.out.size))
  clear hb
  have O_t4 := Lib.hid hO_t4
  have E_t4 : Hid (∀ b, (ival w11_.heap.size w12_.heap.size) b → b < w12_.heap.size) := Lib.hid (fun b h => (hF_t4 b h).2)
  clear hO_t4 hF_t4
  have k_p0_0 := blk_cell K_p0.out 0
  rw [cell3_0] at k_p0_0
  have k_p0_1 := blk_cell K_p0.out 1
  rw [cell3_1] at k_p0_1
  have k_p0_2 := blk_cell K_p0.out 2
  rw [cell3_2] at k_p0_2
  have k_w0_0 := blk_cell K_w0.out 0
  rw [cell3_0] at k_w0_0
  have k_w0_1 := blk_cell K_w0.out 1
  rw [cell3_1] at k_w0_1
  have k_w0_2 := blk_cell K_w0.out 2
  rw [cell3_2] at k_w0_2
  have k_g0_0 := blk_cell K_g0.out 0
  rw [cell3_0] at k_g0_0
  have k_g0_1 := blk_cell K_g0.out 1
  rw [cell3_1] at k_g0_1
  have k_g0_2 := blk_cell K_g0.out 2
  rw [cell3_2] at k_g0_2
  go_wp2_with fail
  clear k_p0_0 k_p0_1 k_p0_2 k_w0_0 k_w0_1 k_w0_2 k_g0_0 k_g0_1 k_g0_2
  refine (eqByteS_same_t ((sliceT 5 u8T).ord O_x2.out) ((sliceT 5 u8T).ord O_t4.out) (Nat.le_refl _) (Nat.le_refl _)).mono ?_
  rintro e w13_ ⟨he, hb⟩
  subst he
  replace A0 := Lib.hid (tyMailbox.behind A0.out (hb.mono HB.out.size))
  replace A2 := Lib.hid ((sliceT 5 u8T).behind A2.out (hb.mono HB.out.size))
  replace O_w0 := Lib.hid (tyMailbox.onext O_w0.out hb)
  replace E_w0 : Hid (∀ b, F_w0 b → b < w13_.heap.size) := Lib.hid (fun b h => Nat.lt_of_lt_of_le (E_w0.out b h) hb.size)
  replace O_w1 := Lib.hid ((sliceT 5 u8T).onext O_w1.out hb)
  replace E_w1 : Hid (∀ b, F_w1 b → b < w13_.heap.size) := Lib.hid (fun b h => Nat.lt_of_lt_of_le (E_w1.out b h) hb.size)
  replace O_x2 := Lib.hid ((sliceT 5 u8T).onext O_x2.out hb)
  replace E_x2 : Hid (∀ b, (ival w5_.heap.size w6_.heap.size) b → b < w13_.heap.size) := Lib.hid (fun b h => Nat.lt_of_lt_of_le (E_x2.out b h) hb.size)
  replace O_g0 := Lib.hid (tyMailbox.onext O_g0.out hb)
  replace E_g0 : Hid (∀ b, F_g0 b → b < w13_.heap.size) := Lib.hid (fun b h => Nat.lt_of_lt_of_le (E_g0.out b h) hb.size)
  replace O_g1 := Lib.hid ((sliceT 5 u8T).onext O_g1.out hb)
  replace E_g1 : Hid (∀ b, F_g1 b → b < w13_.heap.size) := Lib.hid (fun b h => Nat.lt_of_lt_of_le (E_g1.out b h) hb.size)
  replace O_t4 := Lib.hid ((sliceT 5 u8T).onext O_t4.out hb)
  replace E_t4 : Hid (∀ b, (ival w11_.heap.size w12_.heap.size) b → b < w13_.heap.size) := Lib.hid (fun b h => Nat.lt_of_lt_of_le (E_t4.out b h) hb.size)
  replace K_p0 := Lib.hid ((hb.block _ (lt_of_block K_p0.out)).trans K_p0.out)
  replace K_w0 := Lib.hid ((hb.block _ (lt_of_block K_w0.out)).trans K_w0.out)
  replace K_g0 := Lib.hid ((hb.block _ (lt_of_block K_g0.out)).trans K_g0.out)
  replace HB := Lib.hid (HB.out.trans (hb.mono HB.out.size))
  clear hb
  clear O_t4 E_t4 D_t4
  clear X_x2_t4
  clear X_g1_t4
  -- ('set', 'k', '1')
  -- ('mark', 'k', '[]byte', 'x2', 'k')
  have hF8 : (sliceT 5 u8T).vcnt s2 ≤ 1099511627776 := vb_bm L2t.out
  obtain ⟨K8, hK8⟩ : ∃ K : Int, K = 1 + (((sliceT 5 u8T).vcnt s2 : Nat) : Int) := ⟨_, rfl⟩
  have hB8 : 0 ≤ K8 ∧ K8 ≤ 1099511627786 := by omega
  have G8 := Lib.hid hK8
  clear hK8
  have k_p0_0 := blk_cell K_p0.out 0
  rw [cell3_0] at k_p0_0
  have k_p0_1 := blk_cell K_p0.out 1
  rw [cell3_1] at k_p0_1
  have k_p0_2 := blk_cell K_p0.out 2
  rw [cell3_2] at k_p0_2
  have k_w0_0 := blk_cell K_w0.out 0
  rw [cell3_0] at k_w0_0
  have k_w0_1 := blk_cell K_w0.out 1
  rw [cell3_1] at k_w0_1
  have k_w0_2 := blk_cell K_w0.out 2
  rw [cell3_2] at k_w0_2
  have k_g0_0 := blk_cell K_g0.out 0
  rw [cell3_0] at k_g0_0
  have k_g0_1 := blk_cell K_g0.out 1
  rw [cell3_1] at k_g0_1
  have k_g0_2 := blk_cell K_g0.out 2
  rw [cell3_2] at k_g0_2
  go_wp2_with fail
  clear k_p0_0 k_p0_1 k_p0_2 k_w0_0 k_w0_1 k_w0_2 k_g0_0 k_g0_1 k_g0_2
  refine (markByteS_t (k0 := 1) O_x2.out (by omega) (by omega)).mono ?_
  rintro e w14_ ⟨he, hO, hk⟩
  rw [← G8.out] at he
  subst he
  have hb := hk.below (B := w.heap.size) D_x2.out HB.out.size
  replace A0 := Lib.hid (tyMailbox.behind A0.out hb)
  replace A2 := Lib.hid ((sliceT 5 u8T).behind A2.out hb)
  replace O_w0 := Lib.hid (tyMailbox.okept O_w0.out hk X_w0_x2.out)
  replace E_w0 : Hid (∀ b, F_w0 b → b < w14_.heap.size) := Lib.hid (fun b h => Nat.lt_of_lt_of_le (E_w0.out b h) hk.size)
  replace O_w1 := Lib.hid ((sliceT 5 u8T).okept O_w1.out hk X_w1_x2.out)
  replace E_w1 : Hid (∀ b, F_w1 b → b < w14_.heap.size) := Lib.hid (fun b h => Nat.lt_of_lt_of_le (E_w1.out b h) hk.size)
  replace E_x2 : Hid (∀ b, (ival w5_.heap.size w6_.heap.size) b → b < w14_.heap.size) := Lib.hid (fun b h => Nat.lt_of_lt_of_le (E_x2.out b h) hk.size)
  replace O_g0 := Lib.hid (tyMailbox.okept O_g0.out hk (fun b h1 h2 => X_x2_g0.out b h2 h1))
  replace E_g0 : Hid (∀ b, F_g0 b → b < w14_.heap.size) := Lib.hid (fun b h => Nat.lt_of_lt_of_le (E_g0.out b h) hk.size)
  replace O_g1 := Lib.hid ((sliceT 5 u8T).okept O_g1.out hk (fun b h1 h2 => X_x2_g1.out b h2 h1))
  replace E_g1 : Hid (∀ b, F_g1 b → b < w14_.heap.size) := Lib.hid (fun b h => Nat.lt_of_lt_of_le (E_g1.out b h) hk.size)
  replace K_p0 := Lib.hid ((hk.block _ (lt_of_block K_p0.out) N_p0_x2.out).trans K_p0.out)
  replace K_w0 := Lib.hid ((hk.block _ (lt_of_block K_w0.out) N_w0_x2.out).trans K_w0.out)
  replace K_g0 := Lib.hid ((hk.block _ (lt_of_block K_g0.out) N_g0_x2.out).trans K_g0.out)
  replace HB := Lib.hid (HB.out.trans hb)
  replace O_x2 := Lib.hid hO
  clear hO hk hb
  clear O_x2 E_x2 D_x2
  clear X_w0_x2
  clear X_w1_x2
  clear X_x2_g0
  clear X_x2_g1
  clear N_p0_x2
  clear N_w0_x2
  clear N_g0_x2
  -- ('eq', 'Mailbox', ('own', 'g0'), ('own', 'w0'))
  have k_p0_0 := blk_cell K_p0.out 0
  rw [cell3_0] at k_p0_0
  have k_p0_1 := blk_cell K_p0.out 1
  rw [cell3_1] at k_p0_1
  have k_p0_2 := blk_cell K_p0.out 2
  rw [cell3_2] at k_p0_2
  have k_w0_0 := blk_cell K_w0.out 0
  rw [cell3_0] at k_w0_0
  have k_w0_1 := blk_cell K_w0.out 1
  rw [cell3_1] at k_w0_1
  have k_w0_2 := blk_cell K_w0.out 2
  rw [cell3_2] at k_w0_2
  have k_g0_0 := blk_cell K_g0.out 0
  rw [cell3_0] at k_g0_0
  have k_g0_1 := blk_cell K_g0.out 1
  rw [cell3_1] at k_g0_1
  have k_g0_2 := blk_cell K_g0.out 2
  rw [cell3_2] at k_g0_2
  go_wp2_with fail
  clear k_p0_0 k_p0_1 k_p0_2 k_w0_0 k_w0_1 k_w0_2 k_g0_0 k_g0_1 k_g0_2
  refine (eqMailbox_same (tyMailbox.ord O_g0.out) (tyMailbox.ord O_w0.out) (Nat.le_refl _) (Nat.le_refl _)).mono ?_
  rintro e w15_ ⟨he, hb⟩
  subst he
  replace A0 := Lib.hid (tyMailbox.behind A0.out (hb.mono HB.out.size))
  replace A2 := Lib.hid ((sliceT 5 u8T).behind A2.out (hb.mono HB.out.size))
  replace O_w0 := Lib.hid (tyMailbox.onext O_w0.out hb)
  replace E_w0 : Hid (∀ b, F_w0 b → b < w15_.heap.size) := Lib.hid (fun b h => Nat.lt_of_lt_of_le (E_w0.out b h) hb.size)
  replace O_w1 := Lib.hid ((sliceT 5 u8T).onext O_w1.out hb)
  replace E_w1 : Hid (∀ b, F_w1 b → b < w15_.heap.size) := Lib.hid (fun b h => Nat.lt_of_lt_of_le (E_w1.out b h) hb.size)
  replace O_g0 := Lib.hid (tyMailbox.onext O_g0.out hb)
  replace E_g0 : Hid (∀ b, F_g0 b → b < w15_.heap.size) := Lib.hid (fun b h => Nat.lt_of_lt_of_le (E_g0.out b h) hb.size)
  replace O_g1 := Lib.hid ((sliceT 5 u8T).onext O_g1.out hb)
  replace E_g1 : Hid (∀ b, F_g1 b → b < w15_.heap.size) := Lib.hid (fun b h => Nat.lt_of_lt_of_le (E_g1.out b h) hb.size)
  replace K_p0 := Lib.hid ((hb.block _ (lt_of_block K_p0.out)).trans K_p0.out)
  replace K_w0 := Lib.hid ((hb.block _ (lt_of_block K_w0.out)).trans K_w0.out)
  replace K_g0 := Lib.hid ((hb.block _ (lt_of_block K_g0.out)).trans K_g0.out)
  replace HB := Lib.hid (HB.out.trans (hb.mono HB.out.size))
  clear hb
  clear O_g0 E_g0 D_g0
  clear X_g0_g1
  clear K_g0
  clear N_g0_g1
  -- ('eq', '[]byte', ('own', 'g1'), ('own', 'w1'))
  have k_p0_0 := blk_cell K_p0.out 0
  rw [cell3_0] at k_p0_0
  have k_p0_1 := blk_cell K_p0.out 1
  rw [cell3_1] at k_p0_1
  have k_p0_2 := blk_cell K_p0.out 2
  rw [cell3_2] at k_p0_2
  have k_w0_0 := blk_cell K_w0.out 0
  rw [cell3_0] at k_w0_0
  have k_w0_1 := blk_cell K_w0.out 1
  rw [cell3_1] at k_w0_1
  have k_w0_2 := blk_cell K_w0.out 2
  rw [cell3_2] at k_w0_2
  go_wp2_with fail
  clear k_p0_0 k_p0_1 k_p0_2 k_w0_0 k_w0_1 k_w0_2
  refine (eqByteS_same_t ((sliceT 5 u8T).ord O_g1.out) ((sliceT 5 u8T).ord O_w1.out) (Nat.le_refl _) (Nat.le_refl _)).mono ?_
  rintro e w16_ ⟨he, hb⟩
  subst he
  replace A0 := Lib.hid (tyMailbox.behind A0.out (hb.mono HB.out.size))
  replace A2 := Lib.hid ((sliceT 5 u8T).behind A2.out (hb.mono HB.out.size))
  replace O_w0 := Lib.hid (tyMailbox.onext O_w0.out hb)
  replace E_w0 : Hid (∀ b, F_w0 b → b < w16_.heap.size) := Lib.hid (fun b h => Nat.lt_of_lt_of_le (E_w0.out b h) hb.size)
  replace O_w1 := Lib.hid ((sliceT 5 u8T).onext O_w1.out hb)
  replace E_w1 : Hid (∀ b, F_w1 b → b < w16_.heap.size) := Lib.hid (fun b h => Nat.lt_of_lt_of_le (E_w1.out b h) hb.size)
  replace O_g1 := Lib.hid ((sliceT 5 u8T).onext O_g1.out hb)
  replace E_g1 : Hid (∀ b, F_g1 b → b < w16_.heap.size) := Lib.hid (fun b h => Nat.lt_of_lt_of_le (E_g1.out b h) hb.size)
  replace K_p0 := Lib.hid ((hb.block _ (lt_of_block K_p0.out)).trans K_p0.out)
  replace K_w0 := Lib.hid ((hb.block _ (lt_of_block K_w0.out)).trans K_w0.out)
  replace HB := Lib.hid (HB.out.trans (hb.mono HB.out.size))
  clear hb
  -- ('set', 'm', '1')
  -- ('mark', 'm', '[]byte', 'g1', 'm')
  have hF12 : (sliceT 5 u8T).vcnt Y1 ≤ 1099511627776 := by rw [HY1.out]; exact vb_recv _ _ _ _ _
  obtain ⟨K12, hK12⟩ : ∃ K : Int, K = 1 + (((sliceT 5 u8T).vcnt Y1 : Nat) : Int) := ⟨_, rfl⟩
  have hB12 : 0 ≤ K12 ∧ K12 ≤ 2199023255562 := by omega
  have G12 := Lib.hid hK12
  clear hK12
  have k_p0_0 := blk_cell K_p0.out 0
  rw [cell3_0] at k_p0_0
  have k_p0_1 := blk_cell K_p0.out 1
  rw [cell3_1] at k_p0_1
  have k_p0_2 := blk_cell K_p0.out 2
  rw [cell3_2] at k_p0_2
  have k_w0_0 := blk_cell K_w0.out 0
  rw [cell3_0] at k_w0_0
  have k_w0_1 := blk_cell K_w0.out 1
  rw [cell3_1] at k_w0_1
  have k_w0_2 := blk_cell K_w0.out 2
  rw [cell3_2] at k_w0_2
  go_wp2_with fail
  clear k_p0_0 k_p0_1 k_p0_2 k_w0_0 k_w0_1 k_w0_2
  refine (markByteS_t (k0 := 1) O_g1.out (by omega) (by omega)).mono ?_
  rintro e w17_ ⟨he, hO, hk⟩
  rw [← G12.out] at he
  subst he
  have hb := hk.below (B := w.heap.size) D_g1.out HB.out.size
  replace A0 := Lib.hid (tyMailbox.behind A0.out hb)
  replace A2 := Lib.hid ((sliceT 5 u8T).behind A2.out hb)
  replace O_w0 := Lib.hid (tyMailbox.okept O_w0.out hk X_w0_g1.out)
  replace E_w0 : Hid (∀ b, F_w0 b → b < w17_.heap.size) := Lib.hid (fun b h => Nat.lt_of_lt_of_le (E_w0.out b h) hk.size)
  replace O_w1 := Lib.hid ((sliceT 5 u8T).okept O_w1.out hk X_w1_g1.out)
  replace E_w1 : Hid (∀ b, F_w1 b → b < w17_.heap.size) := Lib.hid (fun b h => Nat.lt_of_lt_of_le (E_w1.out b h) hk.size)
  replace E_g1 : Hid (∀ b, F_g1 b → b < w17_.heap.size) := Lib.hid (fun b h => Nat.lt_of_lt_of_le (E_g1.out b h) hk.size)
  replace K_p0 := Lib.hid ((hk.block _ (lt_of_block K_p0.out) N_p0_g1.out).trans K_p0.out)
  replace K_w0 := Lib.hid ((hk.block _ (lt_of_block K_w0.out) N_w0_g1.out).trans K_w0.out)
  replace HB := Lib.hid (HB.out.trans hb)
  replace O_g1 := Lib.hid hO
  clear hO hk hb
  -- ('set', 'q', '1')
  -- ('held', 'q', '[]byte', 'g1', 'q')
  have k_p0_0 := blk_cell K_p0.out 0
  rw [cell3_0] at k_p0_0
  have k_p0_1 := blk_cell K_p0.out 1
  rw [cell3_1] at k_p0_1
  have k_p0_2 := blk_cell K_p0.out 2
  rw [cell3_2] at k_p0_2
  have k_w0_0 := blk_cell K_w0.out 0
  rw [cell3_0] at k_w0_0
  have k_w0_1 := blk_cell K_w0.out 1
  rw [cell3_1] at k_w0_1
  have k_w0_2 := blk_cell K_w0.out 2
  rw [cell3_2] at k_w0_2
  go_wp2_with fail
  clear k_p0_0 k_p0_1 k_p0_2 k_w0_0 k_w0_1 k_w0_2
  refine (heldByteS_t (x := Y1) (k0 := 1) ((sliceT 5 u8T).ord O_g1.out) (Nat.le_refl _) (by omega) (by omega)).mono ?_
  rintro e w18_ ⟨he, hb⟩
  rw [← G12.out] at he
  subst he
  replace A0 := Lib.hid (tyMailbox.behind A0.out (hb.mono HB.out.size))
  replace A2 := Lib.hid ((sliceT 5 u8T).behind A2.out (hb.mono HB.out.size))
  replace O_w0 := Lib.hid (tyMailbox.onext O_w0.out hb)
  replace E_w0 : Hid (∀ b, F_w0 b → b < w18_.heap.size) := Lib.hid (fun b h => Nat.lt_of_lt_of_le (E_w0.out b h) hb.size)
  replace O_w1 := Lib.hid ((sliceT 5 u8T).onext O_w1.out hb)
  replace E_w1 : Hid (∀ b, F_w1 b → b < w18_.heap.size) := Lib.hid (fun b h => Nat.lt_of_lt_of_le (E_w1.out b h) hb.size)
  replace O_g1 := Lib.hid ((sliceT 5 u8T).onext O_g1.out hb)
  replace E_g1 : Hid (∀ b, F_g1 b → b < w18_.heap.size) := Lib.hid (fun b h => Nat.lt_of_lt_of_le (E_g1.out b h) hb.size)
  replace K_p0 := Lib.hid ((hb.block _ (lt_of_block K_p0.out)).trans K_p0.out)
  replace K_w0 := Lib.hid ((hb.block _ (lt_of_block K_w0.out)).trans K_w0.out)
  replace HB := Lib.hid (HB.out.trans (hb.mono HB.out.size))
  clear hb
  have dd14 : decide (K12 < 0) = false := by simp; omega
  -- ('call', 'impl', 'ReceiveFromMailbox', [('copy', 0, 'Mailbox'), ('arg', 1), ('copy', 2, '[]byte')], ['h0', 'h1', 'h2'])
  have k_p0_0 := blk_cell K_p0.out 0
  rw [cell3_0] at k_p0_0
  have k_p0_1 := blk_cell K_p0.out 1
  rw [cell3_1] at k_p0_1
  have k_p0_2 := blk_cell K_p0.out 2
  rw [cell3_2] at k_p0_2
  have k_w0_0 := blk_cell K_w0.out 0
  rw [cell3_0] at k_w0_0
  have k_w0_1 := blk_cell K_w0.out 1
  rw [cell3_1] at k_w0_1
  have k_w0_2 := blk_cell K_w0.out 2
  rw [cell3_2] at k_w0_2
  go_wp2_with fail
  clear k_p0_0 k_p0_1 k_p0_2 k_w0_0 k_w0_1 k_w0_2
  refine (toMailbox_any A0.out HB.out.size (show (0 : Nat) ≤ 1073741824 by decide)).mono ?_
  rintro e w19_ ⟨c_t5, he, hO_t5, hb⟩
  subst he
  have hF_t5 : ∀ b, (ival w18_.heap.size w19_.heap.size) b → w18_.heap.size ≤ b ∧ b < w19_.heap.size := fun b h => h
  obtain ⟨rfl, _⟩ := own_Mailbox hO_t5
  have D_t5 : Hid (∀ b, (ival w18_.heap.size w19_.heap.size) b → w.heap.size ≤ b) := Lib.hid (fun b h => Nat.le_trans HB.out.size (hF_t5 b h).1)
  replace A0 := Lib.hid (tyMailbox.behind A0.out (hb.mono HB.out.size))
  replace A2 := Lib.hid ((sliceT 5 u8T).behind A2.out (hb.mono HB.out.size))
  replace O_w0 := Lib.hid (tyMailbox.onext O_w0.out hb)
  replace E_w0 : Hid (∀ b, F_w0 b → b < w19_.heap.size) := Lib.hid (fun b h => Nat.lt_of_lt_of_le (E_w0.out b h) hb.size)
  replace O_w1 := Lib.hid ((sliceT 5 u8T).onext O_w1.out hb)
  replace E_w1 : Hid (∀ b, F_w1 b → b < w19_.heap.size) := Lib.hid (fun b h => Nat.lt_of_lt_of_le (E_w1.out b h) hb.size)
  replace O_g1 := Lib.hid ((sliceT 5 u8T).onext O_g1.out hb)
  replace E_g1 : Hid (∀ b, F_g1 b → b < w19_.heap.size) := Lib.hid (fun b h => Nat.lt_of_lt_of_le (E_g1.out b h) hb.size)
  replace K_p0 := Lib.hid ((hb.block _ (lt_of_block K_p0.out)).trans K_p0.out)
  replace K_w0 := Lib.hid ((hb.block _ (lt_of_block K_w0.out)).trans K_w0.out)
  replace HB := Lib.hid (HB.out.trans (hb.mono HB.out.size))
  clear hb
  have O_t5 := Lib.hid hO_t5
  have E_t5 : Hid (∀ b, (ival w18_.heap.size w19_.heap.size) b → b < w19_.heap.size) := Lib.hid (fun b h => (hF_t5 b h).2)
  clear hO_t5 hF_t5
  have k_p0_0 := blk_cell K_p0.out 0
  rw [cell3_0] at k_p0_0
  have k_p0_1 := blk_cell K_p0.out 1
  rw [cell3_1] at k_p0_1
  have k_p0_2 := blk_cell K_p0.out 2
  rw [cell3_2] at k_p0_2
  have k_w0_0 := blk_cell K_w0.out 0
  rw [cell3_0] at k_w0_0
  have k_w0_1 := blk_cell K_w0.out 1
  rw [cell3_1] at k_w0_1
  have k_w0_2 := blk_cell K_w0.out 2
  rw [cell3_2] at k_w0_2
  go_wp2_with fail
  clear k_p0_0 k_p0_1 k_p0_2 k_w0_0 k_w0_1 k_w0_2
  refine (toByteS_t A2.out HB.out.size (Nat.le_trans B2t.out (by decide))).mono ?_
  rintro e w20_ ⟨v_t6, he, hO_t6, hb⟩
  subst he
  have hF_t6 : ∀ b, (ival w19_.heap.size w20_.heap.size) b → w19_.heap.size ≤ b ∧ b < w20_.heap.size := fun b h => h
  have D_t6 : Hid (∀ b, (ival w19_.heap.size w20_.heap.size) b → w.heap.size ≤ b) := Lib.hid (fun b h => Nat.le_trans HB.out.size (hF_t6 b h).1)
  replace A0 := Lib.hid (tyMailbox.behind A0.out (hb.mono HB.out.size))
  replace A2 := Lib.hid ((sliceT 5 u8T).behind A2.out (hb.mono HB.out.size))
  replace O_w0 := Lib.hid (tyMailbox.onext O_w0.out hb)
  replace E_w0 : Hid (∀ b, F_w0 b → b < w20_.heap.size) := Lib.hid (fun b h => Nat.lt_of_lt_of_le (E_w0.out b h) hb.size)
  replace O_w1 := Lib.hid ((sliceT 5 u8T).onext O_w1.out hb)
  replace E_w1 : Hid (∀ b, F_w1 b → b < w20_.heap.size) := Lib.hid (fun b h => Nat.lt_of_lt_of_le (E_w1.out b h) hb.size)
  replace O_g1 := Lib.hid ((sliceT 5 u8T).onext O_g1.out hb)
  replace E_g1 : Hid (∀ b, F_g1 b → b < w20_.heap.size) := Lib.hid (fun b h => Nat.lt_of_lt_of_le (E_g1.out b h) hb.size)
  replace O_t5 := Lib.hid (tyMailbox.onext O_t5.out hb)
  replace E_t5 : Hid (∀ b, (ival w18_.heap.size w19_.heap.size) b → b < w20_.heap.size) := Lib.hid (fun b h => Nat.lt_of_lt_of_le (E_t5.out b h) hb.size)
  replace K_p0 := Lib.hid ((hb.block _ (lt_of_block K_p0.out)).trans K_p0.out)
  replace K_w0 := Lib.hid ((hb.block _ (lt_of_block K_w0.out)).trans K_w0.out)
  replace HB := Lib.hid (HB.out.trans (hb.mono HB.out.size))
  clear hb
  have O_t6 := Lib.hid hO_t6
  have E_t6 : Hid (∀ b, (ival w19_.heap.size w20_.heap.size) b → b < w20_.heap.size) := Lib.hid (fun b h => (hF_t6 b h).2)
  clear hO_t6 hF_t6
  have k_p0_0 := blk_cell K_p0.out 0
  rw [cell3_0] at k_p0_0
  have k_p0_1 := blk_cell K_p0.out 1
  rw [cell3_1] at k_p0_1
  have k_p0_2 := blk_cell K_p0.out 2
  rw [cell3_2] at k_p0_2
  have k_w0_0 := blk_cell K_w0.out 0
  rw [cell3_0] at k_w0_0
  have k_w0_1 := blk_cell K_w0.out 1
  rw [cell3_1] at k_w0_1
  have k_w0_2 := blk_cell K_w0.out 2
  rw [cell3_2] at k_w0_2
  go_wp2_with fail
  clear k_p0_0 k_p0_1 k_p0_2 k_w0_0 k_w0_1 k_w0_2
  refine (impl_rv_t (tyMailbox.ord O_t5.out) (Nat.le_refl _) ((sliceT 5 u8T).ord O_t6.out) (Nat.le_refl _) W1.out (HL.out.next HB.out)).mono ?_
  rintro e w21_ ⟨c_h0, v_h1, F_h0, F_h1, he, hO_h0, hO_h1, hF_h0, hF_h1, hX_h0_h1, hb⟩
  replace hO_h0 : tyMailbox.own F_h0 w21_ c_h0 ((s0.1, s0.2.1, rvR s0.1 s0.2.1 s0.2.2 a1 s2)) := hO_h0
  replace hO_h1 : (sliceT 5 u8T).own F_h1 w21_ [v_h1] (rvL s0.1 s0.2.1 s0.2.2 a1 s2) := hO_h1
  rw [← HY0.out] at hO_h0
  rw [← HY1.out] at hO_h1
  rw [← HY2.out] at he
  subst he
  obtain ⟨rfl, _⟩ := own_Mailbox hO_h0
  clear hX_h0_h1
  have D_h0 : Hid (∀ b, F_h0 b → w.heap.size ≤ b) := Lib.hid (fun b h => Nat.le_trans HB.out.size (hF_h0 b h).1)
  have D_h1 : Hid (∀ b, F_h1 b → w.heap.size ≤ b) := Lib.hid (fun b h => Nat.le_trans HB.out.size (hF_h1 b h).1)
  replace A0 := Lib.hid (tyMailbox.behind A0.out (hb.mono HB.out.size))
  replace A2 := Lib.hid ((sliceT 5 u8T).behind A2.out (hb.mono HB.out.size))
  replace O_w0 := Lib.hid (tyMailbox.onext O_w0.out hb)
  replace E_w0 : Hid (∀ b, F_w0 b → b < w21_.heap.size) := Lib.hid (fun b h => Nat.lt_of_lt_of_le (E_w0.out b h) hb.size)
  replace O_w1 := Lib.hid ((sliceT 5 u8T).onext O_w1.out hb)
  replace E_w1 : Hid (∀ b, F_w1 b → b < w21_.heap.size) := Lib.hid (fun b h => Nat.lt_of_lt_of_le (E_w1.out b h) hb.size)
  replace O_g1 := Lib.hid ((sliceT 5 u8T).onext O_g1.out hb)
  replace E_g1 : Hid (∀ b, F_g1 b → b < w21_.heap.size) := Lib.hid (fun b h => Nat.lt_of_lt_of_le (E_g1.out b h) hb.size)
  replace O_t5 := Lib.hid (tyMailbox.onext O_t5.out hb)
  replace E_t5 : Hid (∀ b, (ival w18_.heap.size w19_.heap.size) b → b < w21_.heap.size) := Lib.hid (fun b h => Nat.lt_of_lt_of_le (E_t5.out b h) hb.size)
  replace O_t6 := Lib.hid ((sliceT 5 u8T).onext O_t6.out hb)
  replace E_t6 : Hid (∀ b, (ival w19_.heap.size w20_.heap.size) b → b < w21_.heap.size) := Lib.hid (fun b h => Nat.lt_of_lt_of_le (E_t6.out b h) hb.size)
  replace K_p0 := Lib.hid ((hb.block _ (lt_of_block K_p0.out)).trans K_p0.out)
  replace K_w0 := Lib.hid ((hb.block _ (lt_of_block K_w0.out)).trans K_w0.out)
  replace HB := Lib.hid (HB.out.trans (hb.mono HB.out.size))
  clear hb
  have O_h0 := Lib.hid hO_h0
  have E_h0 : Hid (∀ b, F_h0 b → b < w21_.heap.size) := Lib.hid (fun b h => (hF_h0 b h).2)
  clear hO_h0 hF_h0
  have O_h1 := Lib.hid hO_h1
  have E_h1 : Hid (∀ b, F_h1 b → b < w21_.heap.size) := Lib.hid (fun b h => (hF_h1 b h).2)
  clear hO_h1 hF_h1
  have hb : Below w21_.heap.size w21_ (w21_.alloc (.cells #[.int .i64 Y0.1, .int .i64 Y0.2.1, .int .i64 Y0.2.2] 44)) := (Below.refl _ _).alloc (Nat.le_refl _) _
  replace A0 := Lib.hid (tyMailbox.behind A0.out (hb.mono HB.out.size))
  replace A2 := Lib.hid ((sliceT 5 u8T).behind A2.out (hb.mono HB.out.size))
  replace O_w0 := Lib.hid (tyMailbox.onext O_w0.out hb)
  replace E_w0 : Hid (∀ b, F_w0 b → b < (w21_.alloc (.cells #[.int .i64 Y0.1, .int .i64 Y0.2.1, .int .i64 Y0.2.2] 44)).heap.size) := Lib.hid (fun b h => Nat.lt_of_lt_of_le (E_w0.out b h) hb.size)
  replace O_w1 := Lib.hid ((sliceT 5 u8T).onext O_w1.out hb)
  replace E_w1 : Hid (∀ b, F_w1 b → b < (w21_.alloc (.cells #[.int .i64 Y0.1, .int .i64 Y0.2.1, .int .i64 Y0.2.2] 44)).heap.size) := Lib.hid (fun b h => Nat.lt_of_lt_of_le (E_w1.out b h) hb.size)
  replace O_g1 := Lib.hid ((sliceT 5 u8T).onext O_g1.out hb)
  replace E_g1 : Hid (∀ b, F_g1 b → b < (w21_.alloc (.cells #[.int .i64 Y0.1, .int .i64 Y0.2.1, .int .i64 Y0.2.2] 44)).heap.size) := Lib.hid (fun b h => Nat.lt_of_lt_of_le (E_g1.out b h) hb.size)
  replace O_t5 := Lib.hid (tyMailbox.onext O_t5.out hb)
  replace E_t5 : Hid (∀ b, (ival w18_.heap.size w19_.heap.size) b → b < (w21_.alloc (.cells #[.int .i64 Y0.1, .int .i64 Y0.2.1, .int .i64 Y0.2.2] 44)).heap.size) := Lib.hid (fun b h => Nat.lt_of_lt_of_le (E_t5.out b h) hb.size)
  replace O_t6 := Lib.hid ((sliceT 5 u8T).onext O_t6.out hb)
  replace E_t6 : Hid (∀ b, (ival w19_.heap.size w20_.heap.size) b → b < (w21_.alloc (.cells #[.int .i64 Y0.1, .int .i64 Y0.2.1, .int .i64 Y0.2.2] 44)).heap.size) := Lib.hid (fun b h => Nat.lt_of_lt_of_le (E_t6.out b h) hb.size)
  replace O_h0 := Lib.hid (tyMailbox.onext O_h0.out hb)
  replace E_h0 : Hid (∀ b, F_h0 b → b < (w21_.alloc (.cells #[.int .i64 Y0.1, .int .i64 Y0.2.1, .int .i64 Y0.2.2] 44)).heap.size) := Lib.hid (fun b h => Nat.lt_of_lt_of_le (E_h0.out b h) hb.size)
  replace O_h1 := Lib.hid ((sliceT 5 u8T).onext O_h1.out hb)
  replace E_h1 : Hid (∀ b, F_h1 b → b < (w21_.alloc (.cells #[.int .i64 Y0.1, .int .i64 Y0.2.1, .int .i64 Y0.2.2] 44)).heap.size) := Lib.hid (fun b h => Nat.lt_of_lt_of_le (E_h1.out b h) hb.size)
  replace K_p0 := Lib.hid ((hb.block _ (lt_of_block K_p0.out)).trans K_p0.out)
  replace K_w0 := Lib.hid ((hb.block _ (lt_of_block K_w0.out)).trans K_w0.out)
  replace HB := Lib.hid (HB.out.trans (hb.mono HB.out.size))
  clear hb
  have K_h0 := Lib.hid (heap_alloc_new w21_ (.cells #[.int .i64 Y0.1, .int .i64 Y0.2.1, .int .i64 Y0.2.2] 44))
  have k_p0_0 := blk_cell K_p0.out 0
  rw [cell3_0] at k_p0_0
  have k_p0_1 := blk_cell K_p0.out 1
  rw [cell3_1] at k_p0_1
  have k_p0_2 := blk_cell K_p0.out 2
  rw [cell3_2] at k_p0_2
  have k_w0_0 := blk_cell K_w0.out 0
  rw [cell3_0] at k_w0_0
  have k_w0_1 := blk_cell K_w0.out 1
  rw [cell3_1] at k_w0_1
  have k_w0_2 := blk_cell K_w0.out 2
  rw [cell3_2] at k_w0_2
  have k_h0_0 := blk_cell K_h0.out 0
  rw [cell3_0] at k_h0_0
  have k_h0_1 := blk_cell K_h0.out 1
  rw [cell3_1] at k_h0_1
  have k_h0_2 := blk_cell K_h0.out 2
  rw [cell3_2] at k_h0_2
  go_wp2_with fail
  clear k_p0_0 k_p0_1 k_p0_2 k_w0_0 k_w0_1 k_w0_2 k_h0_0 k_h0_1 k_h0_2
  obtain ⟨w22_, hw⟩ : ∃ x, x = (w21_.alloc (.cells #[.int .i64 Y0.1, .int .i64 Y0.2.1, .int .i64 Y0.2.2] 44)) := ⟨_, rfl⟩
  rw [← hw] at HB A0 A2 O_w0 E_w0 O_w1 E_w1 O_g1 E_g1 O_t5 E_t5 O_t6 E_t6 O_h0 E_h0 O_h1 E_h1 K_p0 K_w0 K_h0 ⊢
  clear hw
  clear O_t5 E_t5 D_t5
  clear O_t6 E_t6 D_t6
  clear A0
  clear K_p0
  clear N_p0_g1
  clear A2
  -- ('eq', 'Mailbox', ('own', 'h0'), ('own', 'w0'))
  refine (eqMailbox_same (tyMailbox.ord O_h0.out) (tyMailbox.ord O_w0.out) (Nat.le_refl _) (Nat.le_refl _)).mono ?_
  rintro e w23_ ⟨he, hb⟩
  subst he
  replace O_w0 := Lib.hid (tyMailbox.onext O_w0.out hb)
  replace E_w0 : Hid (∀ b, F_w0 b → b < w23_.heap.size) := Lib.hid (fun b h => Nat.lt_of_lt_of_le (E_w0.out b h) hb.size)
  replace O_w1 := Lib.hid ((sliceT 5 u8T).onext O_w1.out hb)
  replace E_w1 : Hid (∀ b, F_w1 b → b < w23_.heap.size) := Lib.hid (fun b h => Nat.lt_of_lt_of_le (E_w1.out b h) hb.size)
  replace O_g1 := Lib.hid ((sliceT 5 u8T).onext O_g1.out hb)
  replace E_g1 : Hid (∀ b, F_g1 b → b < w23_.heap.size) := Lib.hid (fun b h => Nat.lt_of_lt_of_le (E_g1.out b h) hb.size)
  replace O_h0 := Lib.hid (tyMailbox.onext O_h0.out hb)
  replace E_h0 : Hid (∀ b, F_h0 b → b < w23_.heap.size) := Lib.hid (fun b h => Nat.lt_of_lt_of_le (E_h0.out b h) hb.size)
  replace O_h1 := Lib.hid ((sliceT 5 u8T).onext O_h1.out hb)
  replace E_h1 : Hid (∀ b, F_h1 b → b < w23_.heap.size) := Lib.hid (fun b h => Nat.lt_of_lt_of_le (E_h1.out b h) hb.size)
  replace K_w0 := Lib.hid ((hb.block _ (lt_of_block K_w0.out)).trans K_w0.out)
  replace K_h0 := Lib.hid ((hb.block _ (lt_of_block K_h0.out)).trans K_h0.out)
  replace HB := Lib.hid (HB.out.trans (hb.mono HB.out.size))
  clear hb
  clear O_w0 E_w0 D_w0
  clear X_w0_g1
  clear K_w0
  clear N_w0_g1
  clear O_h0 E_h0 D_h0
  clear K_h0
  -- ('eq', '[]byte', ('own', 'h1'), ('own', 'w1'))
  go_wp2_with fail
  refine (eqByteS_same_t ((sliceT 5 u8T).ord O_h1.out) ((sliceT 5 u8T).ord O_w1.out) (Nat.le_refl _) (Nat.le_refl _)).mono ?_
  rintro e w24_ ⟨he, hb⟩
  subst he
  replace O_w1 := Lib.hid ((sliceT 5 u8T).onext O_w1.out hb)
  replace E_w1 : Hid (∀ b, F_w1 b → b < w24_.heap.size) := Lib.hid (fun b h => Nat.lt_of_lt_of_le (E_w1.out b h) hb.size)
  replace O_g1 := Lib.hid ((sliceT 5 u8T).onext O_g1.out hb)
  replace E_g1 : Hid (∀ b, F_g1 b → b < w24_.heap.size) := Lib.hid (fun b h => Nat.lt_of_lt_of_le (E_g1.out b h) hb.size)
  replace O_h1 := Lib.hid ((sliceT 5 u8T).onext O_h1.out hb)
  replace E_h1 : Hid (∀ b, F_h1 b → b < w24_.heap.size) := Lib.hid (fun b h => Nat.lt_of_lt_of_le (E_h1.out b h) hb.size)
  replace HB := Lib.hid (HB.out.trans (hb.mono HB.out.size))
  clear hb
  clear O_w1 E_w1 D_w1
  clear X_w1_g1
  clear O_h1 E_h1 D_h1
  -- ('set', 'q', '1')
  -- ('held', 'q', '[]byte', 'g1', 'q')
  go_wp2_with fail
  refine (heldByteS_t (x := Y1) (k0 := 1) ((sliceT 5 u8T).ord O_g1.out) (Nat.le_refl _) (by omega) (by omega)).mono ?_
  rintro e w25_ ⟨he, hb⟩
  rw [← G12.out] at he
  subst he
  replace O_g1 := Lib.hid ((sliceT 5 u8T).onext O_g1.out hb)
  replace E_g1 : Hid (∀ b, F_g1 b → b < w25_.heap.size) := Lib.hid (fun b h => Nat.lt_of_lt_of_le (E_g1.out b h) hb.size)
  replace HB := Lib.hid (HB.out.trans (hb.mono HB.out.size))
  clear hb
  have dd19 : decide (K12 < 0) = false := by simp; omega
  clear O_g1 E_g1 D_g1
  go_wp2_with fail
  go_ret
  exact ⟨rfl, HB.out⟩
  
end Go.Proofs.YtbimihljaalllaaDoor
