/- FnExactSealCell: the walk. No conditions. -/
import Derived.Test.YtbimihljaalllaaClW
import Derived.Test.YtbimihljaalllaaCells
import Derived.Deep.RegionHeld3
import Derived.Deep.DeepCutAuto
namespace Go.Proofs.Ytbimihljaalllaa
open Go Go.RowKit
set_option linter.unusedVariables false
attribute [local irreducible] kh

set_option maxHeartbeats 4000000 in
set_option maxRecDepth 100000 in
theorem fnExactSealCell_walk (a0 : Int) (a1 : Int) (c2 : List Value) (s2 : VPlain) (w : World) (w0 : (Lit.int .i64 a0).wf = true) (w1 : (Lit.int .i64 a1).wf = true) (w2 : tyPlain.rd w.heap.size w c2 s2) :
    Calls Try.prog 3 #[.int .i64 a0, .int .i64 a1, .agg c2.toArray] w fun e w' => e = .returned (.bool true) ∧ Below w.heap.size w w' := by
  obtain ⟨a2_1, n2_1, rfl, _⟩ := rd_Plain w2
  have A2 := Lib.hid w2
  clear w2
  have W0 := Lib.hid w0
  have w0b := wf_i64 w0
  clear w0
  have W1 := Lib.hid w1
  have w1b := wf_i64 w1
  clear w1
  by_cases bz2 : (tyPlain.tot s2 : Int) ≤ (1048576 : Int)
  case neg =>
    have C0 := Lib.hid bz2
    clear bz2
    go_enter Try.func3, Try.ntmps3
    have hb := ((Below.refl w.heap.size w).alloc (Nat.le_refl _) (.cells #[.int .i64 s2.1, .slice a2_1 s2.2.length n2_1] 24))
    have K_p2 := Lib.hid (heap_alloc_new w (.cells #[.int .i64 s2.1, .slice a2_1 s2.2.length n2_1] 24))
    replace A2 := Lib.hid (tyPlain.behind A2.out hb)
    have HB := Lib.hid hb
    clear hb
    have k_p2_0 := blk_cell K_p2.out 0
    rw [cell2_0] at k_p2_0
    have k_p2_1 := blk_cell K_p2.out 1
    rw [cell2_1] at k_p2_1
    go_wp2_with fail
    clear k_p2_0 k_p2_1
    obtain ⟨w1_, hw⟩ : ∃ x, x = (w.alloc (.cells #[.int .i64 s2.1, .slice a2_1 s2.2.length n2_1] 24)) := ⟨_, rfl⟩
    rw [← hw] at HB A2 K_p2 ⊢
    clear hw
    refine (szPlain_any A2.out (by omega) (by omega) HB.out.size).mono ?_
    rintro e w2_ ⟨he, hb⟩
    rw [if_neg (by have := C0.out; omega)] at he
    subst he
    replace A2 := Lib.hid (tyPlain.behind A2.out (hb.mono HB.out.size))
    replace K_p2 := Lib.hid ((hb.block _ (lt_of_block K_p2.out)).trans K_p2.out)
    replace HB := Lib.hid (HB.out.trans (hb.mono HB.out.size))
    clear hb
    have k_p2_0 := blk_cell K_p2.out 0
    rw [cell2_0] at k_p2_0
    have k_p2_1 := blk_cell K_p2.out 1
    rw [cell2_1] at k_p2_1
    go_wp2_with fail
    clear k_p2_0 k_p2_1
    go_ret
    exact ⟨rfl, HB.out⟩
  have C0 := Lib.hid bz2
  obtain ⟨q0, hq0⟩ : ∃ q : Int, q = (1048576 : Int) - (tyPlain.tot s2 : Int) := ⟨_, rfl⟩
  have d0q : decide (q0 < 0) = false := by simp; omega
  have e0q : 0 ≤ q0 ∧ q0 ≤ 1048576 := by omega
  have B2t : Hid (tyPlain.tot s2 ≤ 1048576) := Lib.hid (by omega)
  have H0q := Lib.hid hq0
  clear hq0 bz2
  go_enter Try.func3, Try.ntmps3
  have hb := ((Below.refl w.heap.size w).alloc (Nat.le_refl _) (.cells #[.int .i64 s2.1, .slice a2_1 s2.2.length n2_1] 24))
  have K_p2 := Lib.hid (heap_alloc_new w (.cells #[.int .i64 s2.1, .slice a2_1 s2.2.length n2_1] 24))
  replace A2 := Lib.hid (tyPlain.behind A2.out hb)
  have HB := Lib.hid hb
  clear hb
  have k_p2_0 := blk_cell K_p2.out 0
  rw [cell2_0] at k_p2_0
  have k_p2_1 := blk_cell K_p2.out 1
  rw [cell2_1] at k_p2_1
  go_wp2_with fail
  clear k_p2_0 k_p2_1
  obtain ⟨w1_, hw⟩ : ∃ x, x = (w.alloc (.cells #[.int .i64 s2.1, .slice a2_1 s2.2.length n2_1] 24)) := ⟨_, rfl⟩
  rw [← hw] at HB A2 K_p2 ⊢
  clear hw
  refine (szPlain_any A2.out (by omega) (by omega) HB.out.size).mono ?_
  rintro e w2_ ⟨he, hb⟩
  rw [if_pos (by have := C0.out; omega), ← H0q.out] at he
  subst he
  replace A2 := Lib.hid (tyPlain.behind A2.out (hb.mono HB.out.size))
  replace K_p2 := Lib.hid ((hb.block _ (lt_of_block K_p2.out)).trans K_p2.out)
  replace HB := Lib.hid (HB.out.trans (hb.mono HB.out.size))
  clear hb
  -- ('sz', 2)
  -- ('call', 'spec', 'SealCell', [('arg', 0), ('arg', 1), ('copy', 2, 'Plain')], ['w0', 'w1'])
  have k_p2_0 := blk_cell K_p2.out 0
  rw [cell2_0] at k_p2_0
  have k_p2_1 := blk_cell K_p2.out 1
  rw [cell2_1] at k_p2_1
  go_wp2_with fail
  clear k_p2_0 k_p2_1
  refine (toPlain_any A2.out HB.out.size (Nat.le_trans B2t.out (by decide))).mono ?_
  rintro e w3_ ⟨c_t1, he, hO_t1, hb⟩
  subst he
  have hF_t1 : ∀ b, (ival w2_.heap.size w3_.heap.size) b → w2_.heap.size ≤ b ∧ b < w3_.heap.size := fun b h => h
  obtain ⟨at1_1, nt1_1, _, rfl, _⟩ := own_Plain hO_t1
  have D_t1 : Hid (∀ b, (ival w2_.heap.size w3_.heap.size) b → w.heap.size ≤ b) := Lib.hid (fun b h => Nat.le_trans HB.out.size (hF_t1 b h).1)
  replace A2 := Lib.hid (tyPlain.behind A2.out (hb.mono HB.out.size))
  replace K_p2 := Lib.hid ((hb.block _ (lt_of_block K_p2.out)).trans K_p2.out)
  replace HB := Lib.hid (HB.out.trans (hb.mono HB.out.size))
  clear hb
  have O_t1 := Lib.hid hO_t1
  have E_t1 : Hid (∀ b, (ival w2_.heap.size w3_.heap.size) b → b < w3_.heap.size) := Lib.hid (fun b h => (hF_t1 b h).2)
  clear hO_t1 hF_t1
  have k_p2_0 := blk_cell K_p2.out 0
  rw [cell2_0] at k_p2_0
  have k_p2_1 := blk_cell K_p2.out 1
  rw [cell2_1] at k_p2_1
  go_wp2_with fail
  clear k_p2_0 k_p2_1
  refine (spec_se_t (tyPlain.ord O_t1.out) (Nat.le_refl _) W0.out W1.out).mono ?_
  obtain ⟨Y0, hY0⟩ : ∃ y : List Int, y = sealL a0 a1 s2.1 s2.2 := ⟨_, rfl⟩
  obtain ⟨Y1, hY1⟩ : ∃ y : Bool, y = sok a0 a1 s2.1 s2.2 := ⟨_, rfl⟩
  rintro e w4_ ⟨v_w0, F_w0, he, hO_w0, hF_w0, hb⟩
  replace hO_w0 : (sliceT 5 u8T).own F_w0 w4_ [v_w0] (sealL a0 a1 s2.1 s2.2) := hO_w0
  rw [← hY0] at hO_w0
  rw [← hY1] at he
  have HY0 := Lib.hid hY0
  clear hY0
  have HY1 := Lib.hid hY1
  clear hY1
  subst he
  have D_w0 : Hid (∀ b, F_w0 b → w.heap.size ≤ b) := Lib.hid (fun b h => Nat.le_trans HB.out.size (hF_w0 b h).1)
  replace A2 := Lib.hid (tyPlain.behind A2.out (hb.mono HB.out.size))
  replace O_t1 := Lib.hid (tyPlain.onext O_t1.out hb)
  replace E_t1 : Hid (∀ b, (ival w2_.heap.size w3_.heap.size) b → b < w4_.heap.size) := Lib.hid (fun b h => Nat.lt_of_lt_of_le (E_t1.out b h) hb.size)
  replace K_p2 := Lib.hid ((hb.block _ (lt_of_block K_p2.out)).trans K_p2.out)
  replace HB := Lib.hid (HB.out.trans (hb.mono HB.out.size))
  clear hb
  have O_w0 := Lib.hid hO_w0
  have E_w0 : Hid (∀ b, F_w0 b → b < w4_.heap.size) := Lib.hid (fun b h => (hF_w0 b h).2)
  clear hO_w0 hF_w0
  clear O_t1 E_t1 D_t1
  -- ('copy', 'x2', 2, 'Plain')
  have k_p2_0 := blk_cell K_p2.out 0
  rw [cell2_0] at k_p2_0
  have k_p2_1 := blk_cell K_p2.out 1
  rw [cell2_1] at k_p2_1
  go_wp2_with fail
  clear k_p2_0 k_p2_1
  refine (toPlain_any A2.out HB.out.size (Nat.le_trans B2t.out (by decide))).mono ?_
  rintro e w5_ ⟨c_x2, he, hO_x2, hb⟩
  subst he
  have hF_x2 : ∀ b, (ival w4_.heap.size w5_.heap.size) b → w4_.heap.size ≤ b ∧ b < w5_.heap.size := fun b h => h
  obtain ⟨ax2_1, nx2_1, _, rfl, _⟩ := own_Plain hO_x2
  have X_w0_x2 : Hid (∀ b, F_w0 b → ¬ (ival w4_.heap.size w5_.heap.size) b) := Lib.hid (fun b h1 h2 => by have := E_w0.out b h1; have := (hF_x2 b h2).1; omega)
  have N_p2_x2 : Hid (¬ (ival w4_.heap.size w5_.heap.size) (w.heap.size)) := Lib.hid (fun h => by have := (hF_x2 _ h).1; have := lt_of_block K_p2.out; omega)
  have D_x2 : Hid (∀ b, (ival w4_.heap.size w5_.heap.size) b → w.heap.size ≤ b) := Lib.hid (fun b h => Nat.le_trans HB.out.size (hF_x2 b h).1)
  replace A2 := Lib.hid (tyPlain.behind A2.out (hb.mono HB.out.size))
  replace O_w0 := Lib.hid ((sliceT 5 u8T).onext O_w0.out hb)
  replace E_w0 : Hid (∀ b, F_w0 b → b < w5_.heap.size) := Lib.hid (fun b h => Nat.lt_of_lt_of_le (E_w0.out b h) hb.size)
  replace K_p2 := Lib.hid ((hb.block _ (lt_of_block K_p2.out)).trans K_p2.out)
  replace HB := Lib.hid (HB.out.trans (hb.mono HB.out.size))
  clear hb
  have O_x2 := Lib.hid hO_x2
  have E_x2 : Hid (∀ b, (ival w4_.heap.size w5_.heap.size) b → b < w5_.heap.size) := Lib.hid (fun b h => (hF_x2 b h).2)
  clear hO_x2 hF_x2
  have hb : Below w5_.heap.size w5_ (w5_.alloc (.cells #[.int .i64 s2.1, .slice ax2_1 s2.2.length nx2_1] 28)) := (Below.refl _ _).alloc (Nat.le_refl _) _
  have N_x2_x2 : Hid (¬ (ival w4_.heap.size w5_.heap.size) w5_.heap.size) := Lib.hid (fun h => by have := E_x2.out _ h; omega)
  replace A2 := Lib.hid (tyPlain.behind A2.out (hb.mono HB.out.size))
  replace O_w0 := Lib.hid ((sliceT 5 u8T).onext O_w0.out hb)
  replace E_w0 : Hid (∀ b, F_w0 b → b < (w5_.alloc (.cells #[.int .i64 s2.1, .slice ax2_1 s2.2.length nx2_1] 28)).heap.size) := Lib.hid (fun b h => Nat.lt_of_lt_of_le (E_w0.out b h) hb.size)
  replace O_x2 := Lib.hid (tyPlain.onext O_x2.out hb)
  replace E_x2 : Hid (∀ b, (ival w4_.heap.size w5_.heap.size) b → b < (w5_.alloc (.cells #[.int .i64 s2.1, .slice ax2_1 s2.2.length nx2_1] 28)).heap.size) := Lib.hid (fun b h => Nat.lt_of_lt_of_le (E_x2.out b h) hb.size)
  replace K_p2 := Lib.hid ((hb.block _ (lt_of_block K_p2.out)).trans K_p2.out)
  replace HB := Lib.hid (HB.out.trans (hb.mono HB.out.size))
  clear hb
  have K_x2 := Lib.hid (heap_alloc_new w5_ (.cells #[.int .i64 s2.1, .slice ax2_1 s2.2.length nx2_1] 28))
  have k_p2_0 := blk_cell K_p2.out 0
  rw [cell2_0] at k_p2_0
  have k_p2_1 := blk_cell K_p2.out 1
  rw [cell2_1] at k_p2_1
  have k_x2_0 := blk_cell K_x2.out 0
  rw [cell2_0] at k_x2_0
  have k_x2_1 := blk_cell K_x2.out 1
  rw [cell2_1] at k_x2_1
  go_wp2_with fail
  clear k_p2_0 k_p2_1 k_x2_0 k_x2_1
  obtain ⟨w6_, hw⟩ : ∃ x, x = w5_.alloc (.cells #[.int .i64 s2.1, .slice ax2_1 s2.2.length nx2_1] 28) := ⟨_, rfl⟩
  rw [← hw] at HB A2 O_w0 E_w0 O_x2 E_x2 K_p2 K_x2 ⊢
  clear hw
  -- ('call', 'impl', 'SealCell', [('arg', 0), ('arg', 1), ('own', 'x2')], ['g0', 'g1'])
  refine (impl_se_t (tyPlain.ord O_x2.out) (Nat.le_refl _) W0.out W1.out).mono ?_
  rintro e w7_ ⟨v_g0, F_g0, he, hO_g0, hF_g0, hb⟩
  replace hO_g0 : (sliceT 5 u8T).own F_g0 w7_ [v_g0] (sealL a0 a1 s2.1 s2.2) := hO_g0
  rw [← HY0.out] at hO_g0
  rw [← HY1.out] at he
  subst he
  have X_w0_g0 : Hid (∀ b, F_w0 b → ¬ F_g0 b) := Lib.hid (fun b h1 h2 => by have := E_w0.out b h1; have := (hF_g0 b h2).1; omega)
  have X_x2_g0 : Hid (∀ b, (ival w4_.heap.size w5_.heap.size) b → ¬ F_g0 b) := Lib.hid (fun b h1 h2 => by have := E_x2.out b h1; have := (hF_g0 b h2).1; omega)
  have N_p2_g0 : Hid (¬ F_g0 (w.heap.size)) := Lib.hid (fun h => by have := (hF_g0 _ h).1; have := lt_of_block K_p2.out; omega)
  have N_x2_g0 : Hid (¬ F_g0 (w5_.heap.size)) := Lib.hid (fun h => by have := (hF_g0 _ h).1; have := lt_of_block K_x2.out; omega)
  have D_g0 : Hid (∀ b, F_g0 b → w.heap.size ≤ b) := Lib.hid (fun b h => Nat.le_trans HB.out.size (hF_g0 b h).1)
  replace A2 := Lib.hid (tyPlain.behind A2.out (hb.mono HB.out.size))
  replace O_w0 := Lib.hid ((sliceT 5 u8T).onext O_w0.out hb)
  replace E_w0 : Hid (∀ b, F_w0 b → b < w7_.heap.size) := Lib.hid (fun b h => Nat.lt_of_lt_of_le (E_w0.out b h) hb.size)
  replace O_x2 := Lib.hid (tyPlain.onext O_x2.out hb)
  replace E_x2 : Hid (∀ b, (ival w4_.heap.size w5_.heap.size) b → b < w7_.heap.size) := Lib.hid (fun b h => Nat.lt_of_lt_of_le (E_x2.out b h) hb.size)
  replace K_p2 := Lib.hid ((hb.block _ (lt_of_block K_p2.out)).trans K_p2.out)
  replace K_x2 := Lib.hid ((hb.block _ (lt_of_block K_x2.out)).trans K_x2.out)
  replace HB := Lib.hid (HB.out.trans (hb.mono HB.out.size))
  clear hb
  have O_g0 := Lib.hid hO_g0
  have E_g0 : Hid (∀ b, F_g0 b → b < w7_.heap.size) := Lib.hid (fun b h => (hF_g0 b h).2)
  clear hO_g0 hF_g0
  -- ('eq', '[]byte', ('own', 'g0'), ('own', 'w0'))
  have k_p2_0 := blk_cell K_p2.out 0
  rw [cell2_0] at k_p2_0
  have k_p2_1 := blk_cell K_p2.out 1
  rw [cell2_1] at k_p2_1
  have k_x2_0 := blk_cell K_x2.out 0
  rw [cell2_0] at k_x2_0
  have k_x2_1 := blk_cell K_x2.out 1
  rw [cell2_1] at k_x2_1
  go_wp2_with fail
  clear k_p2_0 k_p2_1 k_x2_0 k_x2_1
  refine (eqByteS_same_t ((sliceT 5 u8T).ord O_g0.out) ((sliceT 5 u8T).ord O_w0.out) (Nat.le_refl _) (Nat.le_refl _)).mono ?_
  rintro e w8_ ⟨he, hb⟩
  subst he
  replace A2 := Lib.hid (tyPlain.behind A2.out (hb.mono HB.out.size))
  replace O_w0 := Lib.hid ((sliceT 5 u8T).onext O_w0.out hb)
  replace E_w0 : Hid (∀ b, F_w0 b → b < w8_.heap.size) := Lib.hid (fun b h => Nat.lt_of_lt_of_le (E_w0.out b h) hb.size)
  replace O_x2 := Lib.hid (tyPlain.onext O_x2.out hb)
  replace E_x2 : Hid (∀ b, (ival w4_.heap.size w5_.heap.size) b → b < w8_.heap.size) := Lib.hid (fun b h => Nat.lt_of_lt_of_le (E_x2.out b h) hb.size)
  replace O_g0 := Lib.hid ((sliceT 5 u8T).onext O_g0.out hb)
  replace E_g0 : Hid (∀ b, F_g0 b → b < w8_.heap.size) := Lib.hid (fun b h => Nat.lt_of_lt_of_le (E_g0.out b h) hb.size)
  replace K_p2 := Lib.hid ((hb.block _ (lt_of_block K_p2.out)).trans K_p2.out)
  replace K_x2 := Lib.hid ((hb.block _ (lt_of_block K_x2.out)).trans K_x2.out)
  replace HB := Lib.hid (HB.out.trans (hb.mono HB.out.size))
  clear hb
  -- ('eq', 'Plain', ('own', 'x2'), ('copy', 2, 'Plain'))
  have k_p2_0 := blk_cell K_p2.out 0
  rw [cell2_0] at k_p2_0
  have k_p2_1 := blk_cell K_p2.out 1
  rw [cell2_1] at k_p2_1
  have k_x2_0 := blk_cell K_x2.out 0
  rw [cell2_0] at k_x2_0
  have k_x2_1 := blk_cell K_x2.out 1
  rw [cell2_1] at k_x2_1
  go_wp2_with fail
  clear k_p2_0 k_p2_1 k_x2_0 k_x2_1
  have hb : Below w8_.heap.size w8_ w8_.drew := (Below.refl _ _).drew
  replace A2 := Lib.hid (tyPlain.behind A2.out (hb.mono HB.out.size))
  replace O_w0 := Lib.hid ((sliceT 5 u8T).onext O_w0.out hb)
  replace E_w0 : Hid (∀ b, F_w0 b → b < w8_.drew.heap.size) := Lib.hid (fun b h => Nat.lt_of_lt_of_le (E_w0.out b h) hb.size)
  replace O_x2 := Lib.hid (tyPlain.onext O_x2.out hb)
  replace E_x2 : Hid (∀ b, (ival w4_.heap.size w5_.heap.size) b → b < w8_.drew.heap.size) := Lib.hid (fun b h => Nat.lt_of_lt_of_le (E_x2.out b h) hb.size)
  replace O_g0 := Lib.hid ((sliceT 5 u8T).onext O_g0.out hb)
  replace E_g0 : Hid (∀ b, F_g0 b → b < w8_.drew.heap.size) := Lib.hid (fun b h => Nat.lt_of_lt_of_le (E_g0.out b h) hb.size)
  replace K_p2 := Lib.hid ((hb.block _ (lt_of_block K_p2.out)).trans K_p2.out)
  replace K_x2 := Lib.hid ((hb.block _ (lt_of_block K_x2.out)).trans K_x2.out)
  replace HB := Lib.hid (HB.out.trans (hb.mono HB.out.size))
  clear hb
  have d0 : w8_.drew.cell? ⟨w5_.heap.size, 0, none⟩ = some (.int .i64 s2.1) ∧ w8_.drew.cell? ⟨w5_.heap.size, 1, none⟩ = some (.slice ax2_1 s2.2.length nx2_1) ∧ w8_.drew.cell? ⟨w.heap.size, 0, none⟩ = some (.int .i64 s2.1) ∧ w8_.drew.cell? ⟨w.heap.size, 1, none⟩ = some (.slice a2_1 s2.2.length n2_1) := ⟨(blk_cell K_x2.out 0).trans (cell2_0 _ _), (blk_cell K_x2.out 1).trans (cell2_1 _ _), (blk_cell K_p2.out 0).trans (cell2_0 _ _), (blk_cell K_p2.out 1).trans (cell2_1 _ _)⟩
  go_region_held3 (fun w' => w'.cell? ⟨w5_.heap.size, 0, none⟩ = some (.int .i64 s2.1) ∧ w'.cell? ⟨w5_.heap.size, 1, none⟩ = some (.slice ax2_1 s2.2.length nx2_1) ∧ w'.cell? ⟨w.heap.size, 0, none⟩ = some (.int .i64 s2.1) ∧ w'.cell? ⟨w.heap.size, 1, none⟩ = some (.slice a2_1 s2.2.length n2_1)) (first | assumption | go_keep) ((first
    | (go_at_call 9
       go_loud (refine (toPlain_any A2.out HB.out.size (Nat.le_trans B2t.out (by decide))).mono ?_
                rintro e w9_ ⟨c_t2, he, hO_t2, hb⟩
                subst he
                have hF_t2 : ∀ b, (ival w8_.drew.heap.size w9_.heap.size) b → w8_.drew.heap.size ≤ b ∧ b < w9_.heap.size := fun b h => h
                obtain ⟨at2_1, nt2_1, _, rfl, _⟩ := own_Plain hO_t2
                have X_x2_t2 : Hid (∀ b, (ival w4_.heap.size w5_.heap.size) b → ¬ (ival w8_.drew.heap.size w9_.heap.size) b) := Lib.hid (fun b h1 h2 => by have := E_x2.out b h1; have := (hF_t2 b h2).1; omega)
                have X_g0_t2 : Hid (∀ b, F_g0 b → ¬ (ival w8_.drew.heap.size w9_.heap.size) b) := Lib.hid (fun b h1 h2 => by have := E_g0.out b h1; have := (hF_t2 b h2).1; omega)
                have D_t2 : Hid (∀ b, (ival w8_.drew.heap.size w9_.heap.size) b → w.heap.size ≤ b) := Lib.hid (fun b h => Nat.le_trans HB.out.size (hF_t2 b h).1)
                replace A2 := Lib.hid (tyPlain.behind A2.out (hb.mono HB.out.size))
                replace O_w0 := Lib.hid ((sliceT 5 u8T).onext O_w0.out hb)
                replace E_w0 : Hid (∀ b, F_w0 b → b < w9_.heap.size) := Lib.hid (fun b h => Nat.lt_of_lt_of_le (E_w0.out b h) hb.size)
                replace O_x2 := Lib.hid (tyPlain.onext O_x2.out hb)
                replace E_x2 : Hid (∀ b, (ival w4_.heap.size w5_.heap.size) b → b < w9_.heap.size) := Lib.hid (fun b h => Nat.lt_of_lt_of_le (E_x2.out b h) hb.size)
                replace O_g0 := Lib.hid ((sliceT 5 u8T).onext O_g0.out hb)
                replace E_g0 : Hid (∀ b, F_g0 b → b < w9_.heap.size) := Lib.hid (fun b h => Nat.lt_of_lt_of_le (E_g0.out b h) hb.size)
                replace K_p2 := Lib.hid ((hb.block _ (lt_of_block K_p2.out)).trans K_p2.out)
                replace K_x2 := Lib.hid ((hb.block _ (lt_of_block K_x2.out)).trans K_x2.out)
                replace HB := Lib.hid (HB.out.trans (hb.mono HB.out.size))
                clear hb
                have O_t2 := Lib.hid hO_t2
                have E_t2 : Hid (∀ b, (ival w8_.drew.heap.size w9_.heap.size) b → b < w9_.heap.size) := Lib.hid (fun b h => (hF_t2 b h).2)
                clear hO_t2 hF_t2
                have d1 : w9_.cell? ⟨w5_.heap.size, 0, none⟩ = some (.int .i64 s2.1) ∧ w9_.cell? ⟨w5_.heap.size, 1, none⟩ = some (.slice ax2_1 s2.2.length nx2_1) ∧ w9_.cell? ⟨w.heap.size, 0, none⟩ = some (.int .i64 s2.1) ∧ w9_.cell? ⟨w.heap.size, 1, none⟩ = some (.slice a2_1 s2.2.length n2_1) := ⟨(blk_cell K_x2.out 0).trans (cell2_0 _ _), (blk_cell K_x2.out 1).trans (cell2_1 _ _), (blk_cell K_p2.out 0).trans (cell2_0 _ _), (blk_cell K_p2.out 1).trans (cell2_1 _ _)⟩))
    | (go_at_call 12
       go_loud (refine (eqPlain_same (tyPlain.ord O_x2.out) (tyPlain.ord O_t2.out) (Nat.le_refl _) (Nat.le_refl _)).mono ?_
                rintro e w10_ ⟨he, hb⟩
                subst he
                replace A2 := Lib.hid (tyPlain.behind A2.out (hb.mono HB.out.size))
                replace O_w0 := Lib.hid ((sliceT 5 u8T).onext O_w0.out hb)
                replace E_w0 : Hid (∀ b, F_w0 b → b < w10_.heap.size) := Lib.hid (fun b h => Nat.lt_of_lt_of_le (E_w0.out b h) hb.size)
                replace O_x2 := Lib.hid (tyPlain.onext O_x2.out hb)
                replace E_x2 : Hid (∀ b, (ival w4_.heap.size w5_.heap.size) b → b < w10_.heap.size) := Lib.hid (fun b h => Nat.lt_of_lt_of_le (E_x2.out b h) hb.size)
                replace O_g0 := Lib.hid ((sliceT 5 u8T).onext O_g0.out hb)
                replace E_g0 : Hid (∀ b, F_g0 b → b < w10_.heap.size) := Lib.hid (fun b h => Nat.lt_of_lt_of_le (E_g0.out b h) hb.size)
                replace O_t2 := Lib.hid (tyPlain.onext O_t2.out hb)
                replace E_t2 : Hid (∀ b, (ival w8_.drew.heap.size w9_.heap.size) b → b < w10_.heap.size) := Lib.hid (fun b h => Nat.lt_of_lt_of_le (E_t2.out b h) hb.size)
                replace K_p2 := Lib.hid ((hb.block _ (lt_of_block K_p2.out)).trans K_p2.out)
                replace K_x2 := Lib.hid ((hb.block _ (lt_of_block K_x2.out)).trans K_x2.out)
                replace HB := Lib.hid (HB.out.trans (hb.mono HB.out.size))
                clear hb
                have d2 : w10_.cell? ⟨w5_.heap.size, 0, none⟩ = some (.int .i64 s2.1) ∧ w10_.cell? ⟨w5_.heap.size, 1, none⟩ = some (.slice ax2_1 s2.2.length nx2_1) ∧ w10_.cell? ⟨w.heap.size, 0, none⟩ = some (.int .i64 s2.1) ∧ w10_.cell? ⟨w.heap.size, 1, none⟩ = some (.slice a2_1 s2.2.length n2_1) := ⟨(blk_cell K_x2.out 0).trans (cell2_0 _ _), (blk_cell K_x2.out 1).trans (cell2_1 _ _), (blk_cell K_p2.out 0).trans (cell2_0 _ _), (blk_cell K_p2.out 1).trans (cell2_1 _ _)⟩))))
  clear d0 d1 d2
  clear O_t2 E_t2 D_t2
  clear X_x2_t2
  clear X_g0_t2
  -- ('set', 'k', '1')
  -- ('mark', 'k', 'Plain', 'x2', 'k')
  have hF7 : tyPlain.vcnt s2 ≤ 1099511627776 := vb_plain B2t.out
  obtain ⟨K7, hK7⟩ : ∃ K : Int, K = 1 + ((tyPlain.vcnt s2 : Nat) : Int) := ⟨_, rfl⟩
  have hB7 : 0 ≤ K7 ∧ K7 ≤ 1099511627786 := by omega
  have G7 := Lib.hid hK7
  clear hK7
  have k_p2_0 := blk_cell K_p2.out 0
  rw [cell2_0] at k_p2_0
  have k_p2_1 := blk_cell K_p2.out 1
  rw [cell2_1] at k_p2_1
  have k_x2_0 := blk_cell K_x2.out 0
  rw [cell2_0] at k_x2_0
  have k_x2_1 := blk_cell K_x2.out 1
  rw [cell2_1] at k_x2_1
  go_wp2_with fail
  clear k_p2_0 k_p2_1 k_x2_0 k_x2_1
  refine (markPlain_any (k0 := 1) O_x2.out E_x2.out (by omega) (by omega)).mono ?_
  rintro e w11_ ⟨he, hO, hk⟩
  rw [← G7.out] at he
  subst he
  have hb := hk.below (B := w.heap.size) D_x2.out HB.out.size
  replace A2 := Lib.hid (tyPlain.behind A2.out hb)
  replace O_w0 := Lib.hid ((sliceT 5 u8T).okept O_w0.out hk X_w0_x2.out)
  replace E_w0 : Hid (∀ b, F_w0 b → b < w11_.heap.size) := Lib.hid (fun b h => Nat.lt_of_lt_of_le (E_w0.out b h) hk.size)
  replace E_x2 : Hid (∀ b, (ival w4_.heap.size w5_.heap.size) b → b < w11_.heap.size) := Lib.hid (fun b h => Nat.lt_of_lt_of_le (E_x2.out b h) hk.size)
  replace O_g0 := Lib.hid ((sliceT 5 u8T).okept O_g0.out hk (fun b h1 h2 => X_x2_g0.out b h2 h1))
  replace E_g0 : Hid (∀ b, F_g0 b → b < w11_.heap.size) := Lib.hid (fun b h => Nat.lt_of_lt_of_le (E_g0.out b h) hk.size)
  replace K_p2 := Lib.hid ((hk.block _ (lt_of_block K_p2.out) N_p2_x2.out).trans K_p2.out)
  replace K_x2 := Lib.hid ((hk.block _ (lt_of_block K_x2.out) N_x2_x2.out).trans K_x2.out)
  replace HB := Lib.hid (HB.out.trans hb)
  replace O_x2 := Lib.hid hO
  clear hO hk hb
  clear O_x2 E_x2 D_x2
  clear X_w0_x2
  clear X_x2_g0
  clear N_p2_x2
  clear N_x2_x2
  clear K_x2
  clear N_x2_g0
  -- ('eq', '[]byte', ('own', 'g0'), ('own', 'w0'))
  have k_p2_0 := blk_cell K_p2.out 0
  rw [cell2_0] at k_p2_0
  have k_p2_1 := blk_cell K_p2.out 1
  rw [cell2_1] at k_p2_1
  go_wp2_with fail
  clear k_p2_0 k_p2_1
  refine (eqByteS_same_t ((sliceT 5 u8T).ord O_g0.out) ((sliceT 5 u8T).ord O_w0.out) (Nat.le_refl _) (Nat.le_refl _)).mono ?_
  rintro e w12_ ⟨he, hb⟩
  subst he
  replace A2 := Lib.hid (tyPlain.behind A2.out (hb.mono HB.out.size))
  replace O_w0 := Lib.hid ((sliceT 5 u8T).onext O_w0.out hb)
  replace E_w0 : Hid (∀ b, F_w0 b → b < w12_.heap.size) := Lib.hid (fun b h => Nat.lt_of_lt_of_le (E_w0.out b h) hb.size)
  replace O_g0 := Lib.hid ((sliceT 5 u8T).onext O_g0.out hb)
  replace E_g0 : Hid (∀ b, F_g0 b → b < w12_.heap.size) := Lib.hid (fun b h => Nat.lt_of_lt_of_le (E_g0.out b h) hb.size)
  replace K_p2 := Lib.hid ((hb.block _ (lt_of_block K_p2.out)).trans K_p2.out)
  replace HB := Lib.hid (HB.out.trans (hb.mono HB.out.size))
  clear hb
  -- ('set', 'm', '1')
  -- ('mark', 'm', '[]byte', 'g0', 'm')
  have hF10 : (sliceT 5 u8T).vcnt Y0 ≤ 1099511627776 := by rw [HY0.out]; exact vb_seal _ _ _ _
  obtain ⟨K10, hK10⟩ : ∃ K : Int, K = 1 + (((sliceT 5 u8T).vcnt Y0 : Nat) : Int) := ⟨_, rfl⟩
  have hB10 : 0 ≤ K10 ∧ K10 ≤ 2199023255562 := by omega
  have G10 := Lib.hid hK10
  clear hK10
  have k_p2_0 := blk_cell K_p2.out 0
  rw [cell2_0] at k_p2_0
  have k_p2_1 := blk_cell K_p2.out 1
  rw [cell2_1] at k_p2_1
  go_wp2_with fail
  clear k_p2_0 k_p2_1
  refine (markByteS_t (k0 := 1) O_g0.out (by omega) (by omega)).mono ?_
  rintro e w13_ ⟨he, hO, hk⟩
  rw [← G10.out] at he
  subst he
  have hb := hk.below (B := w.heap.size) D_g0.out HB.out.size
  replace A2 := Lib.hid (tyPlain.behind A2.out hb)
  replace O_w0 := Lib.hid ((sliceT 5 u8T).okept O_w0.out hk X_w0_g0.out)
  replace E_w0 : Hid (∀ b, F_w0 b → b < w13_.heap.size) := Lib.hid (fun b h => Nat.lt_of_lt_of_le (E_w0.out b h) hk.size)
  replace E_g0 : Hid (∀ b, F_g0 b → b < w13_.heap.size) := Lib.hid (fun b h => Nat.lt_of_lt_of_le (E_g0.out b h) hk.size)
  replace K_p2 := Lib.hid ((hk.block _ (lt_of_block K_p2.out) N_p2_g0.out).trans K_p2.out)
  replace HB := Lib.hid (HB.out.trans hb)
  replace O_g0 := Lib.hid hO
  clear hO hk hb
  -- ('set', 'q', '1')
  -- ('held', 'q', '[]byte', 'g0', 'q')
  have k_p2_0 := blk_cell K_p2.out 0
  rw [cell2_0] at k_p2_0
  have k_p2_1 := blk_cell K_p2.out 1
  rw [cell2_1] at k_p2_1
  go_wp2_with fail
  clear k_p2_0 k_p2_1
  refine (heldByteS_t (x := Y0) (k0 := 1) ((sliceT 5 u8T).ord O_g0.out) (Nat.le_refl _) (by omega) (by omega)).mono ?_
  rintro e w14_ ⟨he, hb⟩
  rw [← G10.out] at he
  subst he
  replace A2 := Lib.hid (tyPlain.behind A2.out (hb.mono HB.out.size))
  replace O_w0 := Lib.hid ((sliceT 5 u8T).onext O_w0.out hb)
  replace E_w0 : Hid (∀ b, F_w0 b → b < w14_.heap.size) := Lib.hid (fun b h => Nat.lt_of_lt_of_le (E_w0.out b h) hb.size)
  replace O_g0 := Lib.hid ((sliceT 5 u8T).onext O_g0.out hb)
  replace E_g0 : Hid (∀ b, F_g0 b → b < w14_.heap.size) := Lib.hid (fun b h => Nat.lt_of_lt_of_le (E_g0.out b h) hb.size)
  replace K_p2 := Lib.hid ((hb.block _ (lt_of_block K_p2.out)).trans K_p2.out)
  replace HB := Lib.hid (HB.out.trans (hb.mono HB.out.size))
  clear hb
  have dd12 : decide (K10 < 0) = false := by simp; omega
  -- ('call', 'impl', 'SealCell', [('arg', 0), ('arg', 1), ('copy', 2, 'Plain')], ['h0', 'h1'])
  have k_p2_0 := blk_cell K_p2.out 0
  rw [cell2_0] at k_p2_0
  have k_p2_1 := blk_cell K_p2.out 1
  rw [cell2_1] at k_p2_1
  go_wp2_with fail
  clear k_p2_0 k_p2_1
  refine (toPlain_any A2.out HB.out.size (Nat.le_trans B2t.out (by decide))).mono ?_
  rintro e w15_ ⟨c_t3, he, hO_t3, hb⟩
  subst he
  have hF_t3 : ∀ b, (ival w14_.heap.size w15_.heap.size) b → w14_.heap.size ≤ b ∧ b < w15_.heap.size := fun b h => h
  obtain ⟨at3_1, nt3_1, _, rfl, _⟩ := own_Plain hO_t3
  have D_t3 : Hid (∀ b, (ival w14_.heap.size w15_.heap.size) b → w.heap.size ≤ b) := Lib.hid (fun b h => Nat.le_trans HB.out.size (hF_t3 b h).1)
  replace A2 := Lib.hid (tyPlain.behind A2.out (hb.mono HB.out.size))
  replace O_w0 := Lib.hid ((sliceT 5 u8T).onext O_w0.out hb)
  replace E_w0 : Hid (∀ b, F_w0 b → b < w15_.heap.size) := Lib.hid (fun b h => Nat.lt_of_lt_of_le (E_w0.out b h) hb.size)
  replace O_g0 := Lib.hid ((sliceT 5 u8T).onext O_g0.out hb)
  replace E_g0 : Hid (∀ b, F_g0 b → b < w15_.heap.size) := Lib.hid (fun b h => Nat.lt_of_lt_of_le (E_g0.out b h) hb.size)
  replace K_p2 := Lib.hid ((hb.block _ (lt_of_block K_p2.out)).trans K_p2.out)
  replace HB := Lib.hid (HB.out.trans (hb.mono HB.out.size))
  clear hb
  have O_t3 := Lib.hid hO_t3
  have E_t3 : Hid (∀ b, (ival w14_.heap.size w15_.heap.size) b → b < w15_.heap.size) := Lib.hid (fun b h => (hF_t3 b h).2)
  clear hO_t3 hF_t3
  have k_p2_0 := blk_cell K_p2.out 0
  rw [cell2_0] at k_p2_0
  have k_p2_1 := blk_cell K_p2.out 1
  rw [cell2_1] at k_p2_1
  go_wp2_with fail
  clear k_p2_0 k_p2_1
  refine (impl_se_t (tyPlain.ord O_t3.out) (Nat.le_refl _) W0.out W1.out).mono ?_
  rintro e w16_ ⟨v_h0, F_h0, he, hO_h0, hF_h0, hb⟩
  replace hO_h0 : (sliceT 5 u8T).own F_h0 w16_ [v_h0] (sealL a0 a1 s2.1 s2.2) := hO_h0
  rw [← HY0.out] at hO_h0
  rw [← HY1.out] at he
  subst he
  have D_h0 : Hid (∀ b, F_h0 b → w.heap.size ≤ b) := Lib.hid (fun b h => Nat.le_trans HB.out.size (hF_h0 b h).1)
  replace A2 := Lib.hid (tyPlain.behind A2.out (hb.mono HB.out.size))
  replace O_w0 := Lib.hid ((sliceT 5 u8T).onext O_w0.out hb)
  replace E_w0 : Hid (∀ b, F_w0 b → b < w16_.heap.size) := Lib.hid (fun b h => Nat.lt_of_lt_of_le (E_w0.out b h) hb.size)
  replace O_g0 := Lib.hid ((sliceT 5 u8T).onext O_g0.out hb)
  replace E_g0 : Hid (∀ b, F_g0 b → b < w16_.heap.size) := Lib.hid (fun b h => Nat.lt_of_lt_of_le (E_g0.out b h) hb.size)
  replace O_t3 := Lib.hid (tyPlain.onext O_t3.out hb)
  replace E_t3 : Hid (∀ b, (ival w14_.heap.size w15_.heap.size) b → b < w16_.heap.size) := Lib.hid (fun b h => Nat.lt_of_lt_of_le (E_t3.out b h) hb.size)
  replace K_p2 := Lib.hid ((hb.block _ (lt_of_block K_p2.out)).trans K_p2.out)
  replace HB := Lib.hid (HB.out.trans (hb.mono HB.out.size))
  clear hb
  have O_h0 := Lib.hid hO_h0
  have E_h0 : Hid (∀ b, F_h0 b → b < w16_.heap.size) := Lib.hid (fun b h => (hF_h0 b h).2)
  clear hO_h0 hF_h0
  clear O_t3 E_t3 D_t3
  clear A2
  clear K_p2
  clear N_p2_g0
  -- ('eq', '[]byte', ('own', 'h0'), ('own', 'w0'))
  go_wp2_with fail
  refine (eqByteS_same_t ((sliceT 5 u8T).ord O_h0.out) ((sliceT 5 u8T).ord O_w0.out) (Nat.le_refl _) (Nat.le_refl _)).mono ?_
  rintro e w17_ ⟨he, hb⟩
  subst he
  replace O_w0 := Lib.hid ((sliceT 5 u8T).onext O_w0.out hb)
  replace E_w0 : Hid (∀ b, F_w0 b → b < w17_.heap.size) := Lib.hid (fun b h => Nat.lt_of_lt_of_le (E_w0.out b h) hb.size)
  replace O_g0 := Lib.hid ((sliceT 5 u8T).onext O_g0.out hb)
  replace E_g0 : Hid (∀ b, F_g0 b → b < w17_.heap.size) := Lib.hid (fun b h => Nat.lt_of_lt_of_le (E_g0.out b h) hb.size)
  replace O_h0 := Lib.hid ((sliceT 5 u8T).onext O_h0.out hb)
  replace E_h0 : Hid (∀ b, F_h0 b → b < w17_.heap.size) := Lib.hid (fun b h => Nat.lt_of_lt_of_le (E_h0.out b h) hb.size)
  replace HB := Lib.hid (HB.out.trans (hb.mono HB.out.size))
  clear hb
  clear O_w0 E_w0 D_w0
  clear X_w0_g0
  clear O_h0 E_h0 D_h0
  -- ('set', 'q', '1')
  -- ('held', 'q', '[]byte', 'g0', 'q')
  go_wp2_with fail
  refine (heldByteS_t (x := Y0) (k0 := 1) ((sliceT 5 u8T).ord O_g0.out) (Nat.le_refl _) (by omega) (by omega)).mono ?_
  rintro e w18_ ⟨he, hb⟩
  rw [← G10.out] at he
  subst he
  replace O_g0 := Lib.hid ((sliceT 5 u8T).onext O_g0.out hb)
  replace E_g0 : Hid (∀ b, F_g0 b → b < w18_.heap.size) := Lib.hid (fun b h => Nat.lt_of_lt_of_le (E_g0.out b h) hb.size)
  replace HB := Lib.hid (HB.out.trans (hb.mono HB.out.size))
  clear hb
  have dd16 : decide (K10 < 0) = false := by simp; omega
  clear O_g0 E_g0 D_g0
  go_wp2_with fail
  go_ret
  exact ⟨rfl, HB.out⟩
  
end Go.Proofs.Ytbimihljaalllaa
