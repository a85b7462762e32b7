/- FnExactJoinWrites: the walk. No conditions. -/
import Derived.Test.YtdipignajccdcaaWrW
import Derived.Test.YtdipignajccdcaaCells
import Derived.Deep.RegionHeld3
import Derived.Deep.DeepCutAuto
namespace Go.Proofs.Ytdipignajccdcaa
open Go Go.RowKit
set_option linter.unusedVariables false
attribute [local irreducible] kh

set_option maxHeartbeats 4000000 in
set_option maxRecDepth 100000 in
theorem fnExactJoinWrites_walk (v0 : Value) (s0 : List VDatabase) (w : World) (w0 : (sliceT 39 tyDatabase).rd w.heap.size w [v0] s0) :
    Calls Try.prog 5 #[v0] w fun e w' => e = .returned (.bool true) ∧ Below w.heap.size w w' := by
  obtain ⟨av0, cv0, hv0, lv0, mv0, _⟩ := sl_open w0
  have hw0 := (List.cons.inj hv0).1
  clear hv0
  subst hw0
  unfold maxLen at mv0
  have A0 := Lib.hid w0
  clear w0
  by_cases bz0 : ((sliceT 39 tyDatabase).tot s0 : Int) ≤ (1048576 : Int)
  case neg =>
    have C0 := Lib.hid bz0
    clear bz0
    go_enter Try.func5, Try.ntmps5
    have HB := Lib.hid (Below.refl w.heap.size w)
    go_wp2_with fail
    refine (szDatabaseS_any A0.out (by omega) (by omega) HB.out.size).mono ?_
    rintro e w1_ ⟨he, hb⟩
    rw [if_neg (by have := C0.out; omega)] at he
    subst he
    replace A0 := Lib.hid ((sliceT 39 tyDatabase).behind A0.out (hb.mono HB.out.size))
    replace HB := Lib.hid (HB.out.trans (hb.mono HB.out.size))
    clear hb
    go_wp2_with fail
    go_ret
    exact ⟨rfl, HB.out⟩
  have C0 := Lib.hid bz0
  obtain ⟨q0, hq0⟩ : ∃ q : Int, q = (1048576 : Int) - ((sliceT 39 tyDatabase).tot s0 : Int) := ⟨_, rfl⟩
  have d0q : decide (q0 < 0) = false := by simp; omega
  have e0q : 0 ≤ q0 ∧ q0 ≤ 1048576 := by omega
  have B0t : Hid ((sliceT 39 tyDatabase).tot s0 ≤ 1048576) := Lib.hid (by omega)
  have H0q := Lib.hid hq0
  clear hq0 bz0
  go_enter Try.func5, Try.ntmps5
  have HB := Lib.hid (Below.refl w.heap.size w)
  go_wp2_with fail
  refine (szDatabaseS_any A0.out (by omega) (by omega) HB.out.size).mono ?_
  rintro e w1_ ⟨he, hb⟩
  rw [if_pos (by have := C0.out; omega), ← H0q.out] at he
  subst he
  replace A0 := Lib.hid ((sliceT 39 tyDatabase).behind A0.out (hb.mono HB.out.size))
  replace HB := Lib.hid (HB.out.trans (hb.mono HB.out.size))
  clear hb
  -- ('sz', 0)
  -- ('call', 'spec', 'JoinWrites', [('copy', 0, '[]Database')], ['w0', 'w1'])
  go_wp2_with fail
  refine (toDatabaseS_any A0.out HB.out.size (Nat.le_trans B0t.out (by decide))).mono ?_
  rintro e w2_ ⟨v_t1, he, hO_t1, hb⟩
  subst he
  have hF_t1 : ∀ b, (ival w1_.heap.size w2_.heap.size) b → w1_.heap.size ≤ b ∧ b < w2_.heap.size := fun b h => h
  have D_t1 : Hid (∀ b, (ival w1_.heap.size w2_.heap.size) b → w.heap.size ≤ b) := Lib.hid (fun b h => Nat.le_trans HB.out.size (hF_t1 b h).1)
  replace A0 := Lib.hid ((sliceT 39 tyDatabase).behind A0.out (hb.mono HB.out.size))
  replace HB := Lib.hid (HB.out.trans (hb.mono HB.out.size))
  clear hb
  have O_t1 := Lib.hid hO_t1
  have E_t1 : Hid (∀ b, (ival w1_.heap.size w2_.heap.size) b → b < w2_.heap.size) := Lib.hid (fun b h => (hF_t1 b h).2)
  clear hO_t1 hF_t1
  go_wp2_with fail
  refine (spec_jw_t ((sliceT 39 tyDatabase).ord O_t1.out) (Nat.le_refl _) (Nat.le_trans B0t.out (by decide))).mono ?_
  obtain ⟨Y0, hY0⟩ : ∃ y : VDatabase, y = jw s0 := ⟨_, rfl⟩
  obtain ⟨Y1, hY1⟩ : ∃ y : Bool, y = jwK s0 := ⟨_, rfl⟩
  rintro e w3_ ⟨c_w0, F_w0, he, hO_w0, hF_w0, hb⟩
  replace hO_w0 : tyDatabase.own F_w0 w3_ c_w0 (jw s0) := hO_w0
  rw [← hY0] at hO_w0
  rw [← hY1] at he
  have HY0 := Lib.hid hY0
  clear hY0
  have HY1 := Lib.hid hY1
  clear hY1
  subst he
  obtain ⟨aw0_0, nw0_0, _, rfl, _⟩ := own_Database hO_w0
  have D_w0 : Hid (∀ b, F_w0 b → w.heap.size ≤ b) := Lib.hid (fun b h => Nat.le_trans HB.out.size (hF_w0 b h).1)
  replace A0 := Lib.hid ((sliceT 39 tyDatabase).behind A0.out (hb.mono HB.out.size))
  replace O_t1 := Lib.hid ((sliceT 39 tyDatabase).onext O_t1.out hb)
  replace E_t1 : Hid (∀ b, (ival w1_.heap.size w2_.heap.size) b → b < w3_.heap.size) := Lib.hid (fun b h => Nat.lt_of_lt_of_le (E_t1.out b h) hb.size)
  replace HB := Lib.hid (HB.out.trans (hb.mono HB.out.size))
  clear hb
  have O_w0 := Lib.hid hO_w0
  have E_w0 : Hid (∀ b, F_w0 b → b < w3_.heap.size) := Lib.hid (fun b h => (hF_w0 b h).2)
  clear hO_w0 hF_w0
  have hb : Below w3_.heap.size w3_ (w3_.alloc (.cells #[.slice aw0_0 Y0.length nw0_0] 39)) := (Below.refl _ _).alloc (Nat.le_refl _) _
  replace A0 := Lib.hid ((sliceT 39 tyDatabase).behind A0.out (hb.mono HB.out.size))
  replace O_t1 := Lib.hid ((sliceT 39 tyDatabase).onext O_t1.out hb)
  replace E_t1 : Hid (∀ b, (ival w1_.heap.size w2_.heap.size) b → b < (w3_.alloc (.cells #[.slice aw0_0 Y0.length nw0_0] 39)).heap.size) := Lib.hid (fun b h => Nat.lt_of_lt_of_le (E_t1.out b h) hb.size)
  replace O_w0 := Lib.hid (tyDatabase.onext O_w0.out hb)
  replace E_w0 : Hid (∀ b, F_w0 b → b < (w3_.alloc (.cells #[.slice aw0_0 Y0.length nw0_0] 39)).heap.size) := Lib.hid (fun b h => Nat.lt_of_lt_of_le (E_w0.out b h) hb.size)
  replace HB := Lib.hid (HB.out.trans (hb.mono HB.out.size))
  clear hb
  have K_w0 := Lib.hid (heap_alloc_new w3_ (.cells #[.slice aw0_0 Y0.length nw0_0] 39))
  have k_w0_0 := blk_cell K_w0.out 0
  rw [cell1_0] at k_w0_0
  go_wp2_with fail
  clear k_w0_0
  obtain ⟨w4_, hw⟩ : ∃ x, x = (w3_.alloc (.cells #[.slice aw0_0 Y0.length nw0_0] 39)) := ⟨_, rfl⟩
  rw [← hw] at HB A0 O_t1 E_t1 O_w0 E_w0 K_w0 ⊢
  clear hw
  clear O_t1 E_t1 D_t1
  -- ('copy', 'x0', 0, '[]Database')
  refine (toDatabaseS_any A0.out HB.out.size (Nat.le_trans B0t.out (by decide))).mono ?_
  rintro e w5_ ⟨v_x0, he, hO_x0, hb⟩
  subst he
  have hF_x0 : ∀ b, (ival w4_.heap.size w5_.heap.size) b → w4_.heap.size ≤ b ∧ b < w5_.heap.size := fun b h => h
  have X_w0_x0 : Hid (∀ b, F_w0 b → ¬ (ival w4_.heap.size w5_.heap.size) b) := Lib.hid (fun b h1 h2 => by have := E_w0.out b h1; have := (hF_x0 b h2).1; omega)
  have N_w0_x0 : Hid (¬ (ival w4_.heap.size w5_.heap.size) (w3_.heap.size)) := Lib.hid (fun h => by have := (hF_x0 _ h).1; have := lt_of_block K_w0.out; omega)
  have D_x0 : Hid (∀ b, (ival w4_.heap.size w5_.heap.size) b → w.heap.size ≤ b) := Lib.hid (fun b h => Nat.le_trans HB.out.size (hF_x0 b h).1)
  replace A0 := Lib.hid ((sliceT 39 tyDatabase).behind A0.out (hb.mono HB.out.size))
  replace O_w0 := Lib.hid (tyDatabase.onext O_w0.out hb)
  replace E_w0 : Hid (∀ b, F_w0 b → b < w5_.heap.size) := Lib.hid (fun b h => Nat.lt_of_lt_of_le (E_w0.out b h) hb.size)
  replace K_w0 := Lib.hid ((hb.block _ (lt_of_block K_w0.out)).trans K_w0.out)
  replace HB := Lib.hid (HB.out.trans (hb.mono HB.out.size))
  clear hb
  have O_x0 := Lib.hid hO_x0
  have E_x0 : Hid (∀ b, (ival w4_.heap.size w5_.heap.size) b → b < w5_.heap.size) := Lib.hid (fun b h => (hF_x0 b h).2)
  clear hO_x0 hF_x0
  -- ('call', 'impl', 'JoinWrites', [('own', 'x0')], ['g0', 'g1'])
  have k_w0_0 := blk_cell K_w0.out 0
  rw [cell1_0] at k_w0_0
  go_wp2_with fail
  clear k_w0_0
  refine (impl_jw_t ((sliceT 39 tyDatabase).ord O_x0.out) (Nat.le_refl _) (Nat.le_trans B0t.out (by decide))).mono ?_
  rintro e w6_ ⟨c_g0, F_g0, he, hO_g0, hF_g0, hb⟩
  replace hO_g0 : tyDatabase.own F_g0 w6_ c_g0 (jw s0) := hO_g0
  rw [← HY0.out] at hO_g0
  rw [← HY1.out] at he
  subst he
  obtain ⟨ag0_0, ng0_0, _, rfl, _⟩ := own_Database hO_g0
  have X_w0_g0 : Hid (∀ b, F_w0 b → ¬ F_g0 b) := Lib.hid (fun b h1 h2 => by have := E_w0.out b h1; have := (hF_g0 b h2).1; omega)
  have X_x0_g0 : Hid (∀ b, (ival w4_.heap.size w5_.heap.size) b → ¬ F_g0 b) := Lib.hid (fun b h1 h2 => by have := E_x0.out b h1; have := (hF_g0 b h2).1; omega)
  have N_w0_g0 : Hid (¬ F_g0 (w3_.heap.size)) := Lib.hid (fun h => by have := (hF_g0 _ h).1; have := lt_of_block K_w0.out; omega)
  have D_g0 : Hid (∀ b, F_g0 b → w.heap.size ≤ b) := Lib.hid (fun b h => Nat.le_trans HB.out.size (hF_g0 b h).1)
  replace A0 := Lib.hid ((sliceT 39 tyDatabase).behind A0.out (hb.mono HB.out.size))
  replace O_w0 := Lib.hid (tyDatabase.onext O_w0.out hb)
  replace E_w0 : Hid (∀ b, F_w0 b → b < w6_.heap.size) := Lib.hid (fun b h => Nat.lt_of_lt_of_le (E_w0.out b h) hb.size)
  replace O_x0 := Lib.hid ((sliceT 39 tyDatabase).onext O_x0.out hb)
  replace E_x0 : Hid (∀ b, (ival w4_.heap.size w5_.heap.size) b → b < w6_.heap.size) := Lib.hid (fun b h => Nat.lt_of_lt_of_le (E_x0.out b h) hb.size)
  replace K_w0 := Lib.hid ((hb.block _ (lt_of_block K_w0.out)).trans K_w0.out)
  replace HB := Lib.hid (HB.out.trans (hb.mono HB.out.size))
  clear hb
  have O_g0 := Lib.hid hO_g0
  have E_g0 : Hid (∀ b, F_g0 b → b < w6_.heap.size) := Lib.hid (fun b h => (hF_g0 b h).2)
  clear hO_g0 hF_g0
  have N_g0_x0 : Hid (¬ (ival w4_.heap.size w5_.heap.size) (w6_.heap.size)) := Lib.hid (fun h => by have := E_x0.out _ h; omega)
  have N_g0_g0 : Hid (¬ F_g0 (w6_.heap.size)) := Lib.hid (fun h => by have := E_g0.out _ h; omega)
  have hb : Below w6_.heap.size w6_ (w6_.alloc (.cells #[.slice ag0_0 Y0.length ng0_0] 39)) := (Below.refl _ _).alloc (Nat.le_refl _) _
  replace A0 := Lib.hid ((sliceT 39 tyDatabase).behind A0.out (hb.mono HB.out.size))
  replace O_w0 := Lib.hid (tyDatabase.onext O_w0.out hb)
  replace E_w0 : Hid (∀ b, F_w0 b → b < (w6_.alloc (.cells #[.slice ag0_0 Y0.length ng0_0] 39)).heap.size) := Lib.hid (fun b h => Nat.lt_of_lt_of_le (E_w0.out b h) hb.size)
  replace O_x0 := Lib.hid ((sliceT 39 tyDatabase).onext O_x0.out hb)
  replace E_x0 : Hid (∀ b, (ival w4_.heap.size w5_.heap.size) b → b < (w6_.alloc (.cells #[.slice ag0_0 Y0.length ng0_0] 39)).heap.size) := Lib.hid (fun b h => Nat.lt_of_lt_of_le (E_x0.out b h) hb.size)
  replace O_g0 := Lib.hid (tyDatabase.onext O_g0.out hb)
  replace E_g0 : Hid (∀ b, F_g0 b → b < (w6_.alloc (.cells #[.slice ag0_0 Y0.length ng0_0] 39)).heap.size) := Lib.hid (fun b h => Nat.lt_of_lt_of_le (E_g0.out b h) hb.size)
  replace K_w0 := Lib.hid ((hb.block _ (lt_of_block K_w0.out)).trans K_w0.out)
  replace HB := Lib.hid (HB.out.trans (hb.mono HB.out.size))
  clear hb
  have K_g0 := Lib.hid (heap_alloc_new w6_ (.cells #[.slice ag0_0 Y0.length ng0_0] 39))
  have k_w0_0 := blk_cell K_w0.out 0
  rw [cell1_0] at k_w0_0
  have k_g0_0 := blk_cell K_g0.out 0
  rw [cell1_0] at k_g0_0
  go_wp2_with fail
  clear k_w0_0 k_g0_0
  obtain ⟨w7_, hw⟩ : ∃ x, x = (w6_.alloc (.cells #[.slice ag0_0 Y0.length ng0_0] 39)) := ⟨_, rfl⟩
  rw [← hw] at HB A0 O_w0 E_w0 O_x0 E_x0 O_g0 E_g0 K_w0 K_g0 ⊢
  clear hw
  -- ('eq', 'Database', ('own', 'g0'), ('own', 'w0'))
  refine (eqDatabase_same (tyDatabase.ord O_g0.out) (tyDatabase.ord O_w0.out) (Nat.le_refl _) (Nat.le_refl _)).mono ?_
  rintro e w8_ ⟨he, hb⟩
  subst he
  replace A0 := Lib.hid ((sliceT 39 tyDatabase).behind A0.out (hb.mono HB.out.size))
  replace O_w0 := Lib.hid (tyDatabase.onext O_w0.out hb)
  replace E_w0 : Hid (∀ b, F_w0 b → b < w8_.heap.size) := Lib.hid (fun b h => Nat.lt_of_lt_of_le (E_w0.out b h) hb.size)
  replace O_x0 := Lib.hid ((sliceT 39 tyDatabase).onext O_x0.out hb)
  replace E_x0 : Hid (∀ b, (ival w4_.heap.size w5_.heap.size) b → b < w8_.heap.size) := Lib.hid (fun b h => Nat.lt_of_lt_of_le (E_x0.out b h) hb.size)
  replace O_g0 := Lib.hid (tyDatabase.onext O_g0.out hb)
  replace E_g0 : Hid (∀ b, F_g0 b → b < w8_.heap.size) := Lib.hid (fun b h => Nat.lt_of_lt_of_le (E_g0.out b h) hb.size)
  replace K_w0 := Lib.hid ((hb.block _ (lt_of_block K_w0.out)).trans K_w0.out)
  replace K_g0 := Lib.hid ((hb.block _ (lt_of_block K_g0.out)).trans K_g0.out)
  replace HB := Lib.hid (HB.out.trans (hb.mono HB.out.size))
  clear hb
  -- ('eq', '[]Database', ('own', 'x0'), ('copy', 0, '[]Database'))
  have k_w0_0 := blk_cell K_w0.out 0
  rw [cell1_0] at k_w0_0
  have k_g0_0 := blk_cell K_g0.out 0
  rw [cell1_0] at k_g0_0
  go_wp2_with fail
  clear k_w0_0 k_g0_0
  refine (toDatabaseS_any A0.out HB.out.size (Nat.le_trans B0t.out (by decide))).mono ?_
  rintro e w9_ ⟨v_t2, he, hO_t2, hb⟩
  subst he
  have hF_t2 : ∀ b, (ival w8_.heap.size w9_.heap.size) b → w8_.heap.size ≤ b ∧ b < w9_.heap.size := fun b h => h
  have X_x0_t2 : Hid (∀ b, (ival w4_.heap.size w5_.heap.size) b → ¬ (ival w8_.heap.size w9_.heap.size) b) := Lib.hid (fun b h1 h2 => by have := E_x0.out b h1; have := (hF_t2 b h2).1; omega)
  have X_g0_t2 : Hid (∀ b, F_g0 b → ¬ (ival w8_.heap.size w9_.heap.size) b) := Lib.hid (fun b h1 h2 => by have := E_g0.out b h1; have := (hF_t2 b h2).1; omega)
  have D_t2 : Hid (∀ b, (ival w8_.heap.size w9_.heap.size) b → w.heap.size ≤ b) := Lib.hid (fun b h => Nat.le_trans HB.out.size (hF_t2 b h).1)
  replace A0 := Lib.hid ((sliceT 39 tyDatabase).behind A0.out (hb.mono HB.out.size))
  replace O_w0 := Lib.hid (tyDatabase.onext O_w0.out hb)
  replace E_w0 : Hid (∀ b, F_w0 b → b < w9_.heap.size) := Lib.hid (fun b h => Nat.lt_of_lt_of_le (E_w0.out b h) hb.size)
  replace O_x0 := Lib.hid ((sliceT 39 tyDatabase).onext O_x0.out hb)
  replace E_x0 : Hid (∀ b, (ival w4_.heap.size w5_.heap.size) b → b < w9_.heap.size) := Lib.hid (fun b h => Nat.lt_of_lt_of_le (E_x0.out b h) hb.size)
  replace O_g0 := Lib.hid (tyDatabase.onext O_g0.out hb)
  replace E_g0 : Hid (∀ b, F_g0 b → b < w9_.heap.size) := Lib.hid (fun b h => Nat.lt_of_lt_of_le (E_g0.out b h) hb.size)
  replace K_w0 := Lib.hid ((hb.block _ (lt_of_block K_w0.out)).trans K_w0.out)
  replace K_g0 := Lib.hid ((hb.block _ (lt_of_block K_g0.out)).trans K_g0.out)
  replace HB := Lib.hid (HB.out.trans (hb.mono HB.out.size))
  clear hb
  have O_t2 := Lib.hid hO_t2
  have E_t2 : Hid (∀ b, (ival w8_.heap.size w9_.heap.size) b → b < w9_.heap.size) := Lib.hid (fun b h => (hF_t2 b h).2)
  clear hO_t2 hF_t2
  have k_w0_0 := blk_cell K_w0.out 0
  rw [cell1_0] at k_w0_0
  have k_g0_0 := blk_cell K_g0.out 0
  rw [cell1_0] at k_g0_0
  go_wp2_with fail
  clear k_w0_0 k_g0_0
  refine (eqDatabaseS_same ((sliceT 39 tyDatabase).ord O_x0.out) ((sliceT 39 tyDatabase).ord O_t2.out) (Nat.le_refl _) (Nat.le_refl _)).mono ?_
  rintro e w10_ ⟨he, hb⟩
  subst he
  replace A0 := Lib.hid ((sliceT 39 tyDatabase).behind A0.out (hb.mono HB.out.size))
  replace O_w0 := Lib.hid (tyDatabase.onext O_w0.out hb)
  replace E_w0 : Hid (∀ b, F_w0 b → b < w10_.heap.size) := Lib.hid (fun b h => Nat.lt_of_lt_of_le (E_w0.out b h) hb.size)
  replace O_x0 := Lib.hid ((sliceT 39 tyDatabase).onext O_x0.out hb)
  replace E_x0 : Hid (∀ b, (ival w4_.heap.size w5_.heap.size) b → b < w10_.heap.size) := Lib.hid (fun b h => Nat.lt_of_lt_of_le (E_x0.out b h) hb.size)
  replace O_g0 := Lib.hid (tyDatabase.onext O_g0.out hb)
  replace E_g0 : Hid (∀ b, F_g0 b → b < w10_.heap.size) := Lib.hid (fun b h => Nat.lt_of_lt_of_le (E_g0.out b h) hb.size)
  replace O_t2 := Lib.hid ((sliceT 39 tyDatabase).onext O_t2.out hb)
  replace E_t2 : Hid (∀ b, (ival w8_.heap.size w9_.heap.size) b → b < w10_.heap.size) := Lib.hid (fun b h => Nat.lt_of_lt_of_le (E_t2.out b h) hb.size)
  replace K_w0 := Lib.hid ((hb.block _ (lt_of_block K_w0.out)).trans K_w0.out)
  replace K_g0 := Lib.hid ((hb.block _ (lt_of_block K_g0.out)).trans K_g0.out)
  replace HB := Lib.hid (HB.out.trans (hb.mono HB.out.size))
  clear hb
  clear O_t2 E_t2 D_t2
  clear X_x0_t2
  clear X_g0_t2
  -- ('set', 'k', '1')
  -- ('mark', 'k', '[]Database', 'x0', 'k')
  have hF7 : (sliceT 39 tyDatabase).vcnt s0 ≤ 1099511627776 := vb_dbs B0t.out
  obtain ⟨K7, hK7⟩ : ∃ K : Int, K = 1 + (((sliceT 39 tyDatabase).vcnt s0 : Nat) : Int) := ⟨_, rfl⟩
  have hB7 : 0 ≤ K7 ∧ K7 ≤ 1099511627786 := by omega
  have G7 := Lib.hid hK7
  clear hK7
  have k_w0_0 := blk_cell K_w0.out 0
  rw [cell1_0] at k_w0_0
  have k_g0_0 := blk_cell K_g0.out 0
  rw [cell1_0] at k_g0_0
  go_wp2_with fail
  clear k_w0_0 k_g0_0
  refine (markDatabaseS_any (k0 := 1) O_x0.out (by omega) (by omega)).mono ?_
  rintro e w11_ ⟨he, hO, hk⟩
  rw [← G7.out] at he
  subst he
  have hb := hk.below (B := w.heap.size) D_x0.out HB.out.size
  replace A0 := Lib.hid ((sliceT 39 tyDatabase).behind A0.out hb)
  replace O_w0 := Lib.hid (tyDatabase.okept O_w0.out hk X_w0_x0.out)
  replace E_w0 : Hid (∀ b, F_w0 b → b < w11_.heap.size) := Lib.hid (fun b h => Nat.lt_of_lt_of_le (E_w0.out b h) hk.size)
  replace E_x0 : Hid (∀ b, (ival w4_.heap.size w5_.heap.size) b → b < w11_.heap.size) := Lib.hid (fun b h => Nat.lt_of_lt_of_le (E_x0.out b h) hk.size)
  replace O_g0 := Lib.hid (tyDatabase.okept O_g0.out hk (fun b h1 h2 => X_x0_g0.out b h2 h1))
  replace E_g0 : Hid (∀ b, F_g0 b → b < w11_.heap.size) := Lib.hid (fun b h => Nat.lt_of_lt_of_le (E_g0.out b h) hk.size)
  replace K_w0 := Lib.hid ((hk.block _ (lt_of_block K_w0.out) N_w0_x0.out).trans K_w0.out)
  replace K_g0 := Lib.hid ((hk.block _ (lt_of_block K_g0.out) N_g0_x0.out).trans K_g0.out)
  replace HB := Lib.hid (HB.out.trans hb)
  replace O_x0 := Lib.hid hO
  clear hO hk hb
  clear O_x0 E_x0 D_x0
  clear X_w0_x0
  clear X_x0_g0
  clear N_w0_x0
  clear N_g0_x0
  -- ('eq', 'Database', ('own', 'g0'), ('own', 'w0'))
  have k_w0_0 := blk_cell K_w0.out 0
  rw [cell1_0] at k_w0_0
  have k_g0_0 := blk_cell K_g0.out 0
  rw [cell1_0] at k_g0_0
  go_wp2_with fail
  clear k_w0_0 k_g0_0
  refine (eqDatabase_same (tyDatabase.ord O_g0.out) (tyDatabase.ord O_w0.out) (Nat.le_refl _) (Nat.le_refl _)).mono ?_
  rintro e w12_ ⟨he, hb⟩
  subst he
  replace A0 := Lib.hid ((sliceT 39 tyDatabase).behind A0.out (hb.mono HB.out.size))
  replace O_w0 := Lib.hid (tyDatabase.onext O_w0.out hb)
  replace E_w0 : Hid (∀ b, F_w0 b → b < w12_.heap.size) := Lib.hid (fun b h => Nat.lt_of_lt_of_le (E_w0.out b h) hb.size)
  replace O_g0 := Lib.hid (tyDatabase.onext O_g0.out hb)
  replace E_g0 : Hid (∀ b, F_g0 b → b < w12_.heap.size) := Lib.hid (fun b h => Nat.lt_of_lt_of_le (E_g0.out b h) hb.size)
  replace K_w0 := Lib.hid ((hb.block _ (lt_of_block K_w0.out)).trans K_w0.out)
  replace K_g0 := Lib.hid ((hb.block _ (lt_of_block K_g0.out)).trans K_g0.out)
  replace HB := Lib.hid (HB.out.trans (hb.mono HB.out.size))
  clear hb
  -- ('set', 'm', '1')
  -- ('mark', 'm', 'Database', 'g0', 'm')
  have hF10 : tyDatabase.vcnt Y0 ≤ 1099511627776 := by rw [HY0.out]; exact vb_jw _
  obtain ⟨K10, hK10⟩ : ∃ K : Int, K = 1 + ((tyDatabase.vcnt Y0 : Nat) : Int) := ⟨_, rfl⟩
  have hB10 : 0 ≤ K10 ∧ K10 ≤ 2199023255562 := by omega
  have G10 := Lib.hid hK10
  clear hK10
  have k_w0_0 := blk_cell K_w0.out 0
  rw [cell1_0] at k_w0_0
  have k_g0_0 := blk_cell K_g0.out 0
  rw [cell1_0] at k_g0_0
  go_wp2_with fail
  clear k_w0_0 k_g0_0
  refine (markDatabase_any (k0 := 1) O_g0.out E_g0.out (by omega) (by omega)).mono ?_
  rintro e w13_ ⟨he, hO, hk⟩
  rw [← G10.out] at he
  subst he
  have hb := hk.below (B := w.heap.size) D_g0.out HB.out.size
  replace A0 := Lib.hid ((sliceT 39 tyDatabase).behind A0.out hb)
  replace O_w0 := Lib.hid (tyDatabase.okept O_w0.out hk X_w0_g0.out)
  replace E_w0 : Hid (∀ b, F_w0 b → b < w13_.heap.size) := Lib.hid (fun b h => Nat.lt_of_lt_of_le (E_w0.out b h) hk.size)
  replace E_g0 : Hid (∀ b, F_g0 b → b < w13_.heap.size) := Lib.hid (fun b h => Nat.lt_of_lt_of_le (E_g0.out b h) hk.size)
  replace K_w0 := Lib.hid ((hk.block _ (lt_of_block K_w0.out) N_w0_g0.out).trans K_w0.out)
  replace K_g0 := Lib.hid ((hk.block _ (lt_of_block K_g0.out) N_g0_g0.out).trans K_g0.out)
  replace HB := Lib.hid (HB.out.trans hb)
  replace O_g0 := Lib.hid hO
  clear hO hk hb
  -- ('set', 'q', '1')
  -- ('held', 'q', 'Database', 'g0', 'q')
  have k_w0_0 := blk_cell K_w0.out 0
  rw [cell1_0] at k_w0_0
  have k_g0_0 := blk_cell K_g0.out 0
  rw [cell1_0] at k_g0_0
  go_wp2_with fail
  clear k_w0_0 k_g0_0
  refine (heldDatabase_any (x := Y0) (k0 := 1) (tyDatabase.ord O_g0.out) (Nat.le_refl _) (by omega) (by omega)).mono ?_
  rintro e w14_ ⟨he, hb⟩
  rw [← G10.out] at he
  subst he
  replace A0 := Lib.hid ((sliceT 39 tyDatabase).behind A0.out (hb.mono HB.out.size))
  replace O_w0 := Lib.hid (tyDatabase.onext O_w0.out hb)
  replace E_w0 : Hid (∀ b, F_w0 b → b < w14_.heap.size) := Lib.hid (fun b h => Nat.lt_of_lt_of_le (E_w0.out b h) hb.size)
  replace O_g0 := Lib.hid (tyDatabase.onext O_g0.out hb)
  replace E_g0 : Hid (∀ b, F_g0 b → b < w14_.heap.size) := Lib.hid (fun b h => Nat.lt_of_lt_of_le (E_g0.out b h) hb.size)
  replace K_w0 := Lib.hid ((hb.block _ (lt_of_block K_w0.out)).trans K_w0.out)
  replace K_g0 := Lib.hid ((hb.block _ (lt_of_block K_g0.out)).trans K_g0.out)
  replace HB := Lib.hid (HB.out.trans (hb.mono HB.out.size))
  clear hb
  have dd12 : decide (K10 < 0) = false := by simp; omega
  -- ('call', 'impl', 'JoinWrites', [('copy', 0, '[]Database')], ['h0', 'h1'])
  have k_w0_0 := blk_cell K_w0.out 0
  rw [cell1_0] at k_w0_0
  have k_g0_0 := blk_cell K_g0.out 0
  rw [cell1_0] at k_g0_0
  go_wp2_with fail
  clear k_w0_0 k_g0_0
  refine (toDatabaseS_any A0.out HB.out.size (Nat.le_trans B0t.out (by decide))).mono ?_
  rintro e w15_ ⟨v_t3, he, hO_t3, hb⟩
  subst he
  have hF_t3 : ∀ b, (ival w14_.heap.size w15_.heap.size) b → w14_.heap.size ≤ b ∧ b < w15_.heap.size := fun b h => h
  have D_t3 : Hid (∀ b, (ival w14_.heap.size w15_.heap.size) b → w.heap.size ≤ b) := Lib.hid (fun b h => Nat.le_trans HB.out.size (hF_t3 b h).1)
  replace A0 := Lib.hid ((sliceT 39 tyDatabase).behind A0.out (hb.mono HB.out.size))
  replace O_w0 := Lib.hid (tyDatabase.onext O_w0.out hb)
  replace E_w0 : Hid (∀ b, F_w0 b → b < w15_.heap.size) := Lib.hid (fun b h => Nat.lt_of_lt_of_le (E_w0.out b h) hb.size)
  replace O_g0 := Lib.hid (tyDatabase.onext O_g0.out hb)
  replace E_g0 : Hid (∀ b, F_g0 b → b < w15_.heap.size) := Lib.hid (fun b h => Nat.lt_of_lt_of_le (E_g0.out b h) hb.size)
  replace K_w0 := Lib.hid ((hb.block _ (lt_of_block K_w0.out)).trans K_w0.out)
  replace K_g0 := Lib.hid ((hb.block _ (lt_of_block K_g0.out)).trans K_g0.out)
  replace HB := Lib.hid (HB.out.trans (hb.mono HB.out.size))
  clear hb
  have O_t3 := Lib.hid hO_t3
  have E_t3 : Hid (∀ b, (ival w14_.heap.size w15_.heap.size) b → b < w15_.heap.size) := Lib.hid (fun b h => (hF_t3 b h).2)
  clear hO_t3 hF_t3
  have k_w0_0 := blk_cell K_w0.out 0
  rw [cell1_0] at k_w0_0
  have k_g0_0 := blk_cell K_g0.out 0
  rw [cell1_0] at k_g0_0
  go_wp2_with fail
  clear k_w0_0 k_g0_0
  refine (impl_jw_t ((sliceT 39 tyDatabase).ord O_t3.out) (Nat.le_refl _) (Nat.le_trans B0t.out (by decide))).mono ?_
  rintro e w16_ ⟨c_h0, F_h0, he, hO_h0, hF_h0, hb⟩
  replace hO_h0 : tyDatabase.own F_h0 w16_ c_h0 (jw s0) := hO_h0
  rw [← HY0.out] at hO_h0
  rw [← HY1.out] at he
  subst he
  obtain ⟨ah0_0, nh0_0, _, rfl, _⟩ := own_Database hO_h0
  have D_h0 : Hid (∀ b, F_h0 b → w.heap.size ≤ b) := Lib.hid (fun b h => Nat.le_trans HB.out.size (hF_h0 b h).1)
  replace A0 := Lib.hid ((sliceT 39 tyDatabase).behind A0.out (hb.mono HB.out.size))
  replace O_w0 := Lib.hid (tyDatabase.onext O_w0.out hb)
  replace E_w0 : Hid (∀ b, F_w0 b → b < w16_.heap.size) := Lib.hid (fun b h => Nat.lt_of_lt_of_le (E_w0.out b h) hb.size)
  replace O_g0 := Lib.hid (tyDatabase.onext O_g0.out hb)
  replace E_g0 : Hid (∀ b, F_g0 b → b < w16_.heap.size) := Lib.hid (fun b h => Nat.lt_of_lt_of_le (E_g0.out b h) hb.size)
  replace O_t3 := Lib.hid ((sliceT 39 tyDatabase).onext O_t3.out hb)
  replace E_t3 : Hid (∀ b, (ival w14_.heap.size w15_.heap.size) b → b < w16_.heap.size) := Lib.hid (fun b h => Nat.lt_of_lt_of_le (E_t3.out b h) hb.size)
  replace K_w0 := Lib.hid ((hb.block _ (lt_of_block K_w0.out)).trans K_w0.out)
  replace K_g0 := Lib.hid ((hb.block _ (lt_of_block K_g0.out)).trans K_g0.out)
  replace HB := Lib.hid (HB.out.trans (hb.mono HB.out.size))
  clear hb
  have O_h0 := Lib.hid hO_h0
  have E_h0 : Hid (∀ b, F_h0 b → b < w16_.heap.size) := Lib.hid (fun b h => (hF_h0 b h).2)
  clear hO_h0 hF_h0
  have hb : Below w16_.heap.size w16_ (w16_.alloc (.cells #[.slice ah0_0 Y0.length nh0_0] 39)) := (Below.refl _ _).alloc (Nat.le_refl _) _
  replace A0 := Lib.hid ((sliceT 39 tyDatabase).behind A0.out (hb.mono HB.out.size))
  replace O_w0 := Lib.hid (tyDatabase.onext O_w0.out hb)
  replace E_w0 : Hid (∀ b, F_w0 b → b < (w16_.alloc (.cells #[.slice ah0_0 Y0.length nh0_0] 39)).heap.size) := Lib.hid (fun b h => Nat.lt_of_lt_of_le (E_w0.out b h) hb.size)
  replace O_g0 := Lib.hid (tyDatabase.onext O_g0.out hb)
  replace E_g0 : Hid (∀ b, F_g0 b → b < (w16_.alloc (.cells #[.slice ah0_0 Y0.length nh0_0] 39)).heap.size) := Lib.hid (fun b h => Nat.lt_of_lt_of_le (E_g0.out b h) hb.size)
  replace O_t3 := Lib.hid ((sliceT 39 tyDatabase).onext O_t3.out hb)
  replace E_t3 : Hid (∀ b, (ival w14_.heap.size w15_.heap.size) b → b < (w16_.alloc (.cells #[.slice ah0_0 Y0.length nh0_0] 39)).heap.size) := Lib.hid (fun b h => Nat.lt_of_lt_of_le (E_t3.out b h) hb.size)
  replace O_h0 := Lib.hid (tyDatabase.onext O_h0.out hb)
  replace E_h0 : Hid (∀ b, F_h0 b → b < (w16_.alloc (.cells #[.slice ah0_0 Y0.length nh0_0] 39)).heap.size) := Lib.hid (fun b h => Nat.lt_of_lt_of_le (E_h0.out b h) hb.size)
  replace K_w0 := Lib.hid ((hb.block _ (lt_of_block K_w0.out)).trans K_w0.out)
  replace K_g0 := Lib.hid ((hb.block _ (lt_of_block K_g0.out)).trans K_g0.out)
  replace HB := Lib.hid (HB.out.trans (hb.mono HB.out.size))
  clear hb
  have K_h0 := Lib.hid (heap_alloc_new w16_ (.cells #[.slice ah0_0 Y0.length nh0_0] 39))
  have k_w0_0 := blk_cell K_w0.out 0
  rw [cell1_0] at k_w0_0
  have k_g0_0 := blk_cell K_g0.out 0
  rw [cell1_0] at k_g0_0
  have k_h0_0 := blk_cell K_h0.out 0
  rw [cell1_0] at k_h0_0
  go_wp2_with fail
  clear k_w0_0 k_g0_0 k_h0_0
  obtain ⟨w17_, hw⟩ : ∃ x, x = (w16_.alloc (.cells #[.slice ah0_0 Y0.length nh0_0] 39)) := ⟨_, rfl⟩
  rw [← hw] at HB A0 O_w0 E_w0 O_g0 E_g0 O_t3 E_t3 O_h0 E_h0 K_w0 K_g0 K_h0 ⊢
  clear hw
  clear O_t3 E_t3 D_t3
  clear A0
  -- ('eq', 'Database', ('own', 'h0'), ('own', 'w0'))
  refine (eqDatabase_same (tyDatabase.ord O_h0.out) (tyDatabase.ord O_w0.out) (Nat.le_refl _) (Nat.le_refl _)).mono ?_
  rintro e w18_ ⟨he, hb⟩
  subst he
  replace O_w0 := Lib.hid (tyDatabase.onext O_w0.out hb)
  replace E_w0 : Hid (∀ b, F_w0 b → b < w18_.heap.size) := Lib.hid (fun b h => Nat.lt_of_lt_of_le (E_w0.out b h) hb.size)
  replace O_g0 := Lib.hid (tyDatabase.onext O_g0.out hb)
  replace E_g0 : Hid (∀ b, F_g0 b → b < w18_.heap.size) := Lib.hid (fun b h => Nat.lt_of_lt_of_le (E_g0.out b h) hb.size)
  replace O_h0 := Lib.hid (tyDatabase.onext O_h0.out hb)
  replace E_h0 : Hid (∀ b, F_h0 b → b < w18_.heap.size) := Lib.hid (fun b h => Nat.lt_of_lt_of_le (E_h0.out b h) hb.size)
  replace K_w0 := Lib.hid ((hb.block _ (lt_of_block K_w0.out)).trans K_w0.out)
  replace K_g0 := Lib.hid ((hb.block _ (lt_of_block K_g0.out)).trans K_g0.out)
  replace K_h0 := Lib.hid ((hb.block _ (lt_of_block K_h0.out)).trans K_h0.out)
  replace HB := Lib.hid (HB.out.trans (hb.mono HB.out.size))
  clear hb
  clear O_w0 E_w0 D_w0
  clear X_w0_g0
  clear K_w0
  clear N_w0_g0
  clear O_h0 E_h0 D_h0
  clear K_h0
  -- ('set', 'q', '1')
  -- ('held', 'q', 'Database', 'g0', 'q')
  have k_g0_0 := blk_cell K_g0.out 0
  rw [cell1_0] at k_g0_0
  go_wp2_with fail
  clear k_g0_0
  refine (heldDatabase_any (x := Y0) (k0 := 1) (tyDatabase.ord O_g0.out) (Nat.le_refl _) (by omega) (by omega)).mono ?_
  rintro e w19_ ⟨he, hb⟩
  rw [← G10.out] at he
  subst he
  replace O_g0 := Lib.hid (tyDatabase.onext O_g0.out hb)
  replace E_g0 : Hid (∀ b, F_g0 b → b < w19_.heap.size) := Lib.hid (fun b h => Nat.lt_of_lt_of_le (E_g0.out b h) hb.size)
  replace K_g0 := Lib.hid ((hb.block _ (lt_of_block K_g0.out)).trans K_g0.out)
  replace HB := Lib.hid (HB.out.trans (hb.mono HB.out.size))
  clear hb
  have dd16 : decide (K10 < 0) = false := by simp; omega
  clear O_g0 E_g0 D_g0
  clear N_g0_g0
  clear K_g0
  go_wp2_with fail
  go_ret
  exact ⟨rfl, HB.out⟩
  
end Go.Proofs.Ytdipignajccdcaa
