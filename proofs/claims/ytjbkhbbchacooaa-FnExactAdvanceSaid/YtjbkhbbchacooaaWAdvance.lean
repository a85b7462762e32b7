/- FnExactAdvance: the walk. No conditions. -/
import Derived.Test.YtjbkhbbchacooaaRtW
import Derived.Test.YtjbkhbbchacooaaCells
import Derived.Deep.RegionHeld3
import Derived.Deep.DeepCutAuto
namespace Go.Proofs.Ytjbkhbbchacooaa
open Go Go.RowKit
set_option linter.unusedVariables false
attribute [local irreducible] kh

set_option maxHeartbeats 4000000 in
set_option maxRecDepth 100000 in
theorem fnExactAdvance_walk (c0 : List Value) (s0 : VRatchet) (w : World) (w0 : tyRatchet.rd w.heap.size w c0 s0) :
    Calls Try.prog 7 #[.agg c0.toArray] w fun e w' => e = .returned (.bool true) ∧ Below w.heap.size w w' := by
  obtain ⟨a0_2, n0_2, rfl, _⟩ := rd_Ratchet w0
  have A0 := Lib.hid w0
  clear w0
  by_cases bz0 : (tyRatchet.tot s0 : Int) ≤ (1048576 : Int)
  case neg =>
    have C0 := Lib.hid bz0
    clear bz0
    go_enter Try.func7, Try.ntmps7
    have hb := ((Below.refl w.heap.size w).alloc (Nat.le_refl _) (.cells #[.int .i64 s0.1, .int .i64 s0.2.1, .slice a0_2 s0.2.2.length n0_2] 31))
    have K_p0 := Lib.hid (heap_alloc_new w (.cells #[.int .i64 s0.1, .int .i64 s0.2.1, .slice a0_2 s0.2.2.length n0_2] 31))
    replace A0 := Lib.hid (tyRatchet.behind A0.out hb)
    have HB := Lib.hid hb
    clear hb
    have k_p0_0 := blk_cell K_p0.out 0
    rw [cell3_0] at k_p0_0
    have k_p0_1 := blk_cell K_p0.out 1
    rw [cell3_1] at k_p0_1
    have k_p0_2 := blk_cell K_p0.out 2
    rw [cell3_2] at k_p0_2
    go_wp2_with fail
    clear k_p0_0 k_p0_1 k_p0_2
    obtain ⟨w1_, hw⟩ : ∃ x, x = (w.alloc (.cells #[.int .i64 s0.1, .int .i64 s0.2.1, .slice a0_2 s0.2.2.length n0_2] 31)) := ⟨_, rfl⟩
    rw [← hw] at HB A0 K_p0 ⊢
    clear hw
    refine (szRatchet_any A0.out (by omega) (by omega) HB.out.size).mono ?_
    rintro e w2_ ⟨he, hb⟩
    rw [if_neg (by have := C0.out; omega)] at he
    subst he
    replace A0 := Lib.hid (tyRatchet.behind A0.out (hb.mono HB.out.size))
    replace K_p0 := Lib.hid ((hb.block _ (lt_of_block K_p0.out)).trans K_p0.out)
    replace HB := Lib.hid (HB.out.trans (hb.mono HB.out.size))
    clear hb
    have k_p0_0 := blk_cell K_p0.out 0
    rw [cell3_0] at k_p0_0
    have k_p0_1 := blk_cell K_p0.out 1
    rw [cell3_1] at k_p0_1
    have k_p0_2 := blk_cell K_p0.out 2
    rw [cell3_2] at k_p0_2
    go_wp2_with fail
    clear k_p0_0 k_p0_1 k_p0_2
    go_ret
    exact ⟨rfl, HB.out⟩
  have C0 := Lib.hid bz0
  obtain ⟨q0, hq0⟩ : ∃ q : Int, q = (1048576 : Int) - (tyRatchet.tot s0 : Int) := ⟨_, rfl⟩
  have d0q : decide (q0 < 0) = false := by simp; omega
  have e0q : 0 ≤ q0 ∧ q0 ≤ 1048576 := by omega
  have B0t : Hid (tyRatchet.tot s0 ≤ 1048576) := Lib.hid (by omega)
  have H0q := Lib.hid hq0
  clear hq0 bz0
  go_enter Try.func7, Try.ntmps7
  have hb := ((Below.refl w.heap.size w).alloc (Nat.le_refl _) (.cells #[.int .i64 s0.1, .int .i64 s0.2.1, .slice a0_2 s0.2.2.length n0_2] 31))
  have K_p0 := Lib.hid (heap_alloc_new w (.cells #[.int .i64 s0.1, .int .i64 s0.2.1, .slice a0_2 s0.2.2.length n0_2] 31))
  replace A0 := Lib.hid (tyRatchet.behind A0.out hb)
  have HB := Lib.hid hb
  clear hb
  have k_p0_0 := blk_cell K_p0.out 0
  rw [cell3_0] at k_p0_0
  have k_p0_1 := blk_cell K_p0.out 1
  rw [cell3_1] at k_p0_1
  have k_p0_2 := blk_cell K_p0.out 2
  rw [cell3_2] at k_p0_2
  go_wp2_with fail
  clear k_p0_0 k_p0_1 k_p0_2
  obtain ⟨w1_, hw⟩ : ∃ x, x = (w.alloc (.cells #[.int .i64 s0.1, .int .i64 s0.2.1, .slice a0_2 s0.2.2.length n0_2] 31)) := ⟨_, rfl⟩
  rw [← hw] at HB A0 K_p0 ⊢
  clear hw
  refine (szRatchet_any A0.out (by omega) (by omega) HB.out.size).mono ?_
  rintro e w2_ ⟨he, hb⟩
  rw [if_pos (by have := C0.out; omega), ← H0q.out] at he
  subst he
  replace A0 := Lib.hid (tyRatchet.behind A0.out (hb.mono HB.out.size))
  replace K_p0 := Lib.hid ((hb.block _ (lt_of_block K_p0.out)).trans K_p0.out)
  replace HB := Lib.hid (HB.out.trans (hb.mono HB.out.size))
  clear hb
  -- ('sz', 0)
  -- ('call', 'spec', 'Advance', [('copy', 0, 'Ratchet')], ['w0', 'w1', 'w2'])
  have k_p0_0 := blk_cell K_p0.out 0
  rw [cell3_0] at k_p0_0
  have k_p0_1 := blk_cell K_p0.out 1
  rw [cell3_1] at k_p0_1
  have k_p0_2 := blk_cell K_p0.out 2
  rw [cell3_2] at k_p0_2
  go_wp2_with fail
  clear k_p0_0 k_p0_1 k_p0_2
  refine (toRatchet_any A0.out HB.out.size (Nat.le_trans B0t.out (by decide))).mono ?_
  rintro e w3_ ⟨c_t1, he, hO_t1, hb⟩
  subst he
  have hF_t1 : ∀ b, (ival w2_.heap.size w3_.heap.size) b → w2_.heap.size ≤ b ∧ b < w3_.heap.size := fun b h => h
  obtain ⟨at1_2, nt1_2, _, rfl, _⟩ := own_Ratchet hO_t1
  have D_t1 : Hid (∀ b, (ival w2_.heap.size w3_.heap.size) b → w.heap.size ≤ b) := Lib.hid (fun b h => Nat.le_trans HB.out.size (hF_t1 b h).1)
  replace A0 := Lib.hid (tyRatchet.behind A0.out (hb.mono HB.out.size))
  replace K_p0 := Lib.hid ((hb.block _ (lt_of_block K_p0.out)).trans K_p0.out)
  replace HB := Lib.hid (HB.out.trans (hb.mono HB.out.size))
  clear hb
  have O_t1 := Lib.hid hO_t1
  have E_t1 : Hid (∀ b, (ival w2_.heap.size w3_.heap.size) b → b < w3_.heap.size) := Lib.hid (fun b h => (hF_t1 b h).2)
  clear hO_t1 hF_t1
  have k_p0_0 := blk_cell K_p0.out 0
  rw [cell3_0] at k_p0_0
  have k_p0_1 := blk_cell K_p0.out 1
  rw [cell3_1] at k_p0_1
  have k_p0_2 := blk_cell K_p0.out 2
  rw [cell3_2] at k_p0_2
  go_wp2_with fail
  clear k_p0_0 k_p0_1 k_p0_2
  refine (spec_ad_t (tyRatchet.ord O_t1.out) (Nat.le_refl _) B0t.out).mono ?_
  obtain ⟨Y0, hY0⟩ : ∃ y : VRatchet, y = (adC s0.1 s0.2.1 s0.2.2, adS s0.1 s0.2.1 s0.2.2, s0.2.2) := ⟨_, rfl⟩
  obtain ⟨Y1, hY1⟩ : ∃ y : Int, y = adM s0.1 s0.2.1 s0.2.2 := ⟨_, rfl⟩
  obtain ⟨Y2, hY2⟩ : ∃ y : Bool, y = adq s0.1 s0.2.1 s0.2.2 := ⟨_, rfl⟩
  rintro e w4_ ⟨c_w0, F_w0, he, hO_w0, hF_w0, hb⟩
  replace hO_w0 : tyRatchet.own F_w0 w4_ c_w0 ((adC s0.1 s0.2.1 s0.2.2, adS s0.1 s0.2.1 s0.2.2, s0.2.2)) := hO_w0
  rw [← hY0] at hO_w0
  rw [← hY1] at he
  rw [← hY2] at he
  have HY0 := Lib.hid hY0
  clear hY0
  have HY1 := Lib.hid hY1
  clear hY1
  have HY2 := Lib.hid hY2
  clear hY2
  subst he
  obtain ⟨aw0_2, nw0_2, _, rfl, _⟩ := own_Ratchet hO_w0
  have D_w0 : Hid (∀ b, F_w0 b → w.heap.size ≤ b) := Lib.hid (fun b h => Nat.le_trans HB.out.size (hF_w0 b h).1)
  replace A0 := Lib.hid (tyRatchet.behind A0.out (hb.mono HB.out.size))
  replace O_t1 := Lib.hid (tyRatchet.onext O_t1.out hb)
  replace E_t1 : Hid (∀ b, (ival w2_.heap.size w3_.heap.size) b → b < w4_.heap.size) := Lib.hid (fun b h => Nat.lt_of_lt_of_le (E_t1.out b h) hb.size)
  replace K_p0 := Lib.hid ((hb.block _ (lt_of_block K_p0.out)).trans K_p0.out)
  replace HB := Lib.hid (HB.out.trans (hb.mono HB.out.size))
  clear hb
  have O_w0 := Lib.hid hO_w0
  have E_w0 : Hid (∀ b, F_w0 b → b < w4_.heap.size) := Lib.hid (fun b h => (hF_w0 b h).2)
  clear hO_w0 hF_w0
  have hb : Below w4_.heap.size w4_ (w4_.alloc (.cells #[.int .i64 Y0.1, .int .i64 Y0.2.1, .slice aw0_2 Y0.2.2.length nw0_2] 24)) := (Below.refl _ _).alloc (Nat.le_refl _) _
  replace A0 := Lib.hid (tyRatchet.behind A0.out (hb.mono HB.out.size))
  replace O_t1 := Lib.hid (tyRatchet.onext O_t1.out hb)
  replace E_t1 : Hid (∀ b, (ival w2_.heap.size w3_.heap.size) b → b < (w4_.alloc (.cells #[.int .i64 Y0.1, .int .i64 Y0.2.1, .slice aw0_2 Y0.2.2.length nw0_2] 24)).heap.size) := Lib.hid (fun b h => Nat.lt_of_lt_of_le (E_t1.out b h) hb.size)
  replace O_w0 := Lib.hid (tyRatchet.onext O_w0.out hb)
  replace E_w0 : Hid (∀ b, F_w0 b → b < (w4_.alloc (.cells #[.int .i64 Y0.1, .int .i64 Y0.2.1, .slice aw0_2 Y0.2.2.length nw0_2] 24)).heap.size) := Lib.hid (fun b h => Nat.lt_of_lt_of_le (E_w0.out b h) hb.size)
  replace K_p0 := Lib.hid ((hb.block _ (lt_of_block K_p0.out)).trans K_p0.out)
  replace HB := Lib.hid (HB.out.trans (hb.mono HB.out.size))
  clear hb
  have K_w0 := Lib.hid (heap_alloc_new w4_ (.cells #[.int .i64 Y0.1, .int .i64 Y0.2.1, .slice aw0_2 Y0.2.2.length nw0_2] 24))
  have k_p0_0 := blk_cell K_p0.out 0
  rw [cell3_0] at k_p0_0
  have k_p0_1 := blk_cell K_p0.out 1
  rw [cell3_1] at k_p0_1
  have k_p0_2 := blk_cell K_p0.out 2
  rw [cell3_2] at k_p0_2
  have k_w0_0 := blk_cell K_w0.out 0
  rw [cell3_0] at k_w0_0
  have k_w0_1 := blk_cell K_w0.out 1
  rw [cell3_1] at k_w0_1
  have k_w0_2 := blk_cell K_w0.out 2
  rw [cell3_2] at k_w0_2
  go_wp2_with fail
  clear k_p0_0 k_p0_1 k_p0_2 k_w0_0 k_w0_1 k_w0_2
  obtain ⟨w5_, hw⟩ : ∃ x, x = (w4_.alloc (.cells #[.int .i64 Y0.1, .int .i64 Y0.2.1, .slice aw0_2 Y0.2.2.length nw0_2] 24)) := ⟨_, rfl⟩
  rw [← hw] at HB A0 O_t1 E_t1 O_w0 E_w0 K_p0 K_w0 ⊢
  clear hw
  clear O_t1 E_t1 D_t1
  -- ('copy', 'x0', 0, 'Ratchet')
  refine (toRatchet_any A0.out HB.out.size (Nat.le_trans B0t.out (by decide))).mono ?_
  rintro e w6_ ⟨c_x0, he, hO_x0, hb⟩
  subst he
  have hF_x0 : ∀ b, (ival w5_.heap.size w6_.heap.size) b → w5_.heap.size ≤ b ∧ b < w6_.heap.size := fun b h => h
  obtain ⟨ax0_2, nx0_2, _, rfl, _⟩ := own_Ratchet hO_x0
  have X_w0_x0 : Hid (∀ b, F_w0 b → ¬ (ival w5_.heap.size w6_.heap.size) b) := Lib.hid (fun b h1 h2 => by have := E_w0.out b h1; have := (hF_x0 b h2).1; omega)
  have N_p0_x0 : Hid (¬ (ival w5_.heap.size w6_.heap.size) (w.heap.size)) := Lib.hid (fun h => by have := (hF_x0 _ h).1; have := lt_of_block K_p0.out; omega)
  have N_w0_x0 : Hid (¬ (ival w5_.heap.size w6_.heap.size) (w4_.heap.size)) := Lib.hid (fun h => by have := (hF_x0 _ h).1; have := lt_of_block K_w0.out; omega)
  have D_x0 : Hid (∀ b, (ival w5_.heap.size w6_.heap.size) b → w.heap.size ≤ b) := Lib.hid (fun b h => Nat.le_trans HB.out.size (hF_x0 b h).1)
  replace A0 := Lib.hid (tyRatchet.behind A0.out (hb.mono HB.out.size))
  replace O_w0 := Lib.hid (tyRatchet.onext O_w0.out hb)
  replace E_w0 : Hid (∀ b, F_w0 b → b < w6_.heap.size) := Lib.hid (fun b h => Nat.lt_of_lt_of_le (E_w0.out b h) hb.size)
  replace K_p0 := Lib.hid ((hb.block _ (lt_of_block K_p0.out)).trans K_p0.out)
  replace K_w0 := Lib.hid ((hb.block _ (lt_of_block K_w0.out)).trans K_w0.out)
  replace HB := Lib.hid (HB.out.trans (hb.mono HB.out.size))
  clear hb
  have O_x0 := Lib.hid hO_x0
  have E_x0 : Hid (∀ b, (ival w5_.heap.size w6_.heap.size) b → b < w6_.heap.size) := Lib.hid (fun b h => (hF_x0 b h).2)
  clear hO_x0 hF_x0
  have hb : Below w6_.heap.size w6_ (w6_.alloc (.cells #[.int .i64 s0.1, .int .i64 s0.2.1, .slice ax0_2 s0.2.2.length nx0_2] 24)) := (Below.refl _ _).alloc (Nat.le_refl _) _
  have N_x0_x0 : Hid (¬ (ival w5_.heap.size w6_.heap.size) w6_.heap.size) := Lib.hid (fun h => by have := E_x0.out _ h; omega)
  replace A0 := Lib.hid (tyRatchet.behind A0.out (hb.mono HB.out.size))
  replace O_w0 := Lib.hid (tyRatchet.onext O_w0.out hb)
  replace E_w0 : Hid (∀ b, F_w0 b → b < (w6_.alloc (.cells #[.int .i64 s0.1, .int .i64 s0.2.1, .slice ax0_2 s0.2.2.length nx0_2] 24)).heap.size) := Lib.hid (fun b h => Nat.lt_of_lt_of_le (E_w0.out b h) hb.size)
  replace O_x0 := Lib.hid (tyRatchet.onext O_x0.out hb)
  replace E_x0 : Hid (∀ b, (ival w5_.heap.size w6_.heap.size) b → b < (w6_.alloc (.cells #[.int .i64 s0.1, .int .i64 s0.2.1, .slice ax0_2 s0.2.2.length nx0_2] 24)).heap.size) := Lib.hid (fun b h => Nat.lt_of_lt_of_le (E_x0.out b h) hb.size)
  replace K_p0 := Lib.hid ((hb.block _ (lt_of_block K_p0.out)).trans K_p0.out)
  replace K_w0 := Lib.hid ((hb.block _ (lt_of_block K_w0.out)).trans K_w0.out)
  replace HB := Lib.hid (HB.out.trans (hb.mono HB.out.size))
  clear hb
  have K_x0 := Lib.hid (heap_alloc_new w6_ (.cells #[.int .i64 s0.1, .int .i64 s0.2.1, .slice ax0_2 s0.2.2.length nx0_2] 24))
  have k_p0_0 := blk_cell K_p0.out 0
  rw [cell3_0] at k_p0_0
  have k_p0_1 := blk_cell K_p0.out 1
  rw [cell3_1] at k_p0_1
  have k_p0_2 := blk_cell K_p0.out 2
  rw [cell3_2] at k_p0_2
  have k_w0_0 := blk_cell K_w0.out 0
  rw [cell3_0] at k_w0_0
  have k_w0_1 := blk_cell K_w0.out 1
  rw [cell3_1] at k_w0_1
  have k_w0_2 := blk_cell K_w0.out 2
  rw [cell3_2] at k_w0_2
  have k_x0_0 := blk_cell K_x0.out 0
  rw [cell3_0] at k_x0_0
  have k_x0_1 := blk_cell K_x0.out 1
  rw [cell3_1] at k_x0_1
  have k_x0_2 := blk_cell K_x0.out 2
  rw [cell3_2] at k_x0_2
  go_wp2_with fail
  clear k_p0_0 k_p0_1 k_p0_2 k_w0_0 k_w0_1 k_w0_2 k_x0_0 k_x0_1 k_x0_2
  obtain ⟨w7_, hw⟩ : ∃ x, x = w6_.alloc (.cells #[.int .i64 s0.1, .int .i64 s0.2.1, .slice ax0_2 s0.2.2.length nx0_2] 24) := ⟨_, rfl⟩
  rw [← hw] at HB A0 O_w0 E_w0 O_x0 E_x0 K_p0 K_w0 K_x0 ⊢
  clear hw
  -- ('call', 'impl', 'Advance', [('own', 'x0')], ['g0', 'g1', 'g2'])
  refine (impl_ad_t (tyRatchet.ord O_x0.out) (Nat.le_refl _) B0t.out).mono ?_
  rintro e w8_ ⟨c_g0, F_g0, he, hO_g0, hF_g0, hb⟩
  replace hO_g0 : tyRatchet.own F_g0 w8_ c_g0 ((adC s0.1 s0.2.1 s0.2.2, adS s0.1 s0.2.1 s0.2.2, s0.2.2)) := hO_g0
  rw [← HY0.out] at hO_g0
  rw [← HY1.out] at he
  rw [← HY2.out] at he
  subst he
  obtain ⟨ag0_2, ng0_2, _, rfl, _⟩ := own_Ratchet hO_g0
  have X_w0_g0 : Hid (∀ b, F_w0 b → ¬ F_g0 b) := Lib.hid (fun b h1 h2 => by have := E_w0.out b h1; have := (hF_g0 b h2).1; omega)
  have X_x0_g0 : Hid (∀ b, (ival w5_.heap.size w6_.heap.size) b → ¬ F_g0 b) := Lib.hid (fun b h1 h2 => by have := E_x0.out b h1; have := (hF_g0 b h2).1; omega)
  have N_p0_g0 : Hid (¬ F_g0 (w.heap.size)) := Lib.hid (fun h => by have := (hF_g0 _ h).1; have := lt_of_block K_p0.out; omega)
  have N_w0_g0 : Hid (¬ F_g0 (w4_.heap.size)) := Lib.hid (fun h => by have := (hF_g0 _ h).1; have := lt_of_block K_w0.out; omega)
  have N_x0_g0 : Hid (¬ F_g0 (w6_.heap.size)) := Lib.hid (fun h => by have := (hF_g0 _ h).1; have := lt_of_block K_x0.out; omega)
  have D_g0 : Hid (∀ b, F_g0 b → w.heap.size ≤ b) := Lib.hid (fun b h => Nat.le_trans HB.out.size (hF_g0 b h).1)
  replace A0 := Lib.hid (tyRatchet.behind A0.out (hb.mono HB.out.size))
  replace O_w0 := Lib.hid (tyRatchet.onext O_w0.out hb)
  replace E_w0 : Hid (∀ b, F_w0 b → b < w8_.heap.size) := Lib.hid (fun b h => Nat.lt_of_lt_of_le (E_w0.out b h) hb.size)
  replace O_x0 := Lib.hid (tyRatchet.onext O_x0.out hb)
  replace E_x0 : Hid (∀ b, (ival w5_.heap.size w6_.heap.size) b → b < w8_.heap.size) := Lib.hid (fun b h => Nat.lt_of_lt_of_le (E_x0.out b h) hb.size)
  replace K_p0 := Lib.hid ((hb.block _ (lt_of_block K_p0.out)).trans K_p0.out)
  replace K_w0 := Lib.hid ((hb.block _ (lt_of_block K_w0.out)).trans K_w0.out)
  replace K_x0 := Lib.hid ((hb.block _ (lt_of_block K_x0.out)).trans K_x0.out)
  replace HB := Lib.hid (HB.out.trans (hb.mono HB.out.size))
  clear hb
  have O_g0 := Lib.hid hO_g0
  have E_g0 : Hid (∀ b, F_g0 b → b < w8_.heap.size) := Lib.hid (fun b h => (hF_g0 b h).2)
  clear hO_g0 hF_g0
  have N_g0_x0 : Hid (¬ (ival w5_.heap.size w6_.heap.size) (w8_.heap.size)) := Lib.hid (fun h => by have := E_x0.out _ h; omega)
  have N_g0_g0 : Hid (¬ F_g0 (w8_.heap.size)) := Lib.hid (fun h => by have := E_g0.out _ h; omega)
  have hb : Below w8_.heap.size w8_ (w8_.alloc (.cells #[.int .i64 Y0.1, .int .i64 Y0.2.1, .slice ag0_2 Y0.2.2.length ng0_2] 24)) := (Below.refl _ _).alloc (Nat.le_refl _) _
  replace A0 := Lib.hid (tyRatchet.behind A0.out (hb.mono HB.out.size))
  replace O_w0 := Lib.hid (tyRatchet.onext O_w0.out hb)
  replace E_w0 : Hid (∀ b, F_w0 b → b < (w8_.alloc (.cells #[.int .i64 Y0.1, .int .i64 Y0.2.1, .slice ag0_2 Y0.2.2.length ng0_2] 24)).heap.size) := Lib.hid (fun b h => Nat.lt_of_lt_of_le (E_w0.out b h) hb.size)
  replace O_x0 := Lib.hid (tyRatchet.onext O_x0.out hb)
  replace E_x0 : Hid (∀ b, (ival w5_.heap.size w6_.heap.size) b → b < (w8_.alloc (.cells #[.int .i64 Y0.1, .int .i64 Y0.2.1, .slice ag0_2 Y0.2.2.length ng0_2] 24)).heap.size) := Lib.hid (fun b h => Nat.lt_of_lt_of_le (E_x0.out b h) hb.size)
  replace O_g0 := Lib.hid (tyRatchet.onext O_g0.out hb)
  replace E_g0 : Hid (∀ b, F_g0 b → b < (w8_.alloc (.cells #[.int .i64 Y0.1, .int .i64 Y0.2.1, .slice ag0_2 Y0.2.2.length ng0_2] 24)).heap.size) := Lib.hid (fun b h => Nat.lt_of_lt_of_le (E_g0.out b h) hb.size)
  replace K_p0 := Lib.hid ((hb.block _ (lt_of_block K_p0.out)).trans K_p0.out)
  replace K_w0 := Lib.hid ((hb.block _ (lt_of_block K_w0.out)).trans K_w0.out)
  replace K_x0 := Lib.hid ((hb.block _ (lt_of_block K_x0.out)).trans K_x0.out)
  replace HB := Lib.hid (HB.out.trans (hb.mono HB.out.size))
  clear hb
  have K_g0 := Lib.hid (heap_alloc_new w8_ (.cells #[.int .i64 Y0.1, .int .i64 Y0.2.1, .slice ag0_2 Y0.2.2.length ng0_2] 24))
  have k_p0_0 := blk_cell K_p0.out 0
  rw [cell3_0] at k_p0_0
  have k_p0_1 := blk_cell K_p0.out 1
  rw [cell3_1] at k_p0_1
  have k_p0_2 := blk_cell K_p0.out 2
  rw [cell3_2] at k_p0_2
  have k_w0_0 := blk_cell K_w0.out 0
  rw [cell3_0] at k_w0_0
  have k_w0_1 := blk_cell K_w0.out 1
  rw [cell3_1] at k_w0_1
  have k_w0_2 := blk_cell K_w0.out 2
  rw [cell3_2] at k_w0_2
  have k_x0_0 := blk_cell K_x0.out 0
  rw [cell3_0] at k_x0_0
  have k_x0_1 := blk_cell K_x0.out 1
  rw [cell3_1] at k_x0_1
  have k_x0_2 := blk_cell K_x0.out 2
  rw [cell3_2] at k_x0_2
  have k_g0_0 := blk_cell K_g0.out 0
  rw [cell3_0] at k_g0_0
  have k_g0_1 := blk_cell K_g0.out 1
  rw [cell3_1] at k_g0_1
  have k_g0_2 := blk_cell K_g0.out 2
  rw [cell3_2] at k_g0_2
  go_wp2_with fail
  clear k_p0_0 k_p0_1 k_p0_2 k_w0_0 k_w0_1 k_w0_2 k_x0_0 k_x0_1 k_x0_2 k_g0_0 k_g0_1 k_g0_2
  obtain ⟨w9_, hw⟩ : ∃ x, x = (w8_.alloc (.cells #[.int .i64 Y0.1, .int .i64 Y0.2.1, .slice ag0_2 Y0.2.2.length ng0_2] 24)) := ⟨_, rfl⟩
  rw [← hw] at HB A0 O_w0 E_w0 O_x0 E_x0 O_g0 E_g0 K_p0 K_w0 K_x0 K_g0 ⊢
  clear hw
  -- ('eq', 'Ratchet', ('own', 'g0'), ('own', 'w0'))
  refine (eqRatchet_same (tyRatchet.ord O_g0.out) (tyRatchet.ord O_w0.out) (Nat.le_refl _) (Nat.le_refl _)).mono ?_
  rintro e w10_ ⟨he, hb⟩
  subst he
  replace A0 := Lib.hid (tyRatchet.behind A0.out (hb.mono HB.out.size))
  replace O_w0 := Lib.hid (tyRatchet.onext O_w0.out hb)
  replace E_w0 : Hid (∀ b, F_w0 b → b < w10_.heap.size) := Lib.hid (fun b h => Nat.lt_of_lt_of_le (E_w0.out b h) hb.size)
  replace O_x0 := Lib.hid (tyRatchet.onext O_x0.out hb)
  replace E_x0 : Hid (∀ b, (ival w5_.heap.size w6_.heap.size) b → b < w10_.heap.size) := Lib.hid (fun b h => Nat.lt_of_lt_of_le (E_x0.out b h) hb.size)
  replace O_g0 := Lib.hid (tyRatchet.onext O_g0.out hb)
  replace E_g0 : Hid (∀ b, F_g0 b → b < w10_.heap.size) := Lib.hid (fun b h => Nat.lt_of_lt_of_le (E_g0.out b h) hb.size)
  replace K_p0 := Lib.hid ((hb.block _ (lt_of_block K_p0.out)).trans K_p0.out)
  replace K_w0 := Lib.hid ((hb.block _ (lt_of_block K_w0.out)).trans K_w0.out)
  replace K_x0 := Lib.hid ((hb.block _ (lt_of_block K_x0.out)).trans K_x0.out)
  replace K_g0 := Lib.hid ((hb.block _ (lt_of_block K_g0.out)).trans K_g0.out)
  replace HB := Lib.hid (HB.out.trans (hb.mono HB.out.size))
  clear hb
  -- ('eq', 'Ratchet', ('own', 'x0'), ('copy', 0, 'Ratchet'))
  have k_p0_0 := blk_cell K_p0.out 0
  rw [cell3_0] at k_p0_0
  have k_p0_1 := blk_cell K_p0.out 1
  rw [cell3_1] at k_p0_1
  have k_p0_2 := blk_cell K_p0.out 2
  rw [cell3_2] at k_p0_2
  have k_w0_0 := blk_cell K_w0.out 0
  rw [cell3_0] at k_w0_0
  have k_w0_1 := blk_cell K_w0.out 1
  rw [cell3_1] at k_w0_1
  have k_w0_2 := blk_cell K_w0.out 2
  rw [cell3_2] at k_w0_2
  have k_x0_0 := blk_cell K_x0.out 0
  rw [cell3_0] at k_x0_0
  have k_x0_1 := blk_cell K_x0.out 1
  rw [cell3_1] at k_x0_1
  have k_x0_2 := blk_cell K_x0.out 2
  rw [cell3_2] at k_x0_2
  have k_g0_0 := blk_cell K_g0.out 0
  rw [cell3_0] at k_g0_0
  have k_g0_1 := blk_cell K_g0.out 1
  rw [cell3_1] at k_g0_1
  have k_g0_2 := blk_cell K_g0.out 2
  rw [cell3_2] at k_g0_2
  go_wp2_with fail
  clear k_p0_0 k_p0_1 k_p0_2 k_w0_0 k_w0_1 k_w0_2 k_x0_0 k_x0_1 k_x0_2 k_g0_0 k_g0_1 k_g0_2
  have hb : Below w10_.heap.size w10_ w10_.drew := (Below.refl _ _).drew
  replace A0 := Lib.hid (tyRatchet.behind A0.out (hb.mono HB.out.size))
  replace O_w0 := Lib.hid (tyRatchet.onext O_w0.out hb)
  replace E_w0 : Hid (∀ b, F_w0 b → b < w10_.drew.heap.size) := Lib.hid (fun b h => Nat.lt_of_lt_of_le (E_w0.out b h) hb.size)
  replace O_x0 := Lib.hid (tyRatchet.onext O_x0.out hb)
  replace E_x0 : Hid (∀ b, (ival w5_.heap.size w6_.heap.size) b → b < w10_.drew.heap.size) := Lib.hid (fun b h => Nat.lt_of_lt_of_le (E_x0.out b h) hb.size)
  replace O_g0 := Lib.hid (tyRatchet.onext O_g0.out hb)
  replace E_g0 : Hid (∀ b, F_g0 b → b < w10_.drew.heap.size) := Lib.hid (fun b h => Nat.lt_of_lt_of_le (E_g0.out b h) hb.size)
  replace K_p0 := Lib.hid ((hb.block _ (lt_of_block K_p0.out)).trans K_p0.out)
  replace K_w0 := Lib.hid ((hb.block _ (lt_of_block K_w0.out)).trans K_w0.out)
  replace K_x0 := Lib.hid ((hb.block _ (lt_of_block K_x0.out)).trans K_x0.out)
  replace K_g0 := Lib.hid ((hb.block _ (lt_of_block K_g0.out)).trans K_g0.out)
  replace HB := Lib.hid (HB.out.trans (hb.mono HB.out.size))
  clear hb
  have d0 : w10_.drew.cell? ⟨w6_.heap.size, 0, none⟩ = some (.int .i64 s0.1) ∧ w10_.drew.cell? ⟨w6_.heap.size, 1, none⟩ = some (.int .i64 s0.2.1) ∧ w10_.drew.cell? ⟨w6_.heap.size, 2, none⟩ = some (.slice ax0_2 s0.2.2.length nx0_2) ∧ w10_.drew.cell? ⟨w.heap.size, 0, none⟩ = some (.int .i64 s0.1) ∧ w10_.drew.cell? ⟨w.heap.size, 1, none⟩ = some (.int .i64 s0.2.1) ∧ w10_.drew.cell? ⟨w.heap.size, 2, none⟩ = some (.slice a0_2 s0.2.2.length n0_2) := ⟨(blk_cell K_x0.out 0).trans (cell3_0 _ _ _), (blk_cell K_x0.out 1).trans (cell3_1 _ _ _), (blk_cell K_x0.out 2).trans (cell3_2 _ _ _), (blk_cell K_p0.out 0).trans (cell3_0 _ _ _), (blk_cell K_p0.out 1).trans (cell3_1 _ _ _), (blk_cell K_p0.out 2).trans (cell3_2 _ _ _)⟩
  go_region_held3 (fun w' => w'.cell? ⟨w6_.heap.size, 0, none⟩ = some (.int .i64 s0.1) ∧ w'.cell? ⟨w6_.heap.size, 1, none⟩ = some (.int .i64 s0.2.1) ∧ w'.cell? ⟨w6_.heap.size, 2, none⟩ = some (.slice ax0_2 s0.2.2.length nx0_2) ∧ w'.cell? ⟨w.heap.size, 0, none⟩ = some (.int .i64 s0.1) ∧ w'.cell? ⟨w.heap.size, 1, none⟩ = some (.int .i64 s0.2.1) ∧ w'.cell? ⟨w.heap.size, 2, none⟩ = some (.slice a0_2 s0.2.2.length n0_2)) (first | assumption | go_keep) ((first
    | (go_at_call 18
       go_loud (refine (toRatchet_any A0.out HB.out.size (Nat.le_trans B0t.out (by decide))).mono ?_
                rintro e w11_ ⟨c_t2, he, hO_t2, hb⟩
                subst he
                have hF_t2 : ∀ b, (ival w10_.drew.heap.size w11_.heap.size) b → w10_.drew.heap.size ≤ b ∧ b < w11_.heap.size := fun b h => h
                obtain ⟨at2_2, nt2_2, _, rfl, _⟩ := own_Ratchet hO_t2
                have X_x0_t2 : Hid (∀ b, (ival w5_.heap.size w6_.heap.size) b → ¬ (ival w10_.drew.heap.size w11_.heap.size) b) := Lib.hid (fun b h1 h2 => by have := E_x0.out b h1; have := (hF_t2 b h2).1; omega)
                have X_g0_t2 : Hid (∀ b, F_g0 b → ¬ (ival w10_.drew.heap.size w11_.heap.size) b) := Lib.hid (fun b h1 h2 => by have := E_g0.out b h1; have := (hF_t2 b h2).1; omega)
                have D_t2 : Hid (∀ b, (ival w10_.drew.heap.size w11_.heap.size) b → w.heap.size ≤ b) := Lib.hid (fun b h => Nat.le_trans HB.out.size (hF_t2 b h).1)
                replace A0 := Lib.hid (tyRatchet.behind A0.out (hb.mono HB.out.size))
                replace O_w0 := Lib.hid (tyRatchet.onext O_w0.out hb)
                replace E_w0 : Hid (∀ b, F_w0 b → b < w11_.heap.size) := Lib.hid (fun b h => Nat.lt_of_lt_of_le (E_w0.out b h) hb.size)
                replace O_x0 := Lib.hid (tyRatchet.onext O_x0.out hb)
                replace E_x0 : Hid (∀ b, (ival w5_.heap.size w6_.heap.size) b → b < w11_.heap.size) := Lib.hid (fun b h => Nat.lt_of_lt_of_le (E_x0.out b h) hb.size)
                replace O_g0 := Lib.hid (tyRatchet.onext O_g0.out hb)
                replace E_g0 : Hid (∀ b, F_g0 b → b < w11_.heap.size) := Lib.hid (fun b h => Nat.lt_of_lt_of_le (E_g0.out b h) hb.size)
                replace K_p0 := Lib.hid ((hb.block _ (lt_of_block K_p0.out)).trans K_p0.out)
                replace K_w0 := Lib.hid ((hb.block _ (lt_of_block K_w0.out)).trans K_w0.out)
                replace K_x0 := Lib.hid ((hb.block _ (lt_of_block K_x0.out)).trans K_x0.out)
                replace K_g0 := Lib.hid ((hb.block _ (lt_of_block K_g0.out)).trans K_g0.out)
                replace HB := Lib.hid (HB.out.trans (hb.mono HB.out.size))
                clear hb
                have O_t2 := Lib.hid hO_t2
                have E_t2 : Hid (∀ b, (ival w10_.drew.heap.size w11_.heap.size) b → b < w11_.heap.size) := Lib.hid (fun b h => (hF_t2 b h).2)
                clear hO_t2 hF_t2
                have d1 : w11_.cell? ⟨w6_.heap.size, 0, none⟩ = some (.int .i64 s0.1) ∧ w11_.cell? ⟨w6_.heap.size, 1, none⟩ = some (.int .i64 s0.2.1) ∧ w11_.cell? ⟨w6_.heap.size, 2, none⟩ = some (.slice ax0_2 s0.2.2.length nx0_2) ∧ w11_.cell? ⟨w.heap.size, 0, none⟩ = some (.int .i64 s0.1) ∧ w11_.cell? ⟨w.heap.size, 1, none⟩ = some (.int .i64 s0.2.1) ∧ w11_.cell? ⟨w.heap.size, 2, none⟩ = some (.slice a0_2 s0.2.2.length n0_2) := ⟨(blk_cell K_x0.out 0).trans (cell3_0 _ _ _), (blk_cell K_x0.out 1).trans (cell3_1 _ _ _), (blk_cell K_x0.out 2).trans (cell3_2 _ _ _), (blk_cell K_p0.out 0).trans (cell3_0 _ _ _), (blk_cell K_p0.out 1).trans (cell3_1 _ _ _), (blk_cell K_p0.out 2).trans (cell3_2 _ _ _)⟩))
    | (go_at_call 13
       go_loud (refine (eqRatchet_same (tyRatchet.ord O_x0.out) (tyRatchet.ord O_t2.out) (Nat.le_refl _) (Nat.le_refl _)).mono ?_
                rintro e w12_ ⟨he, hb⟩
                subst he
                replace A0 := Lib.hid (tyRatchet.behind A0.out (hb.mono HB.out.size))
                replace O_w0 := Lib.hid (tyRatchet.onext O_w0.out hb)
                replace E_w0 : Hid (∀ b, F_w0 b → b < w12_.heap.size) := Lib.hid (fun b h => Nat.lt_of_lt_of_le (E_w0.out b h) hb.size)
                replace O_x0 := Lib.hid (tyRatchet.onext O_x0.out hb)
                replace E_x0 : Hid (∀ b, (ival w5_.heap.size w6_.heap.size) b → b < w12_.heap.size) := Lib.hid (fun b h => Nat.lt_of_lt_of_le (E_x0.out b h) hb.size)
                replace O_g0 := Lib.hid (tyRatchet.onext O_g0.out hb)
                replace E_g0 : Hid (∀ b, F_g0 b → b < w12_.heap.size) := Lib.hid (fun b h => Nat.lt_of_lt_of_le (E_g0.out b h) hb.size)
                replace O_t2 := Lib.hid (tyRatchet.onext O_t2.out hb)
                replace E_t2 : Hid (∀ b, (ival w10_.drew.heap.size w11_.heap.size) b → b < w12_.heap.size) := Lib.hid (fun b h => Nat.lt_of_lt_of_le (E_t2.out b h) hb.size)
                replace K_p0 := Lib.hid ((hb.block _ (lt_of_block K_p0.out)).trans K_p0.out)
                replace K_w0 := Lib.hid ((hb.block _ (lt_of_block K_w0.out)).trans K_w0.out)
                replace K_x0 := Lib.hid ((hb.block _ (lt_of_block K_x0.out)).trans K_x0.out)
                replace K_g0 := Lib.hid ((hb.block _ (lt_of_block K_g0.out)).trans K_g0.out)
                replace HB := Lib.hid (HB.out.trans (hb.mono HB.out.size))
                clear hb
                have d2 : w12_.cell? ⟨w6_.heap.size, 0, none⟩ = some (.int .i64 s0.1) ∧ w12_.cell? ⟨w6_.heap.size, 1, none⟩ = some (.int .i64 s0.2.1) ∧ w12_.cell? ⟨w6_.heap.size, 2, none⟩ = some (.slice ax0_2 s0.2.2.length nx0_2) ∧ w12_.cell? ⟨w.heap.size, 0, none⟩ = some (.int .i64 s0.1) ∧ w12_.cell? ⟨w.heap.size, 1, none⟩ = some (.int .i64 s0.2.1) ∧ w12_.cell? ⟨w.heap.size, 2, none⟩ = some (.slice a0_2 s0.2.2.length n0_2) := ⟨(blk_cell K_x0.out 0).trans (cell3_0 _ _ _), (blk_cell K_x0.out 1).trans (cell3_1 _ _ _), (blk_cell K_x0.out 2).trans (cell3_2 _ _ _), (blk_cell K_p0.out 0).trans (cell3_0 _ _ _), (blk_cell K_p0.out 1).trans (cell3_1 _ _ _), (blk_cell K_p0.out 2).trans (cell3_2 _ _ _)⟩))))
  clear d0 d1 d2
  clear O_t2 E_t2 D_t2
  clear X_x0_t2
  clear X_g0_t2
  -- ('set', 'k', '1')
  -- ('mark', 'k', 'Ratchet', 'x0', 'k')
  have hF7 : tyRatchet.vcnt s0 ≤ 1099511627776 := vb_rt B0t.out
  obtain ⟨K7, hK7⟩ : ∃ K : Int, K = 1 + ((tyRatchet.vcnt s0 : Nat) : Int) := ⟨_, rfl⟩
  have hB7 : 0 ≤ K7 ∧ K7 ≤ 1099511627786 := by omega
  have G7 := Lib.hid hK7
  clear hK7
  have k_p0_0 := blk_cell K_p0.out 0
  rw [cell3_0] at k_p0_0
  have k_p0_1 := blk_cell K_p0.out 1
  rw [cell3_1] at k_p0_1
  have k_p0_2 := blk_cell K_p0.out 2
  rw [cell3_2] at k_p0_2
  have k_w0_0 := blk_cell K_w0.out 0
  rw [cell3_0] at k_w0_0
  have k_w0_1 := blk_cell K_w0.out 1
  rw [cell3_1] at k_w0_1
  have k_w0_2 := blk_cell K_w0.out 2
  rw [cell3_2] at k_w0_2
  have k_x0_0 := blk_cell K_x0.out 0
  rw [cell3_0] at k_x0_0
  have k_x0_1 := blk_cell K_x0.out 1
  rw [cell3_1] at k_x0_1
  have k_x0_2 := blk_cell K_x0.out 2
  rw [cell3_2] at k_x0_2
  have k_g0_0 := blk_cell K_g0.out 0
  rw [cell3_0] at k_g0_0
  have k_g0_1 := blk_cell K_g0.out 1
  rw [cell3_1] at k_g0_1
  have k_g0_2 := blk_cell K_g0.out 2
  rw [cell3_2] at k_g0_2
  go_wp2_with fail
  clear k_p0_0 k_p0_1 k_p0_2 k_w0_0 k_w0_1 k_w0_2 k_x0_0 k_x0_1 k_x0_2 k_g0_0 k_g0_1 k_g0_2
  refine (markRatchet_any (k0 := 1) O_x0.out E_x0.out (by omega) (by omega)).mono ?_
  rintro e w13_ ⟨he, hO, hk⟩
  rw [← G7.out] at he
  subst he
  have hb := hk.below (B := w.heap.size) D_x0.out HB.out.size
  replace A0 := Lib.hid (tyRatchet.behind A0.out hb)
  replace O_w0 := Lib.hid (tyRatchet.okept O_w0.out hk X_w0_x0.out)
  replace E_w0 : Hid (∀ b, F_w0 b → b < w13_.heap.size) := Lib.hid (fun b h => Nat.lt_of_lt_of_le (E_w0.out b h) hk.size)
  replace E_x0 : Hid (∀ b, (ival w5_.heap.size w6_.heap.size) b → b < w13_.heap.size) := Lib.hid (fun b h => Nat.lt_of_lt_of_le (E_x0.out b h) hk.size)
  replace O_g0 := Lib.hid (tyRatchet.okept O_g0.out hk (fun b h1 h2 => X_x0_g0.out b h2 h1))
  replace E_g0 : Hid (∀ b, F_g0 b → b < w13_.heap.size) := Lib.hid (fun b h => Nat.lt_of_lt_of_le (E_g0.out b h) hk.size)
  replace K_p0 := Lib.hid ((hk.block _ (lt_of_block K_p0.out) N_p0_x0.out).trans K_p0.out)
  replace K_w0 := Lib.hid ((hk.block _ (lt_of_block K_w0.out) N_w0_x0.out).trans K_w0.out)
  replace K_x0 := Lib.hid ((hk.block _ (lt_of_block K_x0.out) N_x0_x0.out).trans K_x0.out)
  replace K_g0 := Lib.hid ((hk.block _ (lt_of_block K_g0.out) N_g0_x0.out).trans K_g0.out)
  replace HB := Lib.hid (HB.out.trans hb)
  replace O_x0 := Lib.hid hO
  clear hO hk hb
  clear O_x0 E_x0 D_x0
  clear X_w0_x0
  clear X_x0_g0
  clear N_p0_x0
  clear N_w0_x0
  clear N_x0_x0
  clear N_g0_x0
  clear K_x0
  clear N_x0_g0
  -- ('eq', 'Ratchet', ('own', 'g0'), ('own', 'w0'))
  have k_p0_0 := blk_cell K_p0.out 0
  rw [cell3_0] at k_p0_0
  have k_p0_1 := blk_cell K_p0.out 1
  rw [cell3_1] at k_p0_1
  have k_p0_2 := blk_cell K_p0.out 2
  rw [cell3_2] at k_p0_2
  have k_w0_0 := blk_cell K_w0.out 0
  rw [cell3_0] at k_w0_0
  have k_w0_1 := blk_cell K_w0.out 1
  rw [cell3_1] at k_w0_1
  have k_w0_2 := blk_cell K_w0.out 2
  rw [cell3_2] at k_w0_2
  have k_g0_0 := blk_cell K_g0.out 0
  rw [cell3_0] at k_g0_0
  have k_g0_1 := blk_cell K_g0.out 1
  rw [cell3_1] at k_g0_1
  have k_g0_2 := blk_cell K_g0.out 2
  rw [cell3_2] at k_g0_2
  go_wp2_with fail
  clear k_p0_0 k_p0_1 k_p0_2 k_w0_0 k_w0_1 k_w0_2 k_g0_0 k_g0_1 k_g0_2
  refine (eqRatchet_same (tyRatchet.ord O_g0.out) (tyRatchet.ord O_w0.out) (Nat.le_refl _) (Nat.le_refl _)).mono ?_
  rintro e w14_ ⟨he, hb⟩
  subst he
  replace A0 := Lib.hid (tyRatchet.behind A0.out (hb.mono HB.out.size))
  replace O_w0 := Lib.hid (tyRatchet.onext O_w0.out hb)
  replace E_w0 : Hid (∀ b, F_w0 b → b < w14_.heap.size) := Lib.hid (fun b h => Nat.lt_of_lt_of_le (E_w0.out b h) hb.size)
  replace O_g0 := Lib.hid (tyRatchet.onext O_g0.out hb)
  replace E_g0 : Hid (∀ b, F_g0 b → b < w14_.heap.size) := Lib.hid (fun b h => Nat.lt_of_lt_of_le (E_g0.out b h) hb.size)
  replace K_p0 := Lib.hid ((hb.block _ (lt_of_block K_p0.out)).trans K_p0.out)
  replace K_w0 := Lib.hid ((hb.block _ (lt_of_block K_w0.out)).trans K_w0.out)
  replace K_g0 := Lib.hid ((hb.block _ (lt_of_block K_g0.out)).trans K_g0.out)
  replace HB := Lib.hid (HB.out.trans (hb.mono HB.out.size))
  clear hb
  -- ('set', 'm', '1')
  -- ('mark', 'm', 'Ratchet', 'g0', 'm')
  have hF10 : tyRatchet.vcnt Y0 ≤ 1099511627776 := by rw [HY0.out]; exact vb_ra B0t.out _ _
  obtain ⟨K10, hK10⟩ : ∃ K : Int, K = 1 + ((tyRatchet.vcnt Y0 : Nat) : Int) := ⟨_, rfl⟩
  have hB10 : 0 ≤ K10 ∧ K10 ≤ 2199023255562 := by omega
  have G10 := Lib.hid hK10
  clear hK10
  have k_p0_0 := blk_cell K_p0.out 0
  rw [cell3_0] at k_p0_0
  have k_p0_1 := blk_cell K_p0.out 1
  rw [cell3_1] at k_p0_1
  have k_p0_2 := blk_cell K_p0.out 2
  rw [cell3_2] at k_p0_2
  have k_w0_0 := blk_cell K_w0.out 0
  rw [cell3_0] at k_w0_0
  have k_w0_1 := blk_cell K_w0.out 1
  rw [cell3_1] at k_w0_1
  have k_w0_2 := blk_cell K_w0.out 2
  rw [cell3_2] at k_w0_2
  have k_g0_0 := blk_cell K_g0.out 0
  rw [cell3_0] at k_g0_0
  have k_g0_1 := blk_cell K_g0.out 1
  rw [cell3_1] at k_g0_1
  have k_g0_2 := blk_cell K_g0.out 2
  rw [cell3_2] at k_g0_2
  go_wp2_with fail
  clear k_p0_0 k_p0_1 k_p0_2 k_w0_0 k_w0_1 k_w0_2 k_g0_0 k_g0_1 k_g0_2
  refine (markRatchet_any (k0 := 1) O_g0.out E_g0.out (by omega) (by omega)).mono ?_
  rintro e w15_ ⟨he, hO, hk⟩
  rw [← G10.out] at he
  subst he
  have hb := hk.below (B := w.heap.size) D_g0.out HB.out.size
  replace A0 := Lib.hid (tyRatchet.behind A0.out hb)
  replace O_w0 := Lib.hid (tyRatchet.okept O_w0.out hk X_w0_g0.out)
  replace E_w0 : Hid (∀ b, F_w0 b → b < w15_.heap.size) := Lib.hid (fun b h => Nat.lt_of_lt_of_le (E_w0.out b h) hk.size)
  replace E_g0 : Hid (∀ b, F_g0 b → b < w15_.heap.size) := Lib.hid (fun b h => Nat.lt_of_lt_of_le (E_g0.out b h) hk.size)
  replace K_p0 := Lib.hid ((hk.block _ (lt_of_block K_p0.out) N_p0_g0.out).trans K_p0.out)
  replace K_w0 := Lib.hid ((hk.block _ (lt_of_block K_w0.out) N_w0_g0.out).trans K_w0.out)
  replace K_g0 := Lib.hid ((hk.block _ (lt_of_block K_g0.out) N_g0_g0.out).trans K_g0.out)
  replace HB := Lib.hid (HB.out.trans hb)
  replace O_g0 := Lib.hid hO
  clear hO hk hb
  -- ('set', 'q', '1')
  -- ('held', 'q', 'Ratchet', 'g0', 'q')
  have k_p0_0 := blk_cell K_p0.out 0
  rw [cell3_0] at k_p0_0
  have k_p0_1 := blk_cell K_p0.out 1
  rw [cell3_1] at k_p0_1
  have k_p0_2 := blk_cell K_p0.out 2
  rw [cell3_2] at k_p0_2
  have k_w0_0 := blk_cell K_w0.out 0
  rw [cell3_0] at k_w0_0
  have k_w0_1 := blk_cell K_w0.out 1
  rw [cell3_1] at k_w0_1
  have k_w0_2 := blk_cell K_w0.out 2
  rw [cell3_2] at k_w0_2
  have k_g0_0 := blk_cell K_g0.out 0
  rw [cell3_0] at k_g0_0
  have k_g0_1 := blk_cell K_g0.out 1
  rw [cell3_1] at k_g0_1
  have k_g0_2 := blk_cell K_g0.out 2
  rw [cell3_2] at k_g0_2
  go_wp2_with fail
  clear k_p0_0 k_p0_1 k_p0_2 k_w0_0 k_w0_1 k_w0_2 k_g0_0 k_g0_1 k_g0_2
  refine (heldRatchet_any (x := Y0) (k0 := 1) (tyRatchet.ord O_g0.out) (Nat.le_refl _) (by omega) (by omega)).mono ?_
  rintro e w16_ ⟨he, hb⟩
  rw [← G10.out] at he
  subst he
  replace A0 := Lib.hid (tyRatchet.behind A0.out (hb.mono HB.out.size))
  replace O_w0 := Lib.hid (tyRatchet.onext O_w0.out hb)
  replace E_w0 : Hid (∀ b, F_w0 b → b < w16_.heap.size) := Lib.hid (fun b h => Nat.lt_of_lt_of_le (E_w0.out b h) hb.size)
  replace O_g0 := Lib.hid (tyRatchet.onext O_g0.out hb)
  replace E_g0 : Hid (∀ b, F_g0 b → b < w16_.heap.size) := Lib.hid (fun b h => Nat.lt_of_lt_of_le (E_g0.out b h) hb.size)
  replace K_p0 := Lib.hid ((hb.block _ (lt_of_block K_p0.out)).trans K_p0.out)
  replace K_w0 := Lib.hid ((hb.block _ (lt_of_block K_w0.out)).trans K_w0.out)
  replace K_g0 := Lib.hid ((hb.block _ (lt_of_block K_g0.out)).trans K_g0.out)
  replace HB := Lib.hid (HB.out.trans (hb.mono HB.out.size))
  clear hb
  have dd12 : decide (K10 < 0) = false := by simp; omega
  -- ('call', 'impl', 'Advance', [('copy', 0, 'Ratchet')], ['h0', 'h1', 'h2'])
  have k_p0_0 := blk_cell K_p0.out 0
  rw [cell3_0] at k_p0_0
  have k_p0_1 := blk_cell K_p0.out 1
  rw [cell3_1] at k_p0_1
  have k_p0_2 := blk_cell K_p0.out 2
  rw [cell3_2] at k_p0_2
  have k_w0_0 := blk_cell K_w0.out 0
  rw [cell3_0] at k_w0_0
  have k_w0_1 := blk_cell K_w0.out 1
  rw [cell3_1] at k_w0_1
  have k_w0_2 := blk_cell K_w0.out 2
  rw [cell3_2] at k_w0_2
  have k_g0_0 := blk_cell K_g0.out 0
  rw [cell3_0] at k_g0_0
  have k_g0_1 := blk_cell K_g0.out 1
  rw [cell3_1] at k_g0_1
  have k_g0_2 := blk_cell K_g0.out 2
  rw [cell3_2] at k_g0_2
  go_wp2_with fail
  clear k_p0_0 k_p0_1 k_p0_2 k_w0_0 k_w0_1 k_w0_2 k_g0_0 k_g0_1 k_g0_2
  refine (toRatchet_any A0.out HB.out.size (Nat.le_trans B0t.out (by decide))).mono ?_
  rintro e w17_ ⟨c_t3, he, hO_t3, hb⟩
  subst he
  have hF_t3 : ∀ b, (ival w16_.heap.size w17_.heap.size) b → w16_.heap.size ≤ b ∧ b < w17_.heap.size := fun b h => h
  obtain ⟨at3_2, nt3_2, _, rfl, _⟩ := own_Ratchet hO_t3
  have D_t3 : Hid (∀ b, (ival w16_.heap.size w17_.heap.size) b → w.heap.size ≤ b) := Lib.hid (fun b h => Nat.le_trans HB.out.size (hF_t3 b h).1)
  replace A0 := Lib.hid (tyRatchet.behind A0.out (hb.mono HB.out.size))
  replace O_w0 := Lib.hid (tyRatchet.onext O_w0.out hb)
  replace E_w0 : Hid (∀ b, F_w0 b → b < w17_.heap.size) := Lib.hid (fun b h => Nat.lt_of_lt_of_le (E_w0.out b h) hb.size)
  replace O_g0 := Lib.hid (tyRatchet.onext O_g0.out hb)
  replace E_g0 : Hid (∀ b, F_g0 b → b < w17_.heap.size) := Lib.hid (fun b h => Nat.lt_of_lt_of_le (E_g0.out b h) hb.size)
  replace K_p0 := Lib.hid ((hb.block _ (lt_of_block K_p0.out)).trans K_p0.out)
  replace K_w0 := Lib.hid ((hb.block _ (lt_of_block K_w0.out)).trans K_w0.out)
  replace K_g0 := Lib.hid ((hb.block _ (lt_of_block K_g0.out)).trans K_g0.out)
  replace HB := Lib.hid (HB.out.trans (hb.mono HB.out.size))
  clear hb
  have O_t3 := Lib.hid hO_t3
  have E_t3 : Hid (∀ b, (ival w16_.heap.size w17_.heap.size) b → b < w17_.heap.size) := Lib.hid (fun b h => (hF_t3 b h).2)
  clear hO_t3 hF_t3
  have k_p0_0 := blk_cell K_p0.out 0
  rw [cell3_0] at k_p0_0
  have k_p0_1 := blk_cell K_p0.out 1
  rw [cell3_1] at k_p0_1
  have k_p0_2 := blk_cell K_p0.out 2
  rw [cell3_2] at k_p0_2
  have k_w0_0 := blk_cell K_w0.out 0
  rw [cell3_0] at k_w0_0
  have k_w0_1 := blk_cell K_w0.out 1
  rw [cell3_1] at k_w0_1
  have k_w0_2 := blk_cell K_w0.out 2
  rw [cell3_2] at k_w0_2
  have k_g0_0 := blk_cell K_g0.out 0
  rw [cell3_0] at k_g0_0
  have k_g0_1 := blk_cell K_g0.out 1
  rw [cell3_1] at k_g0_1
  have k_g0_2 := blk_cell K_g0.out 2
  rw [cell3_2] at k_g0_2
  go_wp2_with fail
  clear k_p0_0 k_p0_1 k_p0_2 k_w0_0 k_w0_1 k_w0_2 k_g0_0 k_g0_1 k_g0_2
  refine (impl_ad_t (tyRatchet.ord O_t3.out) (Nat.le_refl _) B0t.out).mono ?_
  rintro e w18_ ⟨c_h0, F_h0, he, hO_h0, hF_h0, hb⟩
  replace hO_h0 : tyRatchet.own F_h0 w18_ c_h0 ((adC s0.1 s0.2.1 s0.2.2, adS s0.1 s0.2.1 s0.2.2, s0.2.2)) := hO_h0
  rw [← HY0.out] at hO_h0
  rw [← HY1.out] at he
  rw [← HY2.out] at he
  subst he
  obtain ⟨ah0_2, nh0_2, _, rfl, _⟩ := own_Ratchet hO_h0
  have D_h0 : Hid (∀ b, F_h0 b → w.heap.size ≤ b) := Lib.hid (fun b h => Nat.le_trans HB.out.size (hF_h0 b h).1)
  replace A0 := Lib.hid (tyRatchet.behind A0.out (hb.mono HB.out.size))
  replace O_w0 := Lib.hid (tyRatchet.onext O_w0.out hb)
  replace E_w0 : Hid (∀ b, F_w0 b → b < w18_.heap.size) := Lib.hid (fun b h => Nat.lt_of_lt_of_le (E_w0.out b h) hb.size)
  replace O_g0 := Lib.hid (tyRatchet.onext O_g0.out hb)
  replace E_g0 : Hid (∀ b, F_g0 b → b < w18_.heap.size) := Lib.hid (fun b h => Nat.lt_of_lt_of_le (E_g0.out b h) hb.size)
  replace O_t3 := Lib.hid (tyRatchet.onext O_t3.out hb)
  replace E_t3 : Hid (∀ b, (ival w16_.heap.size w17_.heap.size) b → b < w18_.heap.size) := Lib.hid (fun b h => Nat.lt_of_lt_of_le (E_t3.out b h) hb.size)
  replace K_p0 := Lib.hid ((hb.block _ (lt_of_block K_p0.out)).trans K_p0.out)
  replace K_w0 := Lib.hid ((hb.block _ (lt_of_block K_w0.out)).trans K_w0.out)
  replace K_g0 := Lib.hid ((hb.block _ (lt_of_block K_g0.out)).trans K_g0.out)
  replace HB := Lib.hid (HB.out.trans (hb.mono HB.out.size))
  clear hb
  have O_h0 := Lib.hid hO_h0
  have E_h0 : Hid (∀ b, F_h0 b → b < w18_.heap.size) := Lib.hid (fun b h => (hF_h0 b h).2)
  clear hO_h0 hF_h0
  have hb : Below w18_.heap.size w18_ (w18_.alloc (.cells #[.int .i64 Y0.1, .int .i64 Y0.2.1, .slice ah0_2 Y0.2.2.length nh0_2] 24)) := (Below.refl _ _).alloc (Nat.le_refl _) _
  replace A0 := Lib.hid (tyRatchet.behind A0.out (hb.mono HB.out.size))
  replace O_w0 := Lib.hid (tyRatchet.onext O_w0.out hb)
  replace E_w0 : Hid (∀ b, F_w0 b → b < (w18_.alloc (.cells #[.int .i64 Y0.1, .int .i64 Y0.2.1, .slice ah0_2 Y0.2.2.length nh0_2] 24)).heap.size) := Lib.hid (fun b h => Nat.lt_of_lt_of_le (E_w0.out b h) hb.size)
  replace O_g0 := Lib.hid (tyRatchet.onext O_g0.out hb)
  replace E_g0 : Hid (∀ b, F_g0 b → b < (w18_.alloc (.cells #[.int .i64 Y0.1, .int .i64 Y0.2.1, .slice ah0_2 Y0.2.2.length nh0_2] 24)).heap.size) := Lib.hid (fun b h => Nat.lt_of_lt_of_le (E_g0.out b h) hb.size)
  replace O_t3 := Lib.hid (tyRatchet.onext O_t3.out hb)
  replace E_t3 : Hid (∀ b, (ival w16_.heap.size w17_.heap.size) b → b < (w18_.alloc (.cells #[.int .i64 Y0.1, .int .i64 Y0.2.1, .slice ah0_2 Y0.2.2.length nh0_2] 24)).heap.size) := Lib.hid (fun b h => Nat.lt_of_lt_of_le (E_t3.out b h) hb.size)
  replace O_h0 := Lib.hid (tyRatchet.onext O_h0.out hb)
  replace E_h0 : Hid (∀ b, F_h0 b → b < (w18_.alloc (.cells #[.int .i64 Y0.1, .int .i64 Y0.2.1, .slice ah0_2 Y0.2.2.length nh0_2] 24)).heap.size) := Lib.hid (fun b h => Nat.lt_of_lt_of_le (E_h0.out b h) hb.size)
  replace K_p0 := Lib.hid ((hb.block _ (lt_of_block K_p0.out)).trans K_p0.out)
  replace K_w0 := Lib.hid ((hb.block _ (lt_of_block K_w0.out)).trans K_w0.out)
  replace K_g0 := Lib.hid ((hb.block _ (lt_of_block K_g0.out)).trans K_g0.out)
  replace HB := Lib.hid (HB.out.trans (hb.mono HB.out.size))
  clear hb
  have K_h0 := Lib.hid (heap_alloc_new w18_ (.cells #[.int .i64 Y0.1, .int .i64 Y0.2.1, .slice ah0_2 Y0.2.2.length nh0_2] 24))
  have k_p0_0 := blk_cell K_p0.out 0
  rw [cell3_0] at k_p0_0
  have k_p0_1 := blk_cell K_p0.out 1
  rw [cell3_1] at k_p0_1
  have k_p0_2 := blk_cell K_p0.out 2
  rw [cell3_2] at k_p0_2
  have k_w0_0 := blk_cell K_w0.out 0
  rw [cell3_0] at k_w0_0
  have k_w0_1 := blk_cell K_w0.out 1
  rw [cell3_1] at k_w0_1
  have k_w0_2 := blk_cell K_w0.out 2
  rw [cell3_2] at k_w0_2
  have k_g0_0 := blk_cell K_g0.out 0
  rw [cell3_0] at k_g0_0
  have k_g0_1 := blk_cell K_g0.out 1
  rw [cell3_1] at k_g0_1
  have k_g0_2 := blk_cell K_g0.out 2
  rw [cell3_2] at k_g0_2
  have k_h0_0 := blk_cell K_h0.out 0
  rw [cell3_0] at k_h0_0
  have k_h0_1 := blk_cell K_h0.out 1
  rw [cell3_1] at k_h0_1
  have k_h0_2 := blk_cell K_h0.out 2
  rw [cell3_2] at k_h0_2
  go_wp2_with fail
  clear k_p0_0 k_p0_1 k_p0_2 k_w0_0 k_w0_1 k_w0_2 k_g0_0 k_g0_1 k_g0_2 k_h0_0 k_h0_1 k_h0_2
  obtain ⟨w19_, hw⟩ : ∃ x, x = (w18_.alloc (.cells #[.int .i64 Y0.1, .int .i64 Y0.2.1, .slice ah0_2 Y0.2.2.length nh0_2] 24)) := ⟨_, rfl⟩
  rw [← hw] at HB A0 O_w0 E_w0 O_g0 E_g0 O_t3 E_t3 O_h0 E_h0 K_p0 K_w0 K_g0 K_h0 ⊢
  clear hw
  clear O_t3 E_t3 D_t3
  clear A0
  clear K_p0
  clear N_p0_g0
  -- ('eq', 'Ratchet', ('own', 'h0'), ('own', 'w0'))
  refine (eqRatchet_same (tyRatchet.ord O_h0.out) (tyRatchet.ord O_w0.out) (Nat.le_refl _) (Nat.le_refl _)).mono ?_
  rintro e w20_ ⟨he, hb⟩
  subst he
  replace O_w0 := Lib.hid (tyRatchet.onext O_w0.out hb)
  replace E_w0 : Hid (∀ b, F_w0 b → b < w20_.heap.size) := Lib.hid (fun b h => Nat.lt_of_lt_of_le (E_w0.out b h) hb.size)
  replace O_g0 := Lib.hid (tyRatchet.onext O_g0.out hb)
  replace E_g0 : Hid (∀ b, F_g0 b → b < w20_.heap.size) := Lib.hid (fun b h => Nat.lt_of_lt_of_le (E_g0.out b h) hb.size)
  replace O_h0 := Lib.hid (tyRatchet.onext O_h0.out hb)
  replace E_h0 : Hid (∀ b, F_h0 b → b < w20_.heap.size) := Lib.hid (fun b h => Nat.lt_of_lt_of_le (E_h0.out b h) hb.size)
  replace K_w0 := Lib.hid ((hb.block _ (lt_of_block K_w0.out)).trans K_w0.out)
  replace K_g0 := Lib.hid ((hb.block _ (lt_of_block K_g0.out)).trans K_g0.out)
  replace K_h0 := Lib.hid ((hb.block _ (lt_of_block K_h0.out)).trans K_h0.out)
  replace HB := Lib.hid (HB.out.trans (hb.mono HB.out.size))
  clear hb
  clear O_w0 E_w0 D_w0
  clear X_w0_g0
  clear K_w0
  clear N_w0_g0
  clear O_h0 E_h0 D_h0
  clear K_h0
  -- ('set', 'q', '1')
  -- ('held', 'q', 'Ratchet', 'g0', 'q')
  have k_g0_0 := blk_cell K_g0.out 0
  rw [cell3_0] at k_g0_0
  have k_g0_1 := blk_cell K_g0.out 1
  rw [cell3_1] at k_g0_1
  have k_g0_2 := blk_cell K_g0.out 2
  rw [cell3_2] at k_g0_2
  go_wp2_with fail
  clear k_g0_0 k_g0_1 k_g0_2
  refine (heldRatchet_any (x := Y0) (k0 := 1) (tyRatchet.ord O_g0.out) (Nat.le_refl _) (by omega) (by omega)).mono ?_
  rintro e w21_ ⟨he, hb⟩
  rw [← G10.out] at he
  subst he
  replace O_g0 := Lib.hid (tyRatchet.onext O_g0.out hb)
  replace E_g0 : Hid (∀ b, F_g0 b → b < w21_.heap.size) := Lib.hid (fun b h => Nat.lt_of_lt_of_le (E_g0.out b h) hb.size)
  replace K_g0 := Lib.hid ((hb.block _ (lt_of_block K_g0.out)).trans K_g0.out)
  replace HB := Lib.hid (HB.out.trans (hb.mono HB.out.size))
  clear hb
  have dd16 : decide (K10 < 0) = false := by simp; omega
  clear O_g0 E_g0 D_g0
  clear N_g0_g0
  clear K_g0
  go_wp2_with fail
  go_ret
  exact ⟨rfl, HB.out⟩
  
end Go.Proofs.Ytjbkhbbchacooaa
