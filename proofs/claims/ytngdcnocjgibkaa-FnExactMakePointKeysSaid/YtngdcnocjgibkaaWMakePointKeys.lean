/- FnExactMakePointKeys: the walk. No conditions. -/
import Derived.Test.YtngdcnocjgibkaaPkW
import Derived.Test.YtngdcnocjgibkaaCells
import Derived.Deep.RegionHeld3
import Derived.Deep.DeepCutAuto
namespace Go.Proofs.Ytngdcnocjgibkaa
open Go Go.RowKit
set_option linter.unusedVariables false
attribute [local irreducible] kh

set_option maxHeartbeats 4000000 in
set_option maxRecDepth 100000 in
theorem fnExactMakePointKeys_walk (a0 : Int) (a1 : Int) (a2 : Int) (a3 : Int) (w : World) (w0 : (Lit.int .i64 a0).wf = true) (w1 : (Lit.int .i64 a1).wf = true) (w2 : (Lit.int .i64 a2).wf = true) (w3 : (Lit.int .i64 a3).wf = true) :
    Calls Try.prog 6 #[.int .i64 a0, .int .i64 a1, .int .i64 a2, .int .i64 a3] w fun e w' => e = .returned (.bool true) ∧ Below w.heap.size w w' := by
  have W0 := Lib.hid w0
  have w0b := wf_i64 w0
  clear w0
  have W1 := Lib.hid w1
  have w1b := wf_i64 w1
  clear w1
  have W2 := Lib.hid w2
  have w2b := wf_i64 w2
  clear w2
  have W3 := Lib.hid w3
  have w3b := wf_i64 w3
  clear w3
  go_enter Try.func6, Try.ntmps6
  have HB := Lib.hid (Below.refl w.heap.size w)
  -- ('call', 'spec', 'MakePointKeys', [('arg', 0), ('arg', 1), ('arg', 2), ('arg', 3)], ['w0', 'w1', 'w2'])
  go_wp2_with fail
  refine (spec_mk_t W0.out W1.out W2.out W3.out).mono ?_
  obtain ⟨Y0, hY0⟩ : ∃ y : VPointKey, y = (prt a0 a1 a2 a3 a2, 0, pcs a0 a1 a2 a3) := ⟨_, rfl⟩
  obtain ⟨Y1, hY1⟩ : ∃ y : VPointKey, y = (prt a0 a1 a2 a3 a3, prt a0 a1 a2 a3 1, pcs a0 a1 a2 a3) := ⟨_, rfl⟩
  obtain ⟨Y2, hY2⟩ : ∃ y : Bool, y = pkOk a0 a1 a2 a3 := ⟨_, rfl⟩
  rintro e w1_ ⟨c_w0, c_w1, F_w0, F_w1, he, hO_w0, hO_w1, hF_w0, hF_w1, hX_w0_w1, hb⟩
  replace hO_w0 : tyPointKey.own F_w0 w1_ c_w0 ((prt a0 a1 a2 a3 a2, 0, pcs a0 a1 a2 a3)) := hO_w0
  replace hO_w1 : tyPointKey.own F_w1 w1_ c_w1 ((prt a0 a1 a2 a3 a3, prt a0 a1 a2 a3 1, pcs a0 a1 a2 a3)) := hO_w1
  rw [← hY0] at hO_w0
  rw [← hY1] at hO_w1
  rw [← hY2] at he
  have HY0 := Lib.hid hY0
  clear hY0
  have HY1 := Lib.hid hY1
  clear hY1
  have HY2 := Lib.hid hY2
  clear hY2
  subst he
  obtain ⟨aw0_2, nw0_2, _, rfl, _⟩ := own_PointKey hO_w0
  obtain ⟨aw1_2, nw1_2, _, rfl, _⟩ := own_PointKey hO_w1
  clear hX_w0_w1
  have D_w0 : Hid (∀ b, F_w0 b → w.heap.size ≤ b) := Lib.hid (fun b h => Nat.le_trans HB.out.size (hF_w0 b h).1)
  have D_w1 : Hid (∀ b, F_w1 b → w.heap.size ≤ b) := Lib.hid (fun b h => Nat.le_trans HB.out.size (hF_w1 b h).1)
  replace HB := Lib.hid (HB.out.trans (hb.mono HB.out.size))
  clear hb
  have O_w0 := Lib.hid hO_w0
  have E_w0 : Hid (∀ b, F_w0 b → b < w1_.heap.size) := Lib.hid (fun b h => (hF_w0 b h).2)
  clear hO_w0 hF_w0
  have O_w1 := Lib.hid hO_w1
  have E_w1 : Hid (∀ b, F_w1 b → b < w1_.heap.size) := Lib.hid (fun b h => (hF_w1 b h).2)
  clear hO_w1 hF_w1
  have hb : Below w1_.heap.size w1_ (w1_.alloc (.cells #[.int .i64 Y0.1, .int .i64 Y0.2.1, .slice aw0_2 Y0.2.2.length nw0_2] 27)) := (Below.refl _ _).alloc (Nat.le_refl _) _
  replace O_w0 := Lib.hid (tyPointKey.onext O_w0.out hb)
  replace E_w0 : Hid (∀ b, F_w0 b → b < (w1_.alloc (.cells #[.int .i64 Y0.1, .int .i64 Y0.2.1, .slice aw0_2 Y0.2.2.length nw0_2] 27)).heap.size) := Lib.hid (fun b h => Nat.lt_of_lt_of_le (E_w0.out b h) hb.size)
  replace O_w1 := Lib.hid (tyPointKey.onext O_w1.out hb)
  replace E_w1 : Hid (∀ b, F_w1 b → b < (w1_.alloc (.cells #[.int .i64 Y0.1, .int .i64 Y0.2.1, .slice aw0_2 Y0.2.2.length nw0_2] 27)).heap.size) := Lib.hid (fun b h => Nat.lt_of_lt_of_le (E_w1.out b h) hb.size)
  replace HB := Lib.hid (HB.out.trans (hb.mono HB.out.size))
  clear hb
  have K_w0 := Lib.hid (heap_alloc_new w1_ (.cells #[.int .i64 Y0.1, .int .i64 Y0.2.1, .slice aw0_2 Y0.2.2.length nw0_2] 27))
  have hb : Below (w1_.alloc (.cells #[.int .i64 Y0.1, .int .i64 Y0.2.1, .slice aw0_2 Y0.2.2.length nw0_2] 27)).heap.size (w1_.alloc (.cells #[.int .i64 Y0.1, .int .i64 Y0.2.1, .slice aw0_2 Y0.2.2.length nw0_2] 27)) ((w1_.alloc (.cells #[.int .i64 Y0.1, .int .i64 Y0.2.1, .slice aw0_2 Y0.2.2.length nw0_2] 27)).alloc (.cells #[.int .i64 Y1.1, .int .i64 Y1.2.1, .slice aw1_2 Y1.2.2.length nw1_2] 27)) := (Below.refl _ _).alloc (Nat.le_refl _) _
  replace O_w0 := Lib.hid (tyPointKey.onext O_w0.out hb)
  replace E_w0 : Hid (∀ b, F_w0 b → b < ((w1_.alloc (.cells #[.int .i64 Y0.1, .int .i64 Y0.2.1, .slice aw0_2 Y0.2.2.length nw0_2] 27)).alloc (.cells #[.int .i64 Y1.1, .int .i64 Y1.2.1, .slice aw1_2 Y1.2.2.length nw1_2] 27)).heap.size) := Lib.hid (fun b h => Nat.lt_of_lt_of_le (E_w0.out b h) hb.size)
  replace O_w1 := Lib.hid (tyPointKey.onext O_w1.out hb)
  replace E_w1 : Hid (∀ b, F_w1 b → b < ((w1_.alloc (.cells #[.int .i64 Y0.1, .int .i64 Y0.2.1, .slice aw0_2 Y0.2.2.length nw0_2] 27)).alloc (.cells #[.int .i64 Y1.1, .int .i64 Y1.2.1, .slice aw1_2 Y1.2.2.length nw1_2] 27)).heap.size) := Lib.hid (fun b h => Nat.lt_of_lt_of_le (E_w1.out b h) hb.size)
  replace K_w0 := Lib.hid ((hb.block _ (lt_of_block K_w0.out)).trans K_w0.out)
  replace HB := Lib.hid (HB.out.trans (hb.mono HB.out.size))
  clear hb
  have K_w1 := Lib.hid (heap_alloc_new (w1_.alloc (.cells #[.int .i64 Y0.1, .int .i64 Y0.2.1, .slice aw0_2 Y0.2.2.length nw0_2] 27)) (.cells #[.int .i64 Y1.1, .int .i64 Y1.2.1, .slice aw1_2 Y1.2.2.length nw1_2] 27))
  have k_w0_0 := blk_cell K_w0.out 0
  rw [cell3_0] at k_w0_0
  have k_w0_1 := blk_cell K_w0.out 1
  rw [cell3_1] at k_w0_1
  have k_w0_2 := blk_cell K_w0.out 2
  rw [cell3_2] at k_w0_2
  have k_w1_0 := blk_cell K_w1.out 0
  rw [cell3_0] at k_w1_0
  have k_w1_1 := blk_cell K_w1.out 1
  rw [cell3_1] at k_w1_1
  have k_w1_2 := blk_cell K_w1.out 2
  rw [cell3_2] at k_w1_2
  go_wp2_with fail
  clear k_w0_0 k_w0_1 k_w0_2 k_w1_0 k_w1_1 k_w1_2
  obtain ⟨w2_, hw⟩ : ∃ x, x = ((w1_.alloc (.cells #[.int .i64 Y0.1, .int .i64 Y0.2.1, .slice aw0_2 Y0.2.2.length nw0_2] 27)).alloc (.cells #[.int .i64 Y1.1, .int .i64 Y1.2.1, .slice aw1_2 Y1.2.2.length nw1_2] 27)) := ⟨_, rfl⟩
  rw [← hw] at HB  O_w0 E_w0 O_w1 E_w1 K_w0 K_w1 ⊢
  clear hw
  simp only [World.size_alloc] at K_w1
  -- ('call', 'impl', 'MakePointKeys', [('arg', 0), ('arg', 1), ('arg', 2), ('arg', 3)], ['g0', 'g1', 'g2'])
  refine (impl_mk_t W0.out W1.out W2.out W3.out).mono ?_
  rintro e w3_ ⟨c_g0, c_g1, F_g0, F_g1, he, hO_g0, hO_g1, hF_g0, hF_g1, hX_g0_g1, hb⟩
  replace hO_g0 : tyPointKey.own F_g0 w3_ c_g0 ((prt a0 a1 a2 a3 a2, 0, pcs a0 a1 a2 a3)) := hO_g0
  replace hO_g1 : tyPointKey.own F_g1 w3_ c_g1 ((prt a0 a1 a2 a3 a3, prt a0 a1 a2 a3 1, pcs a0 a1 a2 a3)) := hO_g1
  rw [← HY0.out] at hO_g0
  rw [← HY1.out] at hO_g1
  rw [← HY2.out] at he
  subst he
  obtain ⟨ag0_2, ng0_2, _, rfl, _⟩ := own_PointKey hO_g0
  obtain ⟨ag1_2, ng1_2, _, rfl, _⟩ := own_PointKey hO_g1
  have X_w0_g0 : Hid (∀ b, F_w0 b → ¬ F_g0 b) := Lib.hid (fun b h1 h2 => by have := E_w0.out b h1; have := (hF_g0 b h2).1; omega)
  have X_w1_g0 : Hid (∀ b, F_w1 b → ¬ F_g0 b) := Lib.hid (fun b h1 h2 => by have := E_w1.out b h1; have := (hF_g0 b h2).1; omega)
  have N_w0_g0 : Hid (¬ F_g0 (w1_.heap.size)) := Lib.hid (fun h => by have := (hF_g0 _ h).1; have := lt_of_block K_w0.out; omega)
  have N_w1_g0 : Hid (¬ F_g0 (w1_.heap.size + 1)) := Lib.hid (fun h => by have := (hF_g0 _ h).1; have := lt_of_block K_w1.out; omega)
  have X_w0_g1 : Hid (∀ b, F_w0 b → ¬ F_g1 b) := Lib.hid (fun b h1 h2 => by have := E_w0.out b h1; have := (hF_g1 b h2).1; omega)
  have X_w1_g1 : Hid (∀ b, F_w1 b → ¬ F_g1 b) := Lib.hid (fun b h1 h2 => by have := E_w1.out b h1; have := (hF_g1 b h2).1; omega)
  have N_w0_g1 : Hid (¬ F_g1 (w1_.heap.size)) := Lib.hid (fun h => by have := (hF_g1 _ h).1; have := lt_of_block K_w0.out; omega)
  have N_w1_g1 : Hid (¬ F_g1 (w1_.heap.size + 1)) := Lib.hid (fun h => by have := (hF_g1 _ h).1; have := lt_of_block K_w1.out; omega)
  have X_g0_g1 := Lib.hid hX_g0_g1
  clear hX_g0_g1
  have D_g0 : Hid (∀ b, F_g0 b → w.heap.size ≤ b) := Lib.hid (fun b h => Nat.le_trans HB.out.size (hF_g0 b h).1)
  have D_g1 : Hid (∀ b, F_g1 b → w.heap.size ≤ b) := Lib.hid (fun b h => Nat.le_trans HB.out.size (hF_g1 b h).1)
  replace O_w0 := Lib.hid (tyPointKey.onext O_w0.out hb)
  replace E_w0 : Hid (∀ b, F_w0 b → b < w3_.heap.size) := Lib.hid (fun b h => Nat.lt_of_lt_of_le (E_w0.out b h) hb.size)
  replace O_w1 := Lib.hid (tyPointKey.onext O_w1.out hb)
  replace E_w1 : Hid (∀ b, F_w1 b → b < w3_.heap.size) := Lib.hid (fun b h => Nat.lt_of_lt_of_le (E_w1.out b h) hb.size)
  replace K_w0 := Lib.hid ((hb.block _ (lt_of_block K_w0.out)).trans K_w0.out)
  replace K_w1 := Lib.hid ((hb.block _ (lt_of_block K_w1.out)).trans K_w1.out)
  replace HB := Lib.hid (HB.out.trans (hb.mono HB.out.size))
  clear hb
  have O_g0 := Lib.hid hO_g0
  have E_g0 : Hid (∀ b, F_g0 b → b < w3_.heap.size) := Lib.hid (fun b h => (hF_g0 b h).2)
  clear hO_g0 hF_g0
  have O_g1 := Lib.hid hO_g1
  have E_g1 : Hid (∀ b, F_g1 b → b < w3_.heap.size) := Lib.hid (fun b h => (hF_g1 b h).2)
  clear hO_g1 hF_g1
  have N_g0_g0 : Hid (¬ F_g0 (w3_.heap.size)) := Lib.hid (fun h => by have := E_g0.out _ h; omega)
  have N_g0_g1 : Hid (¬ F_g1 (w3_.heap.size)) := Lib.hid (fun h => by have := E_g1.out _ h; omega)
  have N_g1_g0 : Hid (¬ F_g0 (w3_.heap.size + 1)) := Lib.hid (fun h => by have := E_g0.out _ h; omega)
  have N_g1_g1 : Hid (¬ F_g1 (w3_.heap.size + 1)) := Lib.hid (fun h => by have := E_g1.out _ h; omega)
  have hb : Below w3_.heap.size w3_ (w3_.alloc (.cells #[.int .i64 Y0.1, .int .i64 Y0.2.1, .slice ag0_2 Y0.2.2.length ng0_2] 27)) := (Below.refl _ _).alloc (Nat.le_refl _) _
  replace O_w0 := Lib.hid (tyPointKey.onext O_w0.out hb)
  replace E_w0 : Hid (∀ b, F_w0 b → b < (w3_.alloc (.cells #[.int .i64 Y0.1, .int .i64 Y0.2.1, .slice ag0_2 Y0.2.2.length ng0_2] 27)).heap.size) := Lib.hid (fun b h => Nat.lt_of_lt_of_le (E_w0.out b h) hb.size)
  replace O_w1 := Lib.hid (tyPointKey.onext O_w1.out hb)
  replace E_w1 : Hid (∀ b, F_w1 b → b < (w3_.alloc (.cells #[.int .i64 Y0.1, .int .i64 Y0.2.1, .slice ag0_2 Y0.2.2.length ng0_2] 27)).heap.size) := Lib.hid (fun b h => Nat.lt_of_lt_of_le (E_w1.out b h) hb.size)
  replace O_g0 := Lib.hid (tyPointKey.onext O_g0.out hb)
  replace E_g0 : Hid (∀ b, F_g0 b → b < (w3_.alloc (.cells #[.int .i64 Y0.1, .int .i64 Y0.2.1, .slice ag0_2 Y0.2.2.length ng0_2] 27)).heap.size) := Lib.hid (fun b h => Nat.lt_of_lt_of_le (E_g0.out b h) hb.size)
  replace O_g1 := Lib.hid (tyPointKey.onext O_g1.out hb)
  replace E_g1 : Hid (∀ b, F_g1 b → b < (w3_.alloc (.cells #[.int .i64 Y0.1, .int .i64 Y0.2.1, .slice ag0_2 Y0.2.2.length ng0_2] 27)).heap.size) := Lib.hid (fun b h => Nat.lt_of_lt_of_le (E_g1.out b h) hb.size)
  replace K_w0 := Lib.hid ((hb.block _ (lt_of_block K_w0.out)).trans K_w0.out)
  replace K_w1 := Lib.hid ((hb.block _ (lt_of_block K_w1.out)).trans K_w1.out)
  replace HB := Lib.hid (HB.out.trans (hb.mono HB.out.size))
  clear hb
  have K_g0 := Lib.hid (heap_alloc_new w3_ (.cells #[.int .i64 Y0.1, .int .i64 Y0.2.1, .slice ag0_2 Y0.2.2.length ng0_2] 27))
  have hb : Below (w3_.alloc (.cells #[.int .i64 Y0.1, .int .i64 Y0.2.1, .slice ag0_2 Y0.2.2.length ng0_2] 27)).heap.size (w3_.alloc (.cells #[.int .i64 Y0.1, .int .i64 Y0.2.1, .slice ag0_2 Y0.2.2.length ng0_2] 27)) ((w3_.alloc (.cells #[.int .i64 Y0.1, .int .i64 Y0.2.1, .slice ag0_2 Y0.2.2.length ng0_2] 27)).alloc (.cells #[.int .i64 Y1.1, .int .i64 Y1.2.1, .slice ag1_2 Y1.2.2.length ng1_2] 27)) := (Below.refl _ _).alloc (Nat.le_refl _) _
  replace O_w0 := Lib.hid (tyPointKey.onext O_w0.out hb)
  replace E_w0 : Hid (∀ b, F_w0 b → b < ((w3_.alloc (.cells #[.int .i64 Y0.1, .int .i64 Y0.2.1, .slice ag0_2 Y0.2.2.length ng0_2] 27)).alloc (.cells #[.int .i64 Y1.1, .int .i64 Y1.2.1, .slice ag1_2 Y1.2.2.length ng1_2] 27)).heap.size) := Lib.hid (fun b h => Nat.lt_of_lt_of_le (E_w0.out b h) hb.size)
  replace O_w1 := Lib.hid (tyPointKey.onext O_w1.out hb)
  replace E_w1 : Hid (∀ b, F_w1 b → b < ((w3_.alloc (.cells #[.int .i64 Y0.1, .int .i64 Y0.2.1, .slice ag0_2 Y0.2.2.length ng0_2] 27)).alloc (.cells #[.int .i64 Y1.1, .int .i64 Y1.2.1, .slice ag1_2 Y1.2.2.length ng1_2] 27)).heap.size) := Lib.hid (fun b h => Nat.lt_of_lt_of_le (E_w1.out b h) hb.size)
  replace O_g0 := Lib.hid (tyPointKey.onext O_g0.out hb)
  replace E_g0 : Hid (∀ b, F_g0 b → b < ((w3_.alloc (.cells #[.int .i64 Y0.1, .int .i64 Y0.2.1, .slice ag0_2 Y0.2.2.length ng0_2] 27)).alloc (.cells #[.int .i64 Y1.1, .int .i64 Y1.2.1, .slice ag1_2 Y1.2.2.length ng1_2] 27)).heap.size) := Lib.hid (fun b h => Nat.lt_of_lt_of_le (E_g0.out b h) hb.size)
  replace O_g1 := Lib.hid (tyPointKey.onext O_g1.out hb)
  replace E_g1 : Hid (∀ b, F_g1 b → b < ((w3_.alloc (.cells #[.int .i64 Y0.1, .int .i64 Y0.2.1, .slice ag0_2 Y0.2.2.length ng0_2] 27)).alloc (.cells #[.int .i64 Y1.1, .int .i64 Y1.2.1, .slice ag1_2 Y1.2.2.length ng1_2] 27)).heap.size) := Lib.hid (fun b h => Nat.lt_of_lt_of_le (E_g1.out b h) hb.size)
  replace K_w0 := Lib.hid ((hb.block _ (lt_of_block K_w0.out)).trans K_w0.out)
  replace K_w1 := Lib.hid ((hb.block _ (lt_of_block K_w1.out)).trans K_w1.out)
  replace K_g0 := Lib.hid ((hb.block _ (lt_of_block K_g0.out)).trans K_g0.out)
  replace HB := Lib.hid (HB.out.trans (hb.mono HB.out.size))
  clear hb
  have K_g1 := Lib.hid (heap_alloc_new (w3_.alloc (.cells #[.int .i64 Y0.1, .int .i64 Y0.2.1, .slice ag0_2 Y0.2.2.length ng0_2] 27)) (.cells #[.int .i64 Y1.1, .int .i64 Y1.2.1, .slice ag1_2 Y1.2.2.length ng1_2] 27))
  have k_w0_0 := blk_cell K_w0.out 0
  rw [cell3_0] at k_w0_0
  have k_w0_1 := blk_cell K_w0.out 1
  rw [cell3_1] at k_w0_1
  have k_w0_2 := blk_cell K_w0.out 2
  rw [cell3_2] at k_w0_2
  have k_w1_0 := blk_cell K_w1.out 0
  rw [cell3_0] at k_w1_0
  have k_w1_1 := blk_cell K_w1.out 1
  rw [cell3_1] at k_w1_1
  have k_w1_2 := blk_cell K_w1.out 2
  rw [cell3_2] at k_w1_2
  have k_g0_0 := blk_cell K_g0.out 0
  rw [cell3_0] at k_g0_0
  have k_g0_1 := blk_cell K_g0.out 1
  rw [cell3_1] at k_g0_1
  have k_g0_2 := blk_cell K_g0.out 2
  rw [cell3_2] at k_g0_2
  have k_g1_0 := blk_cell K_g1.out 0
  rw [cell3_0] at k_g1_0
  have k_g1_1 := blk_cell K_g1.out 1
  rw [cell3_1] at k_g1_1
  have k_g1_2 := blk_cell K_g1.out 2
  rw [cell3_2] at k_g1_2
  go_wp2_with fail
  clear k_w0_0 k_w0_1 k_w0_2 k_w1_0 k_w1_1 k_w1_2 k_g0_0 k_g0_1 k_g0_2 k_g1_0 k_g1_1 k_g1_2
  obtain ⟨w4_, hw⟩ : ∃ x, x = ((w3_.alloc (.cells #[.int .i64 Y0.1, .int .i64 Y0.2.1, .slice ag0_2 Y0.2.2.length ng0_2] 27)).alloc (.cells #[.int .i64 Y1.1, .int .i64 Y1.2.1, .slice ag1_2 Y1.2.2.length ng1_2] 27)) := ⟨_, rfl⟩
  rw [← hw] at HB  O_w0 E_w0 O_w1 E_w1 O_g0 E_g0 O_g1 E_g1 K_w0 K_w1 K_g0 K_g1 ⊢
  clear hw
  simp only [World.size_alloc] at K_g1
  -- ('eq', 'PointKey', ('own', 'g0'), ('own', 'w0'))
  refine (eqPointKey_same (tyPointKey.ord O_g0.out) (tyPointKey.ord O_w0.out) (Nat.le_refl _) (Nat.le_refl _)).mono ?_
  rintro e w5_ ⟨he, hb⟩
  subst he
  replace O_w0 := Lib.hid (tyPointKey.onext O_w0.out hb)
  replace E_w0 : Hid (∀ b, F_w0 b → b < w5_.heap.size) := Lib.hid (fun b h => Nat.lt_of_lt_of_le (E_w0.out b h) hb.size)
  replace O_w1 := Lib.hid (tyPointKey.onext O_w1.out hb)
  replace E_w1 : Hid (∀ b, F_w1 b → b < w5_.heap.size) := Lib.hid (fun b h => Nat.lt_of_lt_of_le (E_w1.out b h) hb.size)
  replace O_g0 := Lib.hid (tyPointKey.onext O_g0.out hb)
  replace E_g0 : Hid (∀ b, F_g0 b → b < w5_.heap.size) := Lib.hid (fun b h => Nat.lt_of_lt_of_le (E_g0.out b h) hb.size)
  replace O_g1 := Lib.hid (tyPointKey.onext O_g1.out hb)
  replace E_g1 : Hid (∀ b, F_g1 b → b < w5_.heap.size) := Lib.hid (fun b h => Nat.lt_of_lt_of_le (E_g1.out b h) hb.size)
  replace K_w0 := Lib.hid ((hb.block _ (lt_of_block K_w0.out)).trans K_w0.out)
  replace K_w1 := Lib.hid ((hb.block _ (lt_of_block K_w1.out)).trans K_w1.out)
  replace K_g0 := Lib.hid ((hb.block _ (lt_of_block K_g0.out)).trans K_g0.out)
  replace K_g1 := Lib.hid ((hb.block _ (lt_of_block K_g1.out)).trans K_g1.out)
  replace HB := Lib.hid (HB.out.trans (hb.mono HB.out.size))
  clear hb
  -- ('eq', 'PointKey', ('own', 'g1'), ('own', 'w1'))
  have k_w0_0 := blk_cell K_w0.out 0
  rw [cell3_0] at k_w0_0
  have k_w0_1 := blk_cell K_w0.out 1
  rw [cell3_1] at k_w0_1
  have k_w0_2 := blk_cell K_w0.out 2
  rw [cell3_2] at k_w0_2
  have k_w1_0 := blk_cell K_w1.out 0
  rw [cell3_0] at k_w1_0
  have k_w1_1 := blk_cell K_w1.out 1
  rw [cell3_1] at k_w1_1
  have k_w1_2 := blk_cell K_w1.out 2
  rw [cell3_2] at k_w1_2
  have k_g0_0 := blk_cell K_g0.out 0
  rw [cell3_0] at k_g0_0
  have k_g0_1 := blk_cell K_g0.out 1
  rw [cell3_1] at k_g0_1
  have k_g0_2 := blk_cell K_g0.out 2
  rw [cell3_2] at k_g0_2
  have k_g1_0 := blk_cell K_g1.out 0
  rw [cell3_0] at k_g1_0
  have k_g1_1 := blk_cell K_g1.out 1
  rw [cell3_1] at k_g1_1
  have k_g1_2 := blk_cell K_g1.out 2
  rw [cell3_2] at k_g1_2
  go_wp2_with fail
  clear k_w0_0 k_w0_1 k_w0_2 k_w1_0 k_w1_1 k_w1_2 k_g0_0 k_g0_1 k_g0_2 k_g1_0 k_g1_1 k_g1_2
  refine (eqPointKey_same (tyPointKey.ord O_g1.out) (tyPointKey.ord O_w1.out) (Nat.le_refl _) (Nat.le_refl _)).mono ?_
  rintro e w6_ ⟨he, hb⟩
  subst he
  replace O_w0 := Lib.hid (tyPointKey.onext O_w0.out hb)
  replace E_w0 : Hid (∀ b, F_w0 b → b < w6_.heap.size) := Lib.hid (fun b h => Nat.lt_of_lt_of_le (E_w0.out b h) hb.size)
  replace O_w1 := Lib.hid (tyPointKey.onext O_w1.out hb)
  replace E_w1 : Hid (∀ b, F_w1 b → b < w6_.heap.size) := Lib.hid (fun b h => Nat.lt_of_lt_of_le (E_w1.out b h) hb.size)
  replace O_g0 := Lib.hid (tyPointKey.onext O_g0.out hb)
  replace E_g0 : Hid (∀ b, F_g0 b → b < w6_.heap.size) := Lib.hid (fun b h => Nat.lt_of_lt_of_le (E_g0.out b h) hb.size)
  replace O_g1 := Lib.hid (tyPointKey.onext O_g1.out hb)
  replace E_g1 : Hid (∀ b, F_g1 b → b < w6_.heap.size) := Lib.hid (fun b h => Nat.lt_of_lt_of_le (E_g1.out b h) hb.size)
  replace K_w0 := Lib.hid ((hb.block _ (lt_of_block K_w0.out)).trans K_w0.out)
  replace K_w1 := Lib.hid ((hb.block _ (lt_of_block K_w1.out)).trans K_w1.out)
  replace K_g0 := Lib.hid ((hb.block _ (lt_of_block K_g0.out)).trans K_g0.out)
  replace K_g1 := Lib.hid ((hb.block _ (lt_of_block K_g1.out)).trans K_g1.out)
  replace HB := Lib.hid (HB.out.trans (hb.mono HB.out.size))
  clear hb
  -- ('set', 'm', '1')
  -- ('mark', 'm', 'PointKey', 'g0', 'm')
  have hF5 : tyPointKey.vcnt Y0 ≤ 1099511627776 := by rw [HY0.out]; exact vb_pcs _ _ _ _ _ _
  obtain ⟨K5, hK5⟩ : ∃ K : Int, K = 1 + ((tyPointKey.vcnt Y0 : Nat) : Int) := ⟨_, rfl⟩
  have hB5 : 0 ≤ K5 ∧ K5 ≤ 1099511627786 := by omega
  have G5 := Lib.hid hK5
  clear hK5
  have k_w0_0 := blk_cell K_w0.out 0
  rw [cell3_0] at k_w0_0
  have k_w0_1 := blk_cell K_w0.out 1
  rw [cell3_1] at k_w0_1
  have k_w0_2 := blk_cell K_w0.out 2
  rw [cell3_2] at k_w0_2
  have k_w1_0 := blk_cell K_w1.out 0
  rw [cell3_0] at k_w1_0
  have k_w1_1 := blk_cell K_w1.out 1
  rw [cell3_1] at k_w1_1
  have k_w1_2 := blk_cell K_w1.out 2
  rw [cell3_2] at k_w1_2
  have k_g0_0 := blk_cell K_g0.out 0
  rw [cell3_0] at k_g0_0
  have k_g0_1 := blk_cell K_g0.out 1
  rw [cell3_1] at k_g0_1
  have k_g0_2 := blk_cell K_g0.out 2
  rw [cell3_2] at k_g0_2
  have k_g1_0 := blk_cell K_g1.out 0
  rw [cell3_0] at k_g1_0
  have k_g1_1 := blk_cell K_g1.out 1
  rw [cell3_1] at k_g1_1
  have k_g1_2 := blk_cell K_g1.out 2
  rw [cell3_2] at k_g1_2
  go_wp2_with fail
  clear k_w0_0 k_w0_1 k_w0_2 k_w1_0 k_w1_1 k_w1_2 k_g0_0 k_g0_1 k_g0_2 k_g1_0 k_g1_1 k_g1_2
  refine (markPointKey_any (k0 := 1) O_g0.out E_g0.out (by omega) (by omega)).mono ?_
  rintro e w7_ ⟨he, hO, hk⟩
  rw [← G5.out] at he
  subst he
  have hb := hk.below (B := w.heap.size) D_g0.out HB.out.size
  replace O_w0 := Lib.hid (tyPointKey.okept O_w0.out hk X_w0_g0.out)
  replace E_w0 : Hid (∀ b, F_w0 b → b < w7_.heap.size) := Lib.hid (fun b h => Nat.lt_of_lt_of_le (E_w0.out b h) hk.size)
  replace O_w1 := Lib.hid (tyPointKey.okept O_w1.out hk X_w1_g0.out)
  replace E_w1 : Hid (∀ b, F_w1 b → b < w7_.heap.size) := Lib.hid (fun b h => Nat.lt_of_lt_of_le (E_w1.out b h) hk.size)
  replace E_g0 : Hid (∀ b, F_g0 b → b < w7_.heap.size) := Lib.hid (fun b h => Nat.lt_of_lt_of_le (E_g0.out b h) hk.size)
  replace O_g1 := Lib.hid (tyPointKey.okept O_g1.out hk (fun b h1 h2 => X_g0_g1.out b h2 h1))
  replace E_g1 : Hid (∀ b, F_g1 b → b < w7_.heap.size) := Lib.hid (fun b h => Nat.lt_of_lt_of_le (E_g1.out b h) hk.size)
  replace K_w0 := Lib.hid ((hk.block _ (lt_of_block K_w0.out) N_w0_g0.out).trans K_w0.out)
  replace K_w1 := Lib.hid ((hk.block _ (lt_of_block K_w1.out) N_w1_g0.out).trans K_w1.out)
  replace K_g0 := Lib.hid ((hk.block _ (lt_of_block K_g0.out) N_g0_g0.out).trans K_g0.out)
  replace K_g1 := Lib.hid ((hk.block _ (lt_of_block K_g1.out) N_g1_g0.out).trans K_g1.out)
  replace HB := Lib.hid (HB.out.trans hb)
  replace O_g0 := Lib.hid hO
  clear hO hk hb
  -- ('mark', 'm', 'PointKey', 'g1', 'm')
  have hF6 : tyPointKey.vcnt Y1 ≤ 1099511627776 := by rw [HY1.out]; exact vb_pcs _ _ _ _ _ _
  obtain ⟨K6, hK6⟩ : ∃ K : Int, K = K5 + ((tyPointKey.vcnt Y1 : Nat) : Int) := ⟨_, rfl⟩
  have hB6 : 0 ≤ K6 ∧ K6 ≤ 2199023255562 := by omega
  have G6 := Lib.hid hK6
  clear hK6
  have k_w0_0 := blk_cell K_w0.out 0
  rw [cell3_0] at k_w0_0
  have k_w0_1 := blk_cell K_w0.out 1
  rw [cell3_1] at k_w0_1
  have k_w0_2 := blk_cell K_w0.out 2
  rw [cell3_2] at k_w0_2
  have k_w1_0 := blk_cell K_w1.out 0
  rw [cell3_0] at k_w1_0
  have k_w1_1 := blk_cell K_w1.out 1
  rw [cell3_1] at k_w1_1
  have k_w1_2 := blk_cell K_w1.out 2
  rw [cell3_2] at k_w1_2
  have k_g0_0 := blk_cell K_g0.out 0
  rw [cell3_0] at k_g0_0
  have k_g0_1 := blk_cell K_g0.out 1
  rw [cell3_1] at k_g0_1
  have k_g0_2 := blk_cell K_g0.out 2
  rw [cell3_2] at k_g0_2
  have k_g1_0 := blk_cell K_g1.out 0
  rw [cell3_0] at k_g1_0
  have k_g1_1 := blk_cell K_g1.out 1
  rw [cell3_1] at k_g1_1
  have k_g1_2 := blk_cell K_g1.out 2
  rw [cell3_2] at k_g1_2
  go_wp2_with fail
  clear k_w0_0 k_w0_1 k_w0_2 k_w1_0 k_w1_1 k_w1_2 k_g0_0 k_g0_1 k_g0_2 k_g1_0 k_g1_1 k_g1_2
  refine (markPointKey_any (k0 := K5) O_g1.out E_g1.out (by omega) (by omega)).mono ?_
  rintro e w8_ ⟨he, hO, hk⟩
  rw [← G6.out] at he
  subst he
  have hb := hk.below (B := w.heap.size) D_g1.out HB.out.size
  replace O_w0 := Lib.hid (tyPointKey.okept O_w0.out hk X_w0_g1.out)
  replace E_w0 : Hid (∀ b, F_w0 b → b < w8_.heap.size) := Lib.hid (fun b h => Nat.lt_of_lt_of_le (E_w0.out b h) hk.size)
  replace O_w1 := Lib.hid (tyPointKey.okept O_w1.out hk X_w1_g1.out)
  replace E_w1 : Hid (∀ b, F_w1 b → b < w8_.heap.size) := Lib.hid (fun b h => Nat.lt_of_lt_of_le (E_w1.out b h) hk.size)
  replace O_g0 := Lib.hid (tyPointKey.okept O_g0.out hk X_g0_g1.out)
  replace E_g0 : Hid (∀ b, F_g0 b → b < w8_.heap.size) := Lib.hid (fun b h => Nat.lt_of_lt_of_le (E_g0.out b h) hk.size)
  replace E_g1 : Hid (∀ b, F_g1 b → b < w8_.heap.size) := Lib.hid (fun b h => Nat.lt_of_lt_of_le (E_g1.out b h) hk.size)
  replace K_w0 := Lib.hid ((hk.block _ (lt_of_block K_w0.out) N_w0_g1.out).trans K_w0.out)
  replace K_w1 := Lib.hid ((hk.block _ (lt_of_block K_w1.out) N_w1_g1.out).trans K_w1.out)
  replace K_g0 := Lib.hid ((hk.block _ (lt_of_block K_g0.out) N_g0_g1.out).trans K_g0.out)
  replace K_g1 := Lib.hid ((hk.block _ (lt_of_block K_g1.out) N_g1_g1.out).trans K_g1.out)
  replace HB := Lib.hid (HB.out.trans hb)
  replace O_g1 := Lib.hid hO
  clear hO hk hb
  -- ('set', 'q', '1')
  -- ('held', 'q', 'PointKey', 'g0', 'q')
  have k_w0_0 := blk_cell K_w0.out 0
  rw [cell3_0] at k_w0_0
  have k_w0_1 := blk_cell K_w0.out 1
  rw [cell3_1] at k_w0_1
  have k_w0_2 := blk_cell K_w0.out 2
  rw [cell3_2] at k_w0_2
  have k_w1_0 := blk_cell K_w1.out 0
  rw [cell3_0] at k_w1_0
  have k_w1_1 := blk_cell K_w1.out 1
  rw [cell3_1] at k_w1_1
  have k_w1_2 := blk_cell K_w1.out 2
  rw [cell3_2] at k_w1_2
  have k_g0_0 := blk_cell K_g0.out 0
  rw [cell3_0] at k_g0_0
  have k_g0_1 := blk_cell K_g0.out 1
  rw [cell3_1] at k_g0_1
  have k_g0_2 := blk_cell K_g0.out 2
  rw [cell3_2] at k_g0_2
  have k_g1_0 := blk_cell K_g1.out 0
  rw [cell3_0] at k_g1_0
  have k_g1_1 := blk_cell K_g1.out 1
  rw [cell3_1] at k_g1_1
  have k_g1_2 := blk_cell K_g1.out 2
  rw [cell3_2] at k_g1_2
  go_wp2_with fail
  clear k_w0_0 k_w0_1 k_w0_2 k_w1_0 k_w1_1 k_w1_2 k_g0_0 k_g0_1 k_g0_2 k_g1_0 k_g1_1 k_g1_2
  refine (heldPointKey_any (x := Y0) (k0 := 1) (tyPointKey.ord O_g0.out) (Nat.le_refl _) (by omega) (by omega)).mono ?_
  rintro e w9_ ⟨he, hb⟩
  rw [← G5.out] at he
  subst he
  replace O_w0 := Lib.hid (tyPointKey.onext O_w0.out hb)
  replace E_w0 : Hid (∀ b, F_w0 b → b < w9_.heap.size) := Lib.hid (fun b h => Nat.lt_of_lt_of_le (E_w0.out b h) hb.size)
  replace O_w1 := Lib.hid (tyPointKey.onext O_w1.out hb)
  replace E_w1 : Hid (∀ b, F_w1 b → b < w9_.heap.size) := Lib.hid (fun b h => Nat.lt_of_lt_of_le (E_w1.out b h) hb.size)
  replace O_g0 := Lib.hid (tyPointKey.onext O_g0.out hb)
  replace E_g0 : Hid (∀ b, F_g0 b → b < w9_.heap.size) := Lib.hid (fun b h => Nat.lt_of_lt_of_le (E_g0.out b h) hb.size)
  replace O_g1 := Lib.hid (tyPointKey.onext O_g1.out hb)
  replace E_g1 : Hid (∀ b, F_g1 b → b < w9_.heap.size) := Lib.hid (fun b h => Nat.lt_of_lt_of_le (E_g1.out b h) hb.size)
  replace K_w0 := Lib.hid ((hb.block _ (lt_of_block K_w0.out)).trans K_w0.out)
  replace K_w1 := Lib.hid ((hb.block _ (lt_of_block K_w1.out)).trans K_w1.out)
  replace K_g0 := Lib.hid ((hb.block _ (lt_of_block K_g0.out)).trans K_g0.out)
  replace K_g1 := Lib.hid ((hb.block _ (lt_of_block K_g1.out)).trans K_g1.out)
  replace HB := Lib.hid (HB.out.trans (hb.mono HB.out.size))
  clear hb
  have dd8 : decide (K5 < 0) = false := by simp; omega
  -- ('held', 'q', 'PointKey', 'g1', 'q')
  have k_w0_0 := blk_cell K_w0.out 0
  rw [cell3_0] at k_w0_0
  have k_w0_1 := blk_cell K_w0.out 1
  rw [cell3_1] at k_w0_1
  have k_w0_2 := blk_cell K_w0.out 2
  rw [cell3_2] at k_w0_2
  have k_w1_0 := blk_cell K_w1.out 0
  rw [cell3_0] at k_w1_0
  have k_w1_1 := blk_cell K_w1.out 1
  rw [cell3_1] at k_w1_1
  have k_w1_2 := blk_cell K_w1.out 2
  rw [cell3_2] at k_w1_2
  have k_g0_0 := blk_cell K_g0.out 0
  rw [cell3_0] at k_g0_0
  have k_g0_1 := blk_cell K_g0.out 1
  rw [cell3_1] at k_g0_1
  have k_g0_2 := blk_cell K_g0.out 2
  rw [cell3_2] at k_g0_2
  have k_g1_0 := blk_cell K_g1.out 0
  rw [cell3_0] at k_g1_0
  have k_g1_1 := blk_cell K_g1.out 1
  rw [cell3_1] at k_g1_1
  have k_g1_2 := blk_cell K_g1.out 2
  rw [cell3_2] at k_g1_2
  go_wp2_with fail
  clear k_w0_0 k_w0_1 k_w0_2 k_w1_0 k_w1_1 k_w1_2 k_g0_0 k_g0_1 k_g0_2 k_g1_0 k_g1_1 k_g1_2
  refine (heldPointKey_any (x := Y1) (k0 := K5) (tyPointKey.ord O_g1.out) (Nat.le_refl _) (by omega) (by omega)).mono ?_
  rintro e w10_ ⟨he, hb⟩
  rw [← G6.out] at he
  subst he
  replace O_w0 := Lib.hid (tyPointKey.onext O_w0.out hb)
  replace E_w0 : Hid (∀ b, F_w0 b → b < w10_.heap.size) := Lib.hid (fun b h => Nat.lt_of_lt_of_le (E_w0.out b h) hb.size)
  replace O_w1 := Lib.hid (tyPointKey.onext O_w1.out hb)
  replace E_w1 : Hid (∀ b, F_w1 b → b < w10_.heap.size) := Lib.hid (fun b h => Nat.lt_of_lt_of_le (E_w1.out b h) hb.size)
  replace O_g0 := Lib.hid (tyPointKey.onext O_g0.out hb)
  replace E_g0 : Hid (∀ b, F_g0 b → b < w10_.heap.size) := Lib.hid (fun b h => Nat.lt_of_lt_of_le (E_g0.out b h) hb.size)
  replace O_g1 := Lib.hid (tyPointKey.onext O_g1.out hb)
  replace E_g1 : Hid (∀ b, F_g1 b → b < w10_.heap.size) := Lib.hid (fun b h => Nat.lt_of_lt_of_le (E_g1.out b h) hb.size)
  replace K_w0 := Lib.hid ((hb.block _ (lt_of_block K_w0.out)).trans K_w0.out)
  replace K_w1 := Lib.hid ((hb.block _ (lt_of_block K_w1.out)).trans K_w1.out)
  replace K_g0 := Lib.hid ((hb.block _ (lt_of_block K_g0.out)).trans K_g0.out)
  replace K_g1 := Lib.hid ((hb.block _ (lt_of_block K_g1.out)).trans K_g1.out)
  replace HB := Lib.hid (HB.out.trans (hb.mono HB.out.size))
  clear hb
  have dd9 : decide (K6 < 0) = false := by simp; omega
  -- ('call', 'impl', 'MakePointKeys', [('arg', 0), ('arg', 1), ('arg', 2), ('arg', 3)], ['h0', 'h1', 'h2'])
  have k_w0_0 := blk_cell K_w0.out 0
  rw [cell3_0] at k_w0_0
  have k_w0_1 := blk_cell K_w0.out 1
  rw [cell3_1] at k_w0_1
  have k_w0_2 := blk_cell K_w0.out 2
  rw [cell3_2] at k_w0_2
  have k_w1_0 := blk_cell K_w1.out 0
  rw [cell3_0] at k_w1_0
  have k_w1_1 := blk_cell K_w1.out 1
  rw [cell3_1] at k_w1_1
  have k_w1_2 := blk_cell K_w1.out 2
  rw [cell3_2] at k_w1_2
  have k_g0_0 := blk_cell K_g0.out 0
  rw [cell3_0] at k_g0_0
  have k_g0_1 := blk_cell K_g0.out 1
  rw [cell3_1] at k_g0_1
  have k_g0_2 := blk_cell K_g0.out 2
  rw [cell3_2] at k_g0_2
  have k_g1_0 := blk_cell K_g1.out 0
  rw [cell3_0] at k_g1_0
  have k_g1_1 := blk_cell K_g1.out 1
  rw [cell3_1] at k_g1_1
  have k_g1_2 := blk_cell K_g1.out 2
  rw [cell3_2] at k_g1_2
  go_wp2_with fail
  clear k_w0_0 k_w0_1 k_w0_2 k_w1_0 k_w1_1 k_w1_2 k_g0_0 k_g0_1 k_g0_2 k_g1_0 k_g1_1 k_g1_2
  refine (impl_mk_t W0.out W1.out W2.out W3.out).mono ?_
  rintro e w11_ ⟨c_h0, c_h1, F_h0, F_h1, he, hO_h0, hO_h1, hF_h0, hF_h1, hX_h0_h1, hb⟩
  replace hO_h0 : tyPointKey.own F_h0 w11_ c_h0 ((prt a0 a1 a2 a3 a2, 0, pcs a0 a1 a2 a3)) := hO_h0
  replace hO_h1 : tyPointKey.own F_h1 w11_ c_h1 ((prt a0 a1 a2 a3 a3, prt a0 a1 a2 a3 1, pcs a0 a1 a2 a3)) := hO_h1
  rw [← HY0.out] at hO_h0
  rw [← HY1.out] at hO_h1
  rw [← HY2.out] at he
  subst he
  obtain ⟨ah0_2, nh0_2, _, rfl, _⟩ := own_PointKey hO_h0
  obtain ⟨ah1_2, nh1_2, _, rfl, _⟩ := own_PointKey hO_h1
  clear hX_h0_h1
  have D_h0 : Hid (∀ b, F_h0 b → w.heap.size ≤ b) := Lib.hid (fun b h => Nat.le_trans HB.out.size (hF_h0 b h).1)
  have D_h1 : Hid (∀ b, F_h1 b → w.heap.size ≤ b) := Lib.hid (fun b h => Nat.le_trans HB.out.size (hF_h1 b h).1)
  replace O_w0 := Lib.hid (tyPointKey.onext O_w0.out hb)
  replace E_w0 : Hid (∀ b, F_w0 b → b < w11_.heap.size) := Lib.hid (fun b h => Nat.lt_of_lt_of_le (E_w0.out b h) hb.size)
  replace O_w1 := Lib.hid (tyPointKey.onext O_w1.out hb)
  replace E_w1 : Hid (∀ b, F_w1 b → b < w11_.heap.size) := Lib.hid (fun b h => Nat.lt_of_lt_of_le (E_w1.out b h) hb.size)
  replace O_g0 := Lib.hid (tyPointKey.onext O_g0.out hb)
  replace E_g0 : Hid (∀ b, F_g0 b → b < w11_.heap.size) := Lib.hid (fun b h => Nat.lt_of_lt_of_le (E_g0.out b h) hb.size)
  replace O_g1 := Lib.hid (tyPointKey.onext O_g1.out hb)
  replace E_g1 : Hid (∀ b, F_g1 b → b < w11_.heap.size) := Lib.hid (fun b h => Nat.lt_of_lt_of_le (E_g1.out b h) hb.size)
  replace K_w0 := Lib.hid ((hb.block _ (lt_of_block K_w0.out)).trans K_w0.out)
  replace K_w1 := Lib.hid ((hb.block _ (lt_of_block K_w1.out)).trans K_w1.out)
  replace K_g0 := Lib.hid ((hb.block _ (lt_of_block K_g0.out)).trans K_g0.out)
  replace K_g1 := Lib.hid ((hb.block _ (lt_of_block K_g1.out)).trans K_g1.out)
  replace HB := Lib.hid (HB.out.trans (hb.mono HB.out.size))
  clear hb
  have O_h0 := Lib.hid hO_h0
  have E_h0 : Hid (∀ b, F_h0 b → b < w11_.heap.size) := Lib.hid (fun b h => (hF_h0 b h).2)
  clear hO_h0 hF_h0
  have O_h1 := Lib.hid hO_h1
  have E_h1 : Hid (∀ b, F_h1 b → b < w11_.heap.size) := Lib.hid (fun b h => (hF_h1 b h).2)
  clear hO_h1 hF_h1
  have hb : Below w11_.heap.size w11_ (w11_.alloc (.cells #[.int .i64 Y0.1, .int .i64 Y0.2.1, .slice ah0_2 Y0.2.2.length nh0_2] 27)) := (Below.refl _ _).alloc (Nat.le_refl _) _
  replace O_w0 := Lib.hid (tyPointKey.onext O_w0.out hb)
  replace E_w0 : Hid (∀ b, F_w0 b → b < (w11_.alloc (.cells #[.int .i64 Y0.1, .int .i64 Y0.2.1, .slice ah0_2 Y0.2.2.length nh0_2] 27)).heap.size) := Lib.hid (fun b h => Nat.lt_of_lt_of_le (E_w0.out b h) hb.size)
  replace O_w1 := Lib.hid (tyPointKey.onext O_w1.out hb)
  replace E_w1 : Hid (∀ b, F_w1 b → b < (w11_.alloc (.cells #[.int .i64 Y0.1, .int .i64 Y0.2.1, .slice ah0_2 Y0.2.2.length nh0_2] 27)).heap.size) := Lib.hid (fun b h => Nat.lt_of_lt_of_le (E_w1.out b h) hb.size)
  replace O_g0 := Lib.hid (tyPointKey.onext O_g0.out hb)
  replace E_g0 : Hid (∀ b, F_g0 b → b < (w11_.alloc (.cells #[.int .i64 Y0.1, .int .i64 Y0.2.1, .slice ah0_2 Y0.2.2.length nh0_2] 27)).heap.size) := Lib.hid (fun b h => Nat.lt_of_lt_of_le (E_g0.out b h) hb.size)
  replace O_g1 := Lib.hid (tyPointKey.onext O_g1.out hb)
  replace E_g1 : Hid (∀ b, F_g1 b → b < (w11_.alloc (.cells #[.int .i64 Y0.1, .int .i64 Y0.2.1, .slice ah0_2 Y0.2.2.length nh0_2] 27)).heap.size) := Lib.hid (fun b h => Nat.lt_of_lt_of_le (E_g1.out b h) hb.size)
  replace O_h0 := Lib.hid (tyPointKey.onext O_h0.out hb)
  replace E_h0 : Hid (∀ b, F_h0 b → b < (w11_.alloc (.cells #[.int .i64 Y0.1, .int .i64 Y0.2.1, .slice ah0_2 Y0.2.2.length nh0_2] 27)).heap.size) := Lib.hid (fun b h => Nat.lt_of_lt_of_le (E_h0.out b h) hb.size)
  replace O_h1 := Lib.hid (tyPointKey.onext O_h1.out hb)
  replace E_h1 : Hid (∀ b, F_h1 b → b < (w11_.alloc (.cells #[.int .i64 Y0.1, .int .i64 Y0.2.1, .slice ah0_2 Y0.2.2.length nh0_2] 27)).heap.size) := Lib.hid (fun b h => Nat.lt_of_lt_of_le (E_h1.out b h) hb.size)
  replace K_w0 := Lib.hid ((hb.block _ (lt_of_block K_w0.out)).trans K_w0.out)
  replace K_w1 := Lib.hid ((hb.block _ (lt_of_block K_w1.out)).trans K_w1.out)
  replace K_g0 := Lib.hid ((hb.block _ (lt_of_block K_g0.out)).trans K_g0.out)
  replace K_g1 := Lib.hid ((hb.block _ (lt_of_block K_g1.out)).trans K_g1.out)
  replace HB := Lib.hid (HB.out.trans (hb.mono HB.out.size))
  clear hb
  have K_h0 := Lib.hid (heap_alloc_new w11_ (.cells #[.int .i64 Y0.1, .int .i64 Y0.2.1, .slice ah0_2 Y0.2.2.length nh0_2] 27))
  have hb : Below (w11_.alloc (.cells #[.int .i64 Y0.1, .int .i64 Y0.2.1, .slice ah0_2 Y0.2.2.length nh0_2] 27)).heap.size (w11_.alloc (.cells #[.int .i64 Y0.1, .int .i64 Y0.2.1, .slice ah0_2 Y0.2.2.length nh0_2] 27)) ((w11_.alloc (.cells #[.int .i64 Y0.1, .int .i64 Y0.2.1, .slice ah0_2 Y0.2.2.length nh0_2] 27)).alloc (.cells #[.int .i64 Y1.1, .int .i64 Y1.2.1, .slice ah1_2 Y1.2.2.length nh1_2] 27)) := (Below.refl _ _).alloc (Nat.le_refl _) _
  replace O_w0 := Lib.hid (tyPointKey.onext O_w0.out hb)
  replace E_w0 : Hid (∀ b, F_w0 b → b < ((w11_.alloc (.cells #[.int .i64 Y0.1, .int .i64 Y0.2.1, .slice ah0_2 Y0.2.2.length nh0_2] 27)).alloc (.cells #[.int .i64 Y1.1, .int .i64 Y1.2.1, .slice ah1_2 Y1.2.2.length nh1_2] 27)).heap.size) := Lib.hid (fun b h => Nat.lt_of_lt_of_le (E_w0.out b h) hb.size)
  replace O_w1 := Lib.hid (tyPointKey.onext O_w1.out hb)
  replace E_w1 : Hid (∀ b, F_w1 b → b < ((w11_.alloc (.cells #[.int .i64 Y0.1, .int .i64 Y0.2.1, .slice ah0_2 Y0.2.2.length nh0_2] 27)).alloc (.cells #[.int .i64 Y1.1, .int .i64 Y1.2.1, .slice ah1_2 Y1.2.2.length nh1_2] 27)).heap.size) := Lib.hid (fun b h => Nat.lt_of_lt_of_le (E_w1.out b h) hb.size)
  replace O_g0 := Lib.hid (tyPointKey.onext O_g0.out hb)
  replace E_g0 : Hid (∀ b, F_g0 b → b < ((w11_.alloc (.cells #[.int .i64 Y0.1, .int .i64 Y0.2.1, .slice ah0_2 Y0.2.2.length nh0_2] 27)).alloc (.cells #[.int .i64 Y1.1, .int .i64 Y1.2.1, .slice ah1_2 Y1.2.2.length nh1_2] 27)).heap.size) := Lib.hid (fun b h => Nat.lt_of_lt_of_le (E_g0.out b h) hb.size)
  replace O_g1 := Lib.hid (tyPointKey.onext O_g1.out hb)
  replace E_g1 : Hid (∀ b, F_g1 b → b < ((w11_.alloc (.cells #[.int .i64 Y0.1, .int .i64 Y0.2.1, .slice ah0_2 Y0.2.2.length nh0_2] 27)).alloc (.cells #[.int .i64 Y1.1, .int .i64 Y1.2.1, .slice ah1_2 Y1.2.2.length nh1_2] 27)).heap.size) := Lib.hid (fun b h => Nat.lt_of_lt_of_le (E_g1.out b h) hb.size)
  replace O_h0 := Lib.hid (tyPointKey.onext O_h0.out hb)
  replace E_h0 : Hid (∀ b, F_h0 b → b < ((w11_.alloc (.cells #[.int .i64 Y0.1, .int .i64 Y0.2.1, .slice ah0_2 Y0.2.2.length nh0_2] 27)).alloc (.cells #[.int .i64 Y1.1, .int .i64 Y1.2.1, .slice ah1_2 Y1.2.2.length nh1_2] 27)).heap.size) := Lib.hid (fun b h => Nat.lt_of_lt_of_le (E_h0.out b h) hb.size)
  replace O_h1 := Lib.hid (tyPointKey.onext O_h1.out hb)
  replace E_h1 : Hid (∀ b, F_h1 b → b < ((w11_.alloc (.cells #[.int .i64 Y0.1, .int .i64 Y0.2.1, .slice ah0_2 Y0.2.2.length nh0_2] 27)).alloc (.cells #[.int .i64 Y1.1, .int .i64 Y1.2.1, .slice ah1_2 Y1.2.2.length nh1_2] 27)).heap.size) := Lib.hid (fun b h => Nat.lt_of_lt_of_le (E_h1.out b h) hb.size)
  replace K_w0 := Lib.hid ((hb.block _ (lt_of_block K_w0.out)).trans K_w0.out)
  replace K_w1 := Lib.hid ((hb.block _ (lt_of_block K_w1.out)).trans K_w1.out)
  replace K_g0 := Lib.hid ((hb.block _ (lt_of_block K_g0.out)).trans K_g0.out)
  replace K_g1 := Lib.hid ((hb.block _ (lt_of_block K_g1.out)).trans K_g1.out)
  replace K_h0 := Lib.hid ((hb.block _ (lt_of_block K_h0.out)).trans K_h0.out)
  replace HB := Lib.hid (HB.out.trans (hb.mono HB.out.size))
  clear hb
  have K_h1 := Lib.hid (heap_alloc_new (w11_.alloc (.cells #[.int .i64 Y0.1, .int .i64 Y0.2.1, .slice ah0_2 Y0.2.2.length nh0_2] 27)) (.cells #[.int .i64 Y1.1, .int .i64 Y1.2.1, .slice ah1_2 Y1.2.2.length nh1_2] 27))
  have k_w0_0 := blk_cell K_w0.out 0
  rw [cell3_0] at k_w0_0
  have k_w0_1 := blk_cell K_w0.out 1
  rw [cell3_1] at k_w0_1
  have k_w0_2 := blk_cell K_w0.out 2
  rw [cell3_2] at k_w0_2
  have k_w1_0 := blk_cell K_w1.out 0
  rw [cell3_0] at k_w1_0
  have k_w1_1 := blk_cell K_w1.out 1
  rw [cell3_1] at k_w1_1
  have k_w1_2 := blk_cell K_w1.out 2
  rw [cell3_2] at k_w1_2
  have k_g0_0 := blk_cell K_g0.out 0
  rw [cell3_0] at k_g0_0
  have k_g0_1 := blk_cell K_g0.out 1
  rw [cell3_1] at k_g0_1
  have k_g0_2 := blk_cell K_g0.out 2
  rw [cell3_2] at k_g0_2
  have k_g1_0 := blk_cell K_g1.out 0
  rw [cell3_0] at k_g1_0
  have k_g1_1 := blk_cell K_g1.out 1
  rw [cell3_1] at k_g1_1
  have k_g1_2 := blk_cell K_g1.out 2
  rw [cell3_2] at k_g1_2
  have k_h0_0 := blk_cell K_h0.out 0
  rw [cell3_0] at k_h0_0
  have k_h0_1 := blk_cell K_h0.out 1
  rw [cell3_1] at k_h0_1
  have k_h0_2 := blk_cell K_h0.out 2
  rw [cell3_2] at k_h0_2
  have k_h1_0 := blk_cell K_h1.out 0
  rw [cell3_0] at k_h1_0
  have k_h1_1 := blk_cell K_h1.out 1
  rw [cell3_1] at k_h1_1
  have k_h1_2 := blk_cell K_h1.out 2
  rw [cell3_2] at k_h1_2
  go_wp2_with fail
  clear k_w0_0 k_w0_1 k_w0_2 k_w1_0 k_w1_1 k_w1_2 k_g0_0 k_g0_1 k_g0_2 k_g1_0 k_g1_1 k_g1_2 k_h0_0 k_h0_1 k_h0_2 k_h1_0 k_h1_1 k_h1_2
  obtain ⟨w12_, hw⟩ : ∃ x, x = ((w11_.alloc (.cells #[.int .i64 Y0.1, .int .i64 Y0.2.1, .slice ah0_2 Y0.2.2.length nh0_2] 27)).alloc (.cells #[.int .i64 Y1.1, .int .i64 Y1.2.1, .slice ah1_2 Y1.2.2.length nh1_2] 27)) := ⟨_, rfl⟩
  rw [← hw] at HB  O_w0 E_w0 O_w1 E_w1 O_g0 E_g0 O_g1 E_g1 O_h0 E_h0 O_h1 E_h1 K_w0 K_w1 K_g0 K_g1 K_h0 K_h1 ⊢
  clear hw
  simp only [World.size_alloc] at K_h1
  -- ('eq', 'PointKey', ('own', 'h0'), ('own', 'w0'))
  refine (eqPointKey_same (tyPointKey.ord O_h0.out) (tyPointKey.ord O_w0.out) (Nat.le_refl _) (Nat.le_refl _)).mono ?_
  rintro e w13_ ⟨he, hb⟩
  subst he
  replace O_w0 := Lib.hid (tyPointKey.onext O_w0.out hb)
  replace E_w0 : Hid (∀ b, F_w0 b → b < w13_.heap.size) := Lib.hid (fun b h => Nat.lt_of_lt_of_le (E_w0.out b h) hb.size)
  replace O_w1 := Lib.hid (tyPointKey.onext O_w1.out hb)
  replace E_w1 : Hid (∀ b, F_w1 b → b < w13_.heap.size) := Lib.hid (fun b h => Nat.lt_of_lt_of_le (E_w1.out b h) hb.size)
  replace O_g0 := Lib.hid (tyPointKey.onext O_g0.out hb)
  replace E_g0 : Hid (∀ b, F_g0 b → b < w13_.heap.size) := Lib.hid (fun b h => Nat.lt_of_lt_of_le (E_g0.out b h) hb.size)
  replace O_g1 := Lib.hid (tyPointKey.onext O_g1.out hb)
  replace E_g1 : Hid (∀ b, F_g1 b → b < w13_.heap.size) := Lib.hid (fun b h => Nat.lt_of_lt_of_le (E_g1.out b h) hb.size)
  replace O_h0 := Lib.hid (tyPointKey.onext O_h0.out hb)
  replace E_h0 : Hid (∀ b, F_h0 b → b < w13_.heap.size) := Lib.hid (fun b h => Nat.lt_of_lt_of_le (E_h0.out b h) hb.size)
  replace O_h1 := Lib.hid (tyPointKey.onext O_h1.out hb)
  replace E_h1 : Hid (∀ b, F_h1 b → b < w13_.heap.size) := Lib.hid (fun b h => Nat.lt_of_lt_of_le (E_h1.out b h) hb.size)
  replace K_w0 := Lib.hid ((hb.block _ (lt_of_block K_w0.out)).trans K_w0.out)
  replace K_w1 := Lib.hid ((hb.block _ (lt_of_block K_w1.out)).trans K_w1.out)
  replace K_g0 := Lib.hid ((hb.block _ (lt_of_block K_g0.out)).trans K_g0.out)
  replace K_g1 := Lib.hid ((hb.block _ (lt_of_block K_g1.out)).trans K_g1.out)
  replace K_h0 := Lib.hid ((hb.block _ (lt_of_block K_h0.out)).trans K_h0.out)
  replace K_h1 := Lib.hid ((hb.block _ (lt_of_block K_h1.out)).trans K_h1.out)
  replace HB := Lib.hid (HB.out.trans (hb.mono HB.out.size))
  clear hb
  clear O_w0 E_w0 D_w0
  clear X_w0_g0
  clear X_w0_g1
  clear K_w0
  clear N_w0_g0
  clear N_w0_g1
  clear O_h0 E_h0 D_h0
  clear K_h0
  -- ('eq', 'PointKey', ('own', 'h1'), ('own', 'w1'))
  have k_w1_0 := blk_cell K_w1.out 0
  rw [cell3_0] at k_w1_0
  have k_w1_1 := blk_cell K_w1.out 1
  rw [cell3_1] at k_w1_1
  have k_w1_2 := blk_cell K_w1.out 2
  rw [cell3_2] at k_w1_2
  have k_g0_0 := blk_cell K_g0.out 0
  rw [cell3_0] at k_g0_0
  have k_g0_1 := blk_cell K_g0.out 1
  rw [cell3_1] at k_g0_1
  have k_g0_2 := blk_cell K_g0.out 2
  rw [cell3_2] at k_g0_2
  have k_g1_0 := blk_cell K_g1.out 0
  rw [cell3_0] at k_g1_0
  have k_g1_1 := blk_cell K_g1.out 1
  rw [cell3_1] at k_g1_1
  have k_g1_2 := blk_cell K_g1.out 2
  rw [cell3_2] at k_g1_2
  have k_h1_0 := blk_cell K_h1.out 0
  rw [cell3_0] at k_h1_0
  have k_h1_1 := blk_cell K_h1.out 1
  rw [cell3_1] at k_h1_1
  have k_h1_2 := blk_cell K_h1.out 2
  rw [cell3_2] at k_h1_2
  go_wp2_with fail
  clear k_w1_0 k_w1_1 k_w1_2 k_g0_0 k_g0_1 k_g0_2 k_g1_0 k_g1_1 k_g1_2 k_h1_0 k_h1_1 k_h1_2
  refine (eqPointKey_same (tyPointKey.ord O_h1.out) (tyPointKey.ord O_w1.out) (Nat.le_refl _) (Nat.le_refl _)).mono ?_
  rintro e w14_ ⟨he, hb⟩
  subst he
  replace O_w1 := Lib.hid (tyPointKey.onext O_w1.out hb)
  replace E_w1 : Hid (∀ b, F_w1 b → b < w14_.heap.size) := Lib.hid (fun b h => Nat.lt_of_lt_of_le (E_w1.out b h) hb.size)
  replace O_g0 := Lib.hid (tyPointKey.onext O_g0.out hb)
  replace E_g0 : Hid (∀ b, F_g0 b → b < w14_.heap.size) := Lib.hid (fun b h => Nat.lt_of_lt_of_le (E_g0.out b h) hb.size)
  replace O_g1 := Lib.hid (tyPointKey.onext O_g1.out hb)
  replace E_g1 : Hid (∀ b, F_g1 b → b < w14_.heap.size) := Lib.hid (fun b h => Nat.lt_of_lt_of_le (E_g1.out b h) hb.size)
  replace O_h1 := Lib.hid (tyPointKey.onext O_h1.out hb)
  replace E_h1 : Hid (∀ b, F_h1 b → b < w14_.heap.size) := Lib.hid (fun b h => Nat.lt_of_lt_of_le (E_h1.out b h) hb.size)
  replace K_w1 := Lib.hid ((hb.block _ (lt_of_block K_w1.out)).trans K_w1.out)
  replace K_g0 := Lib.hid ((hb.block _ (lt_of_block K_g0.out)).trans K_g0.out)
  replace K_g1 := Lib.hid ((hb.block _ (lt_of_block K_g1.out)).trans K_g1.out)
  replace K_h1 := Lib.hid ((hb.block _ (lt_of_block K_h1.out)).trans K_h1.out)
  replace HB := Lib.hid (HB.out.trans (hb.mono HB.out.size))
  clear hb
  clear O_w1 E_w1 D_w1
  clear X_w1_g0
  clear X_w1_g1
  clear K_w1
  clear N_w1_g0
  clear N_w1_g1
  clear O_h1 E_h1 D_h1
  clear K_h1
  -- ('set', 'q', '1')
  -- ('held', 'q', 'PointKey', 'g0', 'q')
  have k_g0_0 := blk_cell K_g0.out 0
  rw [cell3_0] at k_g0_0
  have k_g0_1 := blk_cell K_g0.out 1
  rw [cell3_1] at k_g0_1
  have k_g0_2 := blk_cell K_g0.out 2
  rw [cell3_2] at k_g0_2
  have k_g1_0 := blk_cell K_g1.out 0
  rw [cell3_0] at k_g1_0
  have k_g1_1 := blk_cell K_g1.out 1
  rw [cell3_1] at k_g1_1
  have k_g1_2 := blk_cell K_g1.out 2
  rw [cell3_2] at k_g1_2
  go_wp2_with fail
  clear k_g0_0 k_g0_1 k_g0_2 k_g1_0 k_g1_1 k_g1_2
  refine (heldPointKey_any (x := Y0) (k0 := 1) (tyPointKey.ord O_g0.out) (Nat.le_refl _) (by omega) (by omega)).mono ?_
  rintro e w15_ ⟨he, hb⟩
  rw [← G5.out] at he
  subst he
  replace O_g0 := Lib.hid (tyPointKey.onext O_g0.out hb)
  replace E_g0 : Hid (∀ b, F_g0 b → b < w15_.heap.size) := Lib.hid (fun b h => Nat.lt_of_lt_of_le (E_g0.out b h) hb.size)
  replace O_g1 := Lib.hid (tyPointKey.onext O_g1.out hb)
  replace E_g1 : Hid (∀ b, F_g1 b → b < w15_.heap.size) := Lib.hid (fun b h => Nat.lt_of_lt_of_le (E_g1.out b h) hb.size)
  replace K_g0 := Lib.hid ((hb.block _ (lt_of_block K_g0.out)).trans K_g0.out)
  replace K_g1 := Lib.hid ((hb.block _ (lt_of_block K_g1.out)).trans K_g1.out)
  replace HB := Lib.hid (HB.out.trans (hb.mono HB.out.size))
  clear hb
  have dd14 : decide (K5 < 0) = false := by simp; omega
  clear O_g0 E_g0 D_g0
  clear X_g0_g1
  clear N_g0_g0
  clear N_g1_g0
  clear K_g0
  clear N_g0_g1
  -- ('held', 'q', 'PointKey', 'g1', 'q')
  have k_g1_0 := blk_cell K_g1.out 0
  rw [cell3_0] at k_g1_0
  have k_g1_1 := blk_cell K_g1.out 1
  rw [cell3_1] at k_g1_1
  have k_g1_2 := blk_cell K_g1.out 2
  rw [cell3_2] at k_g1_2
  go_wp2_with fail
  clear k_g1_0 k_g1_1 k_g1_2
  refine (heldPointKey_any (x := Y1) (k0 := K5) (tyPointKey.ord O_g1.out) (Nat.le_refl _) (by omega) (by omega)).mono ?_
  rintro e w16_ ⟨he, hb⟩
  rw [← G6.out] at he
  subst he
  replace O_g1 := Lib.hid (tyPointKey.onext O_g1.out hb)
  replace E_g1 : Hid (∀ b, F_g1 b → b < w16_.heap.size) := Lib.hid (fun b h => Nat.lt_of_lt_of_le (E_g1.out b h) hb.size)
  replace K_g1 := Lib.hid ((hb.block _ (lt_of_block K_g1.out)).trans K_g1.out)
  replace HB := Lib.hid (HB.out.trans (hb.mono HB.out.size))
  clear hb
  have dd15 : decide (K6 < 0) = false := by simp; omega
  clear O_g1 E_g1 D_g1
  clear N_g1_g1
  clear K_g1
  go_wp2_with fail
  go_ret
  exact ⟨rfl, HB.out⟩
  
end Go.Proofs.Ytngdcnocjgibkaa
