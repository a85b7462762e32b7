/- FnExactFinishToken: the walk. No conditions. -/
import Derived.Test.YtdccljmffmlkbaaTkW
import Derived.Test.YtdccljmffmlkbaaCells
import Derived.Deep.RegionHeld3
import Derived.Deep.DeepCutAuto
namespace Go.Proofs.Ytdccljmffmlkbaa
open Go Go.RowKit
set_option linter.unusedVariables false
attribute [local irreducible] kh

set_option maxHeartbeats 4000000 in
set_option maxRecDepth 100000 in
theorem fnExactFinishToken_walk (a0 : Int) (a1 : Int) (a2 : Int) (c3 : List Value) (s3 : VBlindReply) (w : World) (w0 : (Lit.int .i64 a0).wf = true) (w1 : (Lit.int .i64 a1).wf = true) (w2 : (Lit.int .i64 a2).wf = true) (w3 : tyBlindReply.rd w.heap.size w c3 s3) :
    Calls Try.prog 7 #[.int .i64 a0, .int .i64 a1, .int .i64 a2, .agg c3.toArray] w fun e w' => e = .returned (.bool true) ∧ Below w.heap.size w w' := by
  obtain ⟨rfl, _⟩ := rd_BlindReply w3
  have A3 := Lib.hid w3
  clear w3
  have W0 := Lib.hid w0
  have w0b := wf_i64 w0
  clear w0
  have W1 := Lib.hid w1
  have w1b := wf_i64 w1
  clear w1
  have W2 := Lib.hid w2
  have w2b := wf_i64 w2
  clear w2
  go_enter Try.func7, Try.ntmps7
  have hb := ((Below.refl w.heap.size w).alloc (Nat.le_refl _) (.cells #[.int .i64 s3.1, .int .i64 s3.2.1, .int .i64 s3.2.2] 37))
  have K_p3 := Lib.hid (heap_alloc_new w (.cells #[.int .i64 s3.1, .int .i64 s3.2.1, .int .i64 s3.2.2] 37))
  replace A3 := Lib.hid (tyBlindReply.behind A3.out hb)
  have HB := Lib.hid hb
  clear hb
  have k_p3_0 := blk_cell K_p3.out 0
  rw [cell3_0] at k_p3_0
  have k_p3_1 := blk_cell K_p3.out 1
  rw [cell3_1] at k_p3_1
  have k_p3_2 := blk_cell K_p3.out 2
  rw [cell3_2] at k_p3_2
  go_wp2_with fail
  clear k_p3_0 k_p3_1 k_p3_2
  obtain ⟨w1_, hw⟩ : ∃ x, x = (w.alloc (.cells #[.int .i64 s3.1, .int .i64 s3.2.1, .int .i64 s3.2.2] 37)) := ⟨_, rfl⟩
  rw [← hw] at HB A3 K_p3 ⊢
  clear hw
  -- ('call', 'spec', 'FinishToken', [('arg', 0), ('arg', 1), ('arg', 2), ('copy', 3, 'BlindReply')], ['w0', 'w1'])
  refine (toBlindReply_any A3.out HB.out.size (show (0 : Nat) ≤ 1073741824 by decide)).mono ?_
  rintro e w2_ ⟨c_t1, he, hO_t1, hb⟩
  subst he
  have hF_t1 : ∀ b, (ival w1_.heap.size w2_.heap.size) b → w1_.heap.size ≤ b ∧ b < w2_.heap.size := fun b h => h
  obtain ⟨rfl, _⟩ := own_BlindReply hO_t1
  have D_t1 : Hid (∀ b, (ival w1_.heap.size w2_.heap.size) b → w.heap.size ≤ b) := Lib.hid (fun b h => Nat.le_trans HB.out.size (hF_t1 b h).1)
  replace A3 := Lib.hid (tyBlindReply.behind A3.out (hb.mono HB.out.size))
  replace K_p3 := Lib.hid ((hb.block _ (lt_of_block K_p3.out)).trans K_p3.out)
  replace HB := Lib.hid (HB.out.trans (hb.mono HB.out.size))
  clear hb
  have O_t1 := Lib.hid hO_t1
  have E_t1 : Hid (∀ b, (ival w1_.heap.size w2_.heap.size) b → b < w2_.heap.size) := Lib.hid (fun b h => (hF_t1 b h).2)
  clear hO_t1 hF_t1
  have k_p3_0 := blk_cell K_p3.out 0
  rw [cell3_0] at k_p3_0
  have k_p3_1 := blk_cell K_p3.out 1
  rw [cell3_1] at k_p3_1
  have k_p3_2 := blk_cell K_p3.out 2
  rw [cell3_2] at k_p3_2
  go_wp2_with fail
  clear k_p3_0 k_p3_1 k_p3_2
  refine (spec_fn_t (tyBlindReply.ord O_t1.out) (Nat.le_refl _) W0.out W1.out W2.out).mono ?_
  obtain ⟨Y0, hY0⟩ : ∃ y : VToken, y = (fnS a0 a1 a2 s3.1 s3.2.1 s3.2.2, fnV a0 a1 a2 s3.1 s3.2.1 s3.2.2) := ⟨_, rfl⟩
  obtain ⟨Y1, hY1⟩ : ∃ y : Bool, y = fnok a0 a1 a2 s3.1 s3.2.1 s3.2.2 := ⟨_, rfl⟩
  rintro e w3_ ⟨c_w0, F_w0, he, hO_w0, hF_w0, hb⟩
  replace hO_w0 : tyToken.own F_w0 w3_ c_w0 ((fnS a0 a1 a2 s3.1 s3.2.1 s3.2.2, fnV a0 a1 a2 s3.1 s3.2.1 s3.2.2)) := hO_w0
  rw [← hY0] at hO_w0
  rw [← hY1] at he
  have HY0 := Lib.hid hY0
  clear hY0
  have HY1 := Lib.hid hY1
  clear hY1
  subst he
  obtain ⟨rfl, _⟩ := own_Token hO_w0
  have D_w0 : Hid (∀ b, F_w0 b → w.heap.size ≤ b) := Lib.hid (fun b h => Nat.le_trans HB.out.size (hF_w0 b h).1)
  replace A3 := Lib.hid (tyBlindReply.behind A3.out (hb.mono HB.out.size))
  replace O_t1 := Lib.hid (tyBlindReply.onext O_t1.out hb)
  replace E_t1 : Hid (∀ b, (ival w1_.heap.size w2_.heap.size) b → b < w3_.heap.size) := Lib.hid (fun b h => Nat.lt_of_lt_of_le (E_t1.out b h) hb.size)
  replace K_p3 := Lib.hid ((hb.block _ (lt_of_block K_p3.out)).trans K_p3.out)
  replace HB := Lib.hid (HB.out.trans (hb.mono HB.out.size))
  clear hb
  have O_w0 := Lib.hid hO_w0
  have E_w0 : Hid (∀ b, F_w0 b → b < w3_.heap.size) := Lib.hid (fun b h => (hF_w0 b h).2)
  clear hO_w0 hF_w0
  have hb : Below w3_.heap.size w3_ (w3_.alloc (.cells #[.int .i64 Y0.1, .int .i64 Y0.2] 39)) := (Below.refl _ _).alloc (Nat.le_refl _) _
  replace A3 := Lib.hid (tyBlindReply.behind A3.out (hb.mono HB.out.size))
  replace O_t1 := Lib.hid (tyBlindReply.onext O_t1.out hb)
  replace E_t1 : Hid (∀ b, (ival w1_.heap.size w2_.heap.size) b → b < (w3_.alloc (.cells #[.int .i64 Y0.1, .int .i64 Y0.2] 39)).heap.size) := Lib.hid (fun b h => Nat.lt_of_lt_of_le (E_t1.out b h) hb.size)
  replace O_w0 := Lib.hid (tyToken.onext O_w0.out hb)
  replace E_w0 : Hid (∀ b, F_w0 b → b < (w3_.alloc (.cells #[.int .i64 Y0.1, .int .i64 Y0.2] 39)).heap.size) := Lib.hid (fun b h => Nat.lt_of_lt_of_le (E_w0.out b h) hb.size)
  replace K_p3 := Lib.hid ((hb.block _ (lt_of_block K_p3.out)).trans K_p3.out)
  replace HB := Lib.hid (HB.out.trans (hb.mono HB.out.size))
  clear hb
  have K_w0 := Lib.hid (heap_alloc_new w3_ (.cells #[.int .i64 Y0.1, .int .i64 Y0.2] 39))
  have k_p3_0 := blk_cell K_p3.out 0
  rw [cell3_0] at k_p3_0
  have k_p3_1 := blk_cell K_p3.out 1
  rw [cell3_1] at k_p3_1
  have k_p3_2 := blk_cell K_p3.out 2
  rw [cell3_2] at k_p3_2
  have k_w0_0 := blk_cell K_w0.out 0
  rw [cell2_0] at k_w0_0
  have k_w0_1 := blk_cell K_w0.out 1
  rw [cell2_1] at k_w0_1
  go_wp2_with fail
  clear k_p3_0 k_p3_1 k_p3_2 k_w0_0 k_w0_1
  obtain ⟨w4_, hw⟩ : ∃ x, x = (w3_.alloc (.cells #[.int .i64 Y0.1, .int .i64 Y0.2] 39)) := ⟨_, rfl⟩
  rw [← hw] at HB A3 O_t1 E_t1 O_w0 E_w0 K_p3 K_w0 ⊢
  clear hw
  clear O_t1 E_t1 D_t1
  -- ('call', 'impl', 'FinishToken', [('arg', 0), ('arg', 1), ('arg', 2), ('copy', 3, 'BlindReply')], ['g0', 'g1'])
  refine (toBlindReply_any A3.out HB.out.size (show (0 : Nat) ≤ 1073741824 by decide)).mono ?_
  rintro e w5_ ⟨c_t2, he, hO_t2, hb⟩
  subst he
  have hF_t2 : ∀ b, (ival w4_.heap.size w5_.heap.size) b → w4_.heap.size ≤ b ∧ b < w5_.heap.size := fun b h => h
  obtain ⟨rfl, _⟩ := own_BlindReply hO_t2
  have D_t2 : Hid (∀ b, (ival w4_.heap.size w5_.heap.size) b → w.heap.size ≤ b) := Lib.hid (fun b h => Nat.le_trans HB.out.size (hF_t2 b h).1)
  replace A3 := Lib.hid (tyBlindReply.behind A3.out (hb.mono HB.out.size))
  replace O_w0 := Lib.hid (tyToken.onext O_w0.out hb)
  replace E_w0 : Hid (∀ b, F_w0 b → b < w5_.heap.size) := Lib.hid (fun b h => Nat.lt_of_lt_of_le (E_w0.out b h) hb.size)
  replace K_p3 := Lib.hid ((hb.block _ (lt_of_block K_p3.out)).trans K_p3.out)
  replace K_w0 := Lib.hid ((hb.block _ (lt_of_block K_w0.out)).trans K_w0.out)
  replace HB := Lib.hid (HB.out.trans (hb.mono HB.out.size))
  clear hb
  have O_t2 := Lib.hid hO_t2
  have E_t2 : Hid (∀ b, (ival w4_.heap.size w5_.heap.size) b → b < w5_.heap.size) := Lib.hid (fun b h => (hF_t2 b h).2)
  clear hO_t2 hF_t2
  have k_p3_0 := blk_cell K_p3.out 0
  rw [cell3_0] at k_p3_0
  have k_p3_1 := blk_cell K_p3.out 1
  rw [cell3_1] at k_p3_1
  have k_p3_2 := blk_cell K_p3.out 2
  rw [cell3_2] at k_p3_2
  have k_w0_0 := blk_cell K_w0.out 0
  rw [cell2_0] at k_w0_0
  have k_w0_1 := blk_cell K_w0.out 1
  rw [cell2_1] at k_w0_1
  go_wp2_with fail
  clear k_p3_0 k_p3_1 k_p3_2 k_w0_0 k_w0_1
  refine (impl_fn_t (tyBlindReply.ord O_t2.out) (Nat.le_refl _) W0.out W1.out W2.out).mono ?_
  rintro e w6_ ⟨c_g0, F_g0, he, hO_g0, hF_g0, hb⟩
  replace hO_g0 : tyToken.own F_g0 w6_ c_g0 ((fnS a0 a1 a2 s3.1 s3.2.1 s3.2.2, fnV a0 a1 a2 s3.1 s3.2.1 s3.2.2)) := hO_g0
  rw [← HY0.out] at hO_g0
  rw [← HY1.out] at he
  subst he
  obtain ⟨rfl, _⟩ := own_Token hO_g0
  have D_g0 : Hid (∀ b, F_g0 b → w.heap.size ≤ b) := Lib.hid (fun b h => Nat.le_trans HB.out.size (hF_g0 b h).1)
  replace A3 := Lib.hid (tyBlindReply.behind A3.out (hb.mono HB.out.size))
  replace O_w0 := Lib.hid (tyToken.onext O_w0.out hb)
  replace E_w0 : Hid (∀ b, F_w0 b → b < w6_.heap.size) := Lib.hid (fun b h => Nat.lt_of_lt_of_le (E_w0.out b h) hb.size)
  replace O_t2 := Lib.hid (tyBlindReply.onext O_t2.out hb)
  replace E_t2 : Hid (∀ b, (ival w4_.heap.size w5_.heap.size) b → b < w6_.heap.size) := Lib.hid (fun b h => Nat.lt_of_lt_of_le (E_t2.out b h) hb.size)
  replace K_p3 := Lib.hid ((hb.block _ (lt_of_block K_p3.out)).trans K_p3.out)
  replace K_w0 := Lib.hid ((hb.block _ (lt_of_block K_w0.out)).trans K_w0.out)
  replace HB := Lib.hid (HB.out.trans (hb.mono HB.out.size))
  clear hb
  have O_g0 := Lib.hid hO_g0
  have E_g0 : Hid (∀ b, F_g0 b → b < w6_.heap.size) := Lib.hid (fun b h => (hF_g0 b h).2)
  clear hO_g0 hF_g0
  have hb : Below w6_.heap.size w6_ (w6_.alloc (.cells #[.int .i64 Y0.1, .int .i64 Y0.2] 39)) := (Below.refl _ _).alloc (Nat.le_refl _) _
  replace A3 := Lib.hid (tyBlindReply.behind A3.out (hb.mono HB.out.size))
  replace O_w0 := Lib.hid (tyToken.onext O_w0.out hb)
  replace E_w0 : Hid (∀ b, F_w0 b → b < (w6_.alloc (.cells #[.int .i64 Y0.1, .int .i64 Y0.2] 39)).heap.size) := Lib.hid (fun b h => Nat.lt_of_lt_of_le (E_w0.out b h) hb.size)
  replace O_t2 := Lib.hid (tyBlindReply.onext O_t2.out hb)
  replace E_t2 : Hid (∀ b, (ival w4_.heap.size w5_.heap.size) b → b < (w6_.alloc (.cells #[.int .i64 Y0.1, .int .i64 Y0.2] 39)).heap.size) := Lib.hid (fun b h => Nat.lt_of_lt_of_le (E_t2.out b h) hb.size)
  replace O_g0 := Lib.hid (tyToken.onext O_g0.out hb)
  replace E_g0 : Hid (∀ b, F_g0 b → b < (w6_.alloc (.cells #[.int .i64 Y0.1, .int .i64 Y0.2] 39)).heap.size) := Lib.hid (fun b h => Nat.lt_of_lt_of_le (E_g0.out b h) hb.size)
  replace K_p3 := Lib.hid ((hb.block _ (lt_of_block K_p3.out)).trans K_p3.out)
  replace K_w0 := Lib.hid ((hb.block _ (lt_of_block K_w0.out)).trans K_w0.out)
  replace HB := Lib.hid (HB.out.trans (hb.mono HB.out.size))
  clear hb
  have K_g0 := Lib.hid (heap_alloc_new w6_ (.cells #[.int .i64 Y0.1, .int .i64 Y0.2] 39))
  have k_p3_0 := blk_cell K_p3.out 0
  rw [cell3_0] at k_p3_0
  have k_p3_1 := blk_cell K_p3.out 1
  rw [cell3_1] at k_p3_1
  have k_p3_2 := blk_cell K_p3.out 2
  rw [cell3_2] at k_p3_2
  have k_w0_0 := blk_cell K_w0.out 0
  rw [cell2_0] at k_w0_0
  have k_w0_1 := blk_cell K_w0.out 1
  rw [cell2_1] at k_w0_1
  have k_g0_0 := blk_cell K_g0.out 0
  rw [cell2_0] at k_g0_0
  have k_g0_1 := blk_cell K_g0.out 1
  rw [cell2_1] at k_g0_1
  go_wp2_with fail
  clear k_p3_0 k_p3_1 k_p3_2 k_w0_0 k_w0_1 k_g0_0 k_g0_1
  obtain ⟨w7_, hw⟩ : ∃ x, x = (w6_.alloc (.cells #[.int .i64 Y0.1, .int .i64 Y0.2] 39)) := ⟨_, rfl⟩
  rw [← hw] at HB A3 O_w0 E_w0 O_t2 E_t2 O_g0 E_g0 K_p3 K_w0 K_g0 ⊢
  clear hw
  clear O_t2 E_t2 D_t2
  clear A3
  clear K_p3
  -- ('eq', 'Token', ('own', 'g0'), ('own', 'w0'))
  refine (eqToken_same (tyToken.ord O_g0.out) (tyToken.ord O_w0.out) (Nat.le_refl _) (Nat.le_refl _)).mono ?_
  rintro e w8_ ⟨he, hb⟩
  subst he
  replace O_w0 := Lib.hid (tyToken.onext O_w0.out hb)
  replace E_w0 : Hid (∀ b, F_w0 b → b < w8_.heap.size) := Lib.hid (fun b h => Nat.lt_of_lt_of_le (E_w0.out b h) hb.size)
  replace O_g0 := Lib.hid (tyToken.onext O_g0.out hb)
  replace E_g0 : Hid (∀ b, F_g0 b → b < w8_.heap.size) := Lib.hid (fun b h => Nat.lt_of_lt_of_le (E_g0.out b h) hb.size)
  replace K_w0 := Lib.hid ((hb.block _ (lt_of_block K_w0.out)).trans K_w0.out)
  replace K_g0 := Lib.hid ((hb.block _ (lt_of_block K_g0.out)).trans K_g0.out)
  replace HB := Lib.hid (HB.out.trans (hb.mono HB.out.size))
  clear hb
  clear O_w0 E_w0 D_w0
  clear K_w0
  clear O_g0 E_g0 D_g0
  clear K_g0
  go_wp2_with fail
  go_ret
  exact ⟨rfl, HB.out⟩
  
end Go.Proofs.Ytdccljmffmlkbaa
