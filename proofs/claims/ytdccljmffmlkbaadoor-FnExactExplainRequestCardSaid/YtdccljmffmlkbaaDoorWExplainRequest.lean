/- FnExactExplainRequest: the walk. No conditions. -/
import Derived.Test.YtdccljmffmlkbaaDoorTkX
import Derived.Test.YtdccljmffmlkbaaDoorCells
import Derived.Deep.RegionHeld3
import Derived.Deep.DeepCutAuto
namespace Go.Proofs.YtdccljmffmlkbaaDoor
open Go Go.RowKit
set_option linter.unusedVariables false
attribute [local irreducible] kh

set_option maxHeartbeats 4000000 in
set_option maxRecDepth 100000 in
theorem fnExactExplainRequest_walk (c0 : List Value) (s0 : VBlindRequest) (a1 : Int) (w : World) (w0 : tyBlindRequest.rd w.heap.size w c0 s0) (w1 : (Lit.int .i64 a1).wf = true) (hL : laidMetH Tryd.prog Rows.fnExactExplainRequestRow.laid w) :
    Calls Tryd.prog 7 #[.agg c0.toArray, .int .i64 a1] w fun e w' => e = .returned (.bool true) ∧ Below w.heap.size w w' := by
  have HL := Lib.hid (gv_of_laid hL)
  clear hL
  obtain ⟨rfl, _⟩ := rd_BlindRequest w0
  have A0 := Lib.hid w0
  clear w0
  have W1 := Lib.hid w1
  have w1b := wf_i64 w1
  clear w1
  go_enter Tryd.func7, Tryd.ntmps7
  have hb := ((Below.refl w.heap.size w).alloc (Nat.le_refl _) (.cells #[.int .i64 s0] 58))
  have K_p0 := Lib.hid (heap_alloc_new w (.cells #[.int .i64 s0] 58))
  replace A0 := Lib.hid (tyBlindRequest.behind A0.out hb)
  have HB := Lib.hid hb
  clear hb
  have k_p0_0 := blk_cell K_p0.out 0
  rw [cell1_0] at k_p0_0
  go_wp2_with fail
  clear k_p0_0
  obtain ⟨w1_, hw⟩ : ∃ x, x = (w.alloc (.cells #[.int .i64 s0] 58)) := ⟨_, rfl⟩
  rw [← hw] at HB A0 K_p0 ⊢
  clear hw
  -- ('call', 'spec', 'ExplainRequest', [('copy', 0, 'BlindRequest'), ('arg', 1)], ['w0', 'w1'])
  refine (toBlindRequest_any A0.out HB.out.size (show (0 : Nat) ≤ 1073741824 by decide)).mono ?_
  rintro e w2_ ⟨c_t1, he, hO_t1, hb⟩
  subst he
  have hF_t1 : ∀ b, (ival w1_.heap.size w2_.heap.size) b → w1_.heap.size ≤ b ∧ b < w2_.heap.size := fun b h => h
  obtain ⟨rfl, _⟩ := own_BlindRequest hO_t1
  have D_t1 : Hid (∀ b, (ival w1_.heap.size w2_.heap.size) b → w.heap.size ≤ b) := Lib.hid (fun b h => Nat.le_trans HB.out.size (hF_t1 b h).1)
  replace A0 := Lib.hid (tyBlindRequest.behind A0.out (hb.mono HB.out.size))
  replace K_p0 := Lib.hid ((hb.block _ (lt_of_block K_p0.out)).trans K_p0.out)
  replace HB := Lib.hid (HB.out.trans (hb.mono HB.out.size))
  clear hb
  have O_t1 := Lib.hid hO_t1
  have E_t1 : Hid (∀ b, (ival w1_.heap.size w2_.heap.size) b → b < w2_.heap.size) := Lib.hid (fun b h => (hF_t1 b h).2)
  clear hO_t1 hF_t1
  have k_p0_0 := blk_cell K_p0.out 0
  rw [cell1_0] at k_p0_0
  go_wp2_with fail
  clear k_p0_0
  refine (spec_ex_t (tyBlindRequest.ord O_t1.out) (Nat.le_refl _) W1.out).mono ?_
  obtain ⟨Y0, hY0⟩ : ∃ y : Int, y = exV s0 a1 := ⟨_, rfl⟩
  obtain ⟨Y1, hY1⟩ : ∃ y : Bool, y = exok s0 a1 := ⟨_, rfl⟩
  rintro e w3_ ⟨he, hb⟩
  rw [← hY0] at he
  rw [← hY1] at he
  have HY0 := Lib.hid hY0
  clear hY0
  have HY1 := Lib.hid hY1
  clear hY1
  subst he
  replace A0 := Lib.hid (tyBlindRequest.behind A0.out (hb.mono HB.out.size))
  replace O_t1 := Lib.hid (tyBlindRequest.onext O_t1.out hb)
  replace E_t1 : Hid (∀ b, (ival w1_.heap.size w2_.heap.size) b → b < w3_.heap.size) := Lib.hid (fun b h => Nat.lt_of_lt_of_le (E_t1.out b h) hb.size)
  replace K_p0 := Lib.hid ((hb.block _ (lt_of_block K_p0.out)).trans K_p0.out)
  replace HB := Lib.hid (HB.out.trans (hb.mono HB.out.size))
  clear hb
  clear O_t1 E_t1 D_t1
  -- ('call', 'impl', 'ExplainRequest', [('copy', 0, 'BlindRequest'), ('arg', 1)], ['g0', 'g1'])
  have k_p0_0 := blk_cell K_p0.out 0
  rw [cell1_0] at k_p0_0
  go_wp2_with fail
  clear k_p0_0
  refine (toBlindRequest_any A0.out HB.out.size (show (0 : Nat) ≤ 1073741824 by decide)).mono ?_
  rintro e w4_ ⟨c_t2, he, hO_t2, hb⟩
  subst he
  have hF_t2 : ∀ b, (ival w3_.heap.size w4_.heap.size) b → w3_.heap.size ≤ b ∧ b < w4_.heap.size := fun b h => h
  obtain ⟨rfl, _⟩ := own_BlindRequest hO_t2
  have D_t2 : Hid (∀ b, (ival w3_.heap.size w4_.heap.size) b → w.heap.size ≤ b) := Lib.hid (fun b h => Nat.le_trans HB.out.size (hF_t2 b h).1)
  replace A0 := Lib.hid (tyBlindRequest.behind A0.out (hb.mono HB.out.size))
  replace K_p0 := Lib.hid ((hb.block _ (lt_of_block K_p0.out)).trans K_p0.out)
  replace HB := Lib.hid (HB.out.trans (hb.mono HB.out.size))
  clear hb
  have O_t2 := Lib.hid hO_t2
  have E_t2 : Hid (∀ b, (ival w3_.heap.size w4_.heap.size) b → b < w4_.heap.size) := Lib.hid (fun b h => (hF_t2 b h).2)
  clear hO_t2 hF_t2
  have k_p0_0 := blk_cell K_p0.out 0
  rw [cell1_0] at k_p0_0
  go_wp2_with fail
  clear k_p0_0
  refine (impl_ex_t (tyBlindRequest.ord O_t2.out) (Nat.le_refl _) W1.out (HL.out.next HB.out)).mono ?_
  rintro e w5_ ⟨he, hb⟩
  rw [← HY0.out] at he
  rw [← HY1.out] at he
  subst he
  replace A0 := Lib.hid (tyBlindRequest.behind A0.out (hb.mono HB.out.size))
  replace O_t2 := Lib.hid (tyBlindRequest.onext O_t2.out hb)
  replace E_t2 : Hid (∀ b, (ival w3_.heap.size w4_.heap.size) b → b < w5_.heap.size) := Lib.hid (fun b h => Nat.lt_of_lt_of_le (E_t2.out b h) hb.size)
  replace K_p0 := Lib.hid ((hb.block _ (lt_of_block K_p0.out)).trans K_p0.out)
  replace HB := Lib.hid (HB.out.trans (hb.mono HB.out.size))
  clear hb
  clear O_t2 E_t2 D_t2
  clear A0
  clear K_p0
  go_wp2_with fail
  go_ret
  exact ⟨rfl, HB.out⟩
  
end Go.Proofs.YtdccljmffmlkbaaDoor
