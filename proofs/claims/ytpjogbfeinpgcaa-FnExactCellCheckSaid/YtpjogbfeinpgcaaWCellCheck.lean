/- FnExactCellCheck: the walk. No conditions. -/
import Derived.Test.YtpjogbfeinpgcaaClW
import Derived.Test.YtpjogbfeinpgcaaCells
import Derived.Deep.RegionHeld3
import Derived.Deep.DeepCutAuto
namespace Go.Proofs.Ytpjogbfeinpgcaa
open Go Go.RowKit
set_option linter.unusedVariables false
attribute [local irreducible] kh

set_option maxHeartbeats 4000000 in
set_option maxRecDepth 100000 in
theorem fnExactCellCheck_walk (a0 : Int) (a1 : Int) (v2 : Value) (s2 : List Int) (w : World) (w0 : (Lit.int .i64 a0).wf = true) (w1 : (Lit.int .i64 a1).wf = true) (w2 : (sliceT 5 u8T).rd w.heap.size w [v2] s2) :
    Calls Try.prog 5 #[.int .i64 a0, .int .i64 a1, v2] w fun e w' => e = .returned (.bool true) ∧ Below w.heap.size w w' := by
  obtain ⟨av2, cv2, hv2, lv2, mv2, _⟩ := sl_open w2
  have hw2 := (List.cons.inj hv2).1
  clear hv2
  subst hw2
  unfold maxLen at mv2
  have A2 := Lib.hid w2
  clear w2
  have W0 := Lib.hid w0
  have w0b := wf_i64 w0
  clear w0
  have W1 := Lib.hid w1
  have w1b := wf_i64 w1
  clear w1
  by_cases by2 : (s2.length : Int) ≤ 1048576
  case neg =>
    have db2 : decide ((1048576 : Int) < (s2.length : Int)) = true := by simp; omega
    go_enter Try.func5, Try.ntmps5
    have HB := Lib.hid (Below.refl w.heap.size w)
    go_wp2_with fail
    go_ret
    exact ⟨rfl, HB.out⟩
  have db2 : decide ((1048576 : Int) < (s2.length : Int)) = false := by simp; omega
  have B2t : Hid ((sliceT 5 u8T).tot s2 ≤ 1048576) := Lib.hid (by show totL (intT _ _ _) _ ≤ _; rw [totL_int]; omega)
  have L2t : Hid (s2.length ≤ 1048576) := Lib.hid (by omega)
  clear by2
  go_enter Try.func5, Try.ntmps5
  have HB := Lib.hid (Below.refl w.heap.size w)
  -- ('big', 2)
  -- ('call', 'spec', 'CellCheck', [('arg', 0), ('arg', 1), ('copy', 2, '[]byte')], ['w0'])
  go_wp2_with fail
  refine (toByteS_t A2.out HB.out.size (Nat.le_trans B2t.out (by decide))).mono ?_
  rintro e w1_ ⟨v_t1, he, hO_t1, hb⟩
  subst he
  have hF_t1 : ∀ b, (ival w.heap.size w1_.heap.size) b → w.heap.size ≤ b ∧ b < w1_.heap.size := fun b h => h
  have D_t1 : Hid (∀ b, (ival w.heap.size w1_.heap.size) b → w.heap.size ≤ b) := Lib.hid (fun b h => Nat.le_trans HB.out.size (hF_t1 b h).1)
  replace A2 := Lib.hid ((sliceT 5 u8T).behind A2.out (hb.mono HB.out.size))
  replace HB := Lib.hid (HB.out.trans (hb.mono HB.out.size))
  clear hb
  have O_t1 := Lib.hid hO_t1
  have E_t1 : Hid (∀ b, (ival w.heap.size w1_.heap.size) b → b < w1_.heap.size) := Lib.hid (fun b h => (hF_t1 b h).2)
  clear hO_t1 hF_t1
  go_wp2_with fail
  refine (spec_cc_t ((sliceT 5 u8T).ord O_t1.out) (Nat.le_refl _) W0.out W1.out (Nat.le_trans L2t.out (by decide))).mono ?_
  obtain ⟨Y0, hY0⟩ : ∃ y : Int, y = chkv a0 a1 s2 := ⟨_, rfl⟩
  rintro e w2_ ⟨he, hb⟩
  rw [← hY0] at he
  have HY0 := Lib.hid hY0
  clear hY0
  subst he
  replace A2 := Lib.hid ((sliceT 5 u8T).behind A2.out (hb.mono HB.out.size))
  replace O_t1 := Lib.hid ((sliceT 5 u8T).onext O_t1.out hb)
  replace E_t1 : Hid (∀ b, (ival w.heap.size w1_.heap.size) b → b < w2_.heap.size) := Lib.hid (fun b h => Nat.lt_of_lt_of_le (E_t1.out b h) hb.size)
  replace HB := Lib.hid (HB.out.trans (hb.mono HB.out.size))
  clear hb
  clear O_t1 E_t1 D_t1
  -- ('copy', 'x2', 2, '[]byte')
  go_wp2_with fail
  refine (toByteS_t A2.out HB.out.size (Nat.le_trans B2t.out (by decide))).mono ?_
  rintro e w3_ ⟨v_x2, he, hO_x2, hb⟩
  subst he
  have hF_x2 : ∀ b, (ival w2_.heap.size w3_.heap.size) b → w2_.heap.size ≤ b ∧ b < w3_.heap.size := fun b h => h
  have D_x2 : Hid (∀ b, (ival w2_.heap.size w3_.heap.size) b → w.heap.size ≤ b) := Lib.hid (fun b h => Nat.le_trans HB.out.size (hF_x2 b h).1)
  replace A2 := Lib.hid ((sliceT 5 u8T).behind A2.out (hb.mono HB.out.size))
  replace HB := Lib.hid (HB.out.trans (hb.mono HB.out.size))
  clear hb
  have O_x2 := Lib.hid hO_x2
  have E_x2 : Hid (∀ b, (ival w2_.heap.size w3_.heap.size) b → b < w3_.heap.size) := Lib.hid (fun b h => (hF_x2 b h).2)
  clear hO_x2 hF_x2
  -- ('call', 'impl', 'CellCheck', [('arg', 0), ('arg', 1), ('own', 'x2')], ['g0'])
  go_wp2_with fail
  refine (impl_cc_t ((sliceT 5 u8T).ord O_x2.out) (Nat.le_refl _) W0.out W1.out (Nat.le_trans L2t.out (by decide))).mono ?_
  rintro e w4_ ⟨he, hb⟩
  rw [← HY0.out] at he
  subst he
  replace A2 := Lib.hid ((sliceT 5 u8T).behind A2.out (hb.mono HB.out.size))
  replace O_x2 := Lib.hid ((sliceT 5 u8T).onext O_x2.out hb)
  replace E_x2 : Hid (∀ b, (ival w2_.heap.size w3_.heap.size) b → b < w4_.heap.size) := Lib.hid (fun b h => Nat.lt_of_lt_of_le (E_x2.out b h) hb.size)
  replace HB := Lib.hid (HB.out.trans (hb.mono HB.out.size))
  clear hb
  -- ('eq', '[]byte', ('own', 'x2'), ('copy', 2, '[]byte'))
  go_wp2_with fail
  refine (toByteS_t A2.out HB.out.size (Nat.le_trans B2t.out (by decide))).mono ?_
  rintro e w5_ ⟨v_t2, he, hO_t2, hb⟩
  subst he
  have hF_t2 : ∀ b, (ival w4_.heap.size w5_.heap.size) b → w4_.heap.size ≤ b ∧ b < w5_.heap.size := fun b h => h
  have D_t2 : Hid (∀ b, (ival w4_.heap.size w5_.heap.size) b → w.heap.size ≤ b) := Lib.hid (fun b h => Nat.le_trans HB.out.size (hF_t2 b h).1)
  replace A2 := Lib.hid ((sliceT 5 u8T).behind A2.out (hb.mono HB.out.size))
  replace O_x2 := Lib.hid ((sliceT 5 u8T).onext O_x2.out hb)
  replace E_x2 : Hid (∀ b, (ival w2_.heap.size w3_.heap.size) b → b < w5_.heap.size) := Lib.hid (fun b h => Nat.lt_of_lt_of_le (E_x2.out b h) hb.size)
  replace HB := Lib.hid (HB.out.trans (hb.mono HB.out.size))
  clear hb
  have O_t2 := Lib.hid hO_t2
  have E_t2 : Hid (∀ b, (ival w4_.heap.size w5_.heap.size) b → b < w5_.heap.size) := Lib.hid (fun b h => (hF_t2 b h).2)
  clear hO_t2 hF_t2
  go_wp2_with fail
  refine (eqByteS_same_t ((sliceT 5 u8T).ord O_x2.out) ((sliceT 5 u8T).ord O_t2.out) (Nat.le_refl _) (Nat.le_refl _)).mono ?_
  rintro e w6_ ⟨he, hb⟩
  subst he
  replace A2 := Lib.hid ((sliceT 5 u8T).behind A2.out (hb.mono HB.out.size))
  replace O_x2 := Lib.hid ((sliceT 5 u8T).onext O_x2.out hb)
  replace E_x2 : Hid (∀ b, (ival w2_.heap.size w3_.heap.size) b → b < w6_.heap.size) := Lib.hid (fun b h => Nat.lt_of_lt_of_le (E_x2.out b h) hb.size)
  replace O_t2 := Lib.hid ((sliceT 5 u8T).onext O_t2.out hb)
  replace E_t2 : Hid (∀ b, (ival w4_.heap.size w5_.heap.size) b → b < w6_.heap.size) := Lib.hid (fun b h => Nat.lt_of_lt_of_le (E_t2.out b h) hb.size)
  replace HB := Lib.hid (HB.out.trans (hb.mono HB.out.size))
  clear hb
  clear O_x2 E_x2 D_x2
  clear O_t2 E_t2 D_t2
  clear A2
  go_wp2_with fail
  go_ret
  exact ⟨rfl, HB.out⟩
  
end Go.Proofs.Ytpjogbfeinpgcaa
