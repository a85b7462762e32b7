/- FnExactFindCounter: the walk. No conditions. -/
import Derived.Test.YtbimihljaalllaaDoorClX
import Derived.Test.YtbimihljaalllaaDoorCells
import Derived.Deep.RegionHeld3
import Derived.Deep.DeepCutAuto
namespace Go.Proofs.YtbimihljaalllaaDoor
open Go Go.RowKit
set_option linter.unusedVariables false
attribute [local irreducible] kh

set_option maxHeartbeats 4000000 in
set_option maxRecDepth 100000 in
theorem fnExactFindCounter_walk (a0 : Int) (v1 : Value) (s1 : List Int) (a2 : Int) (a3 : Int) (w : World) (w0 : (Lit.int .i64 a0).wf = true) (w1 : (sliceT 5 u8T).rd w.heap.size w [v1] s1) (w2 : (Lit.int .i64 a2).wf = true) (w3 : (Lit.int .i64 a3).wf = true) (hL : laidMetH Tryd.prog Rows.fnExactFindCounterRow.laid w) :
    Calls Tryd.prog 5 #[.int .i64 a0, v1, .int .i64 a2, .int .i64 a3] w fun e w' => e = .returned (.bool true) ∧ Below w.heap.size w w' := by
  have HL := Lib.hid (gv_of_laid hL)
  clear hL
  obtain ⟨av1, cv1, hv1, lv1, mv1, _⟩ := sl_open w1
  have hw1 := (List.cons.inj hv1).1
  clear hv1
  subst hw1
  unfold maxLen at mv1
  have A1 := Lib.hid w1
  clear w1
  have W0 := Lib.hid w0
  have w0b := wf_i64 w0
  clear w0
  have W2 := Lib.hid w2
  have w2b := wf_i64 w2
  clear w2
  have W3 := Lib.hid w3
  have w3b := wf_i64 w3
  clear w3
  by_cases by1 : (s1.length : Int) ≤ 1048576
  case neg =>
    have db1 : decide ((1048576 : Int) < (s1.length : Int)) = true := by simp; omega
    go_enter Tryd.func5, Tryd.ntmps5
    have HB := Lib.hid (Below.refl w.heap.size w)
    go_wp2_with fail
    go_ret
    exact ⟨rfl, HB.out⟩
  have db1 : decide ((1048576 : Int) < (s1.length : Int)) = false := by simp; omega
  have B1t : Hid ((sliceT 5 u8T).tot s1 ≤ 1048576) := Lib.hid (by show totL (intT _ _ _) _ ≤ _; rw [totL_int]; omega)
  have L1t : Hid (s1.length ≤ 1048576) := Lib.hid (by omega)
  clear by1
  go_enter Tryd.func5, Tryd.ntmps5
  have HB := Lib.hid (Below.refl w.heap.size w)
  -- ('big', 1)
  -- ('call', 'spec', 'FindCounter', [('arg', 0), ('copy', 1, '[]byte'), ('arg', 2), ('arg', 3)], ['w0'])
  go_wp2_with fail
  refine (toByteS_t A1.out HB.out.size (Nat.le_trans B1t.out (by decide))).mono ?_
  rintro e w1_ ⟨v_t1, he, hO_t1, hb⟩
  subst he
  have hF_t1 : ∀ b, (ival w.heap.size w1_.heap.size) b → w.heap.size ≤ b ∧ b < w1_.heap.size := fun b h => h
  have D_t1 : Hid (∀ b, (ival w.heap.size w1_.heap.size) b → w.heap.size ≤ b) := Lib.hid (fun b h => Nat.le_trans HB.out.size (hF_t1 b h).1)
  replace A1 := Lib.hid ((sliceT 5 u8T).behind A1.out (hb.mono HB.out.size))
  replace HB := Lib.hid (HB.out.trans (hb.mono HB.out.size))
  clear hb
  have O_t1 := Lib.hid hO_t1
  have E_t1 : Hid (∀ b, (ival w.heap.size w1_.heap.size) b → b < w1_.heap.size) := Lib.hid (fun b h => (hF_t1 b h).2)
  clear hO_t1 hF_t1
  go_wp2_with fail
  refine (spec_fc_t ((sliceT 5 u8T).ord O_t1.out) (Nat.le_refl _) W0.out W2.out W3.out).mono ?_
  obtain ⟨Y0, hY0⟩ : ∃ y : Int, y = fcnt a0 s1 a2 a3 := ⟨_, rfl⟩
  rintro e w2_ ⟨he, hb⟩
  rw [← hY0] at he
  have HY0 := Lib.hid hY0
  clear hY0
  subst he
  replace A1 := Lib.hid ((sliceT 5 u8T).behind A1.out (hb.mono HB.out.size))
  replace O_t1 := Lib.hid ((sliceT 5 u8T).onext O_t1.out hb)
  replace E_t1 : Hid (∀ b, (ival w.heap.size w1_.heap.size) b → b < w2_.heap.size) := Lib.hid (fun b h => Nat.lt_of_lt_of_le (E_t1.out b h) hb.size)
  replace HB := Lib.hid (HB.out.trans (hb.mono HB.out.size))
  clear hb
  clear O_t1 E_t1 D_t1
  -- ('copy', 'x1', 1, '[]byte')
  go_wp2_with fail
  refine (toByteS_t A1.out HB.out.size (Nat.le_trans B1t.out (by decide))).mono ?_
  rintro e w3_ ⟨v_x1, he, hO_x1, hb⟩
  subst he
  have hF_x1 : ∀ b, (ival w2_.heap.size w3_.heap.size) b → w2_.heap.size ≤ b ∧ b < w3_.heap.size := fun b h => h
  have D_x1 : Hid (∀ b, (ival w2_.heap.size w3_.heap.size) b → w.heap.size ≤ b) := Lib.hid (fun b h => Nat.le_trans HB.out.size (hF_x1 b h).1)
  replace A1 := Lib.hid ((sliceT 5 u8T).behind A1.out (hb.mono HB.out.size))
  replace HB := Lib.hid (HB.out.trans (hb.mono HB.out.size))
  clear hb
  have O_x1 := Lib.hid hO_x1
  have E_x1 : Hid (∀ b, (ival w2_.heap.size w3_.heap.size) b → b < w3_.heap.size) := Lib.hid (fun b h => (hF_x1 b h).2)
  clear hO_x1 hF_x1
  -- ('call', 'impl', 'FindCounter', [('arg', 0), ('own', 'x1'), ('arg', 2), ('arg', 3)], ['g0'])
  go_wp2_with fail
  refine (impl_fc_t ((sliceT 5 u8T).ord O_x1.out) (Nat.le_refl _) W0.out W2.out W3.out (HL.out.next HB.out)).mono ?_
  rintro e w4_ ⟨he, hb⟩
  rw [← HY0.out] at he
  subst he
  replace A1 := Lib.hid ((sliceT 5 u8T).behind A1.out (hb.mono HB.out.size))
  replace O_x1 := Lib.hid ((sliceT 5 u8T).onext O_x1.out hb)
  replace E_x1 : Hid (∀ b, (ival w2_.heap.size w3_.heap.size) b → b < w4_.heap.size) := Lib.hid (fun b h => Nat.lt_of_lt_of_le (E_x1.out b h) hb.size)
  replace HB := Lib.hid (HB.out.trans (hb.mono HB.out.size))
  clear hb
  -- ('eq', '[]byte', ('own', 'x1'), ('copy', 1, '[]byte'))
  go_wp2_with fail
  refine (toByteS_t A1.out HB.out.size (Nat.le_trans B1t.out (by decide))).mono ?_
  rintro e w5_ ⟨v_t2, he, hO_t2, hb⟩
  subst he
  have hF_t2 : ∀ b, (ival w4_.heap.size w5_.heap.size) b → w4_.heap.size ≤ b ∧ b < w5_.heap.size := fun b h => h
  have D_t2 : Hid (∀ b, (ival w4_.heap.size w5_.heap.size) b → w.heap.size ≤ b) := Lib.hid (fun b h => Nat.le_trans HB.out.size (hF_t2 b h).1)
  replace A1 := Lib.hid ((sliceT 5 u8T).behind A1.out (hb.mono HB.out.size))
  replace O_x1 := Lib.hid ((sliceT 5 u8T).onext O_x1.out hb)
  replace E_x1 : Hid (∀ b, (ival w2_.heap.size w3_.heap.size) b → b < w5_.heap.size) := Lib.hid (fun b h => Nat.lt_of_lt_of_le (E_x1.out b h) hb.size)
  replace HB := Lib.hid (HB.out.trans (hb.mono HB.out.size))
  clear hb
  have O_t2 := Lib.hid hO_t2
  have E_t2 : Hid (∀ b, (ival w4_.heap.size w5_.heap.size) b → b < w5_.heap.size) := Lib.hid (fun b h => (hF_t2 b h).2)
  clear hO_t2 hF_t2
  go_wp2_with fail
  refine (eqByteS_same_t ((sliceT 5 u8T).ord O_x1.out) ((sliceT 5 u8T).ord O_t2.out) (Nat.le_refl _) (Nat.le_refl _)).mono ?_
  rintro e w6_ ⟨he, hb⟩
  subst he
  replace A1 := Lib.hid ((sliceT 5 u8T).behind A1.out (hb.mono HB.out.size))
  replace O_x1 := Lib.hid ((sliceT 5 u8T).onext O_x1.out hb)
  replace E_x1 : Hid (∀ b, (ival w2_.heap.size w3_.heap.size) b → b < w6_.heap.size) := Lib.hid (fun b h => Nat.lt_of_lt_of_le (E_x1.out b h) hb.size)
  replace O_t2 := Lib.hid ((sliceT 5 u8T).onext O_t2.out hb)
  replace E_t2 : Hid (∀ b, (ival w4_.heap.size w5_.heap.size) b → b < w6_.heap.size) := Lib.hid (fun b h => Nat.lt_of_lt_of_le (E_t2.out b h) hb.size)
  replace HB := Lib.hid (HB.out.trans (hb.mono HB.out.size))
  clear hb
  clear O_x1 E_x1 D_x1
  clear O_t2 E_t2 D_t2
  clear A1
  go_wp2_with fail
  go_ret
  exact ⟨rfl, HB.out⟩
  
end Go.Proofs.YtbimihljaalllaaDoor
