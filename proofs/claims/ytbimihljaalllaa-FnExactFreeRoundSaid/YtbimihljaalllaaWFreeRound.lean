/- FnExactFreeRound: the walk. No conditions. -/
import Derived.Test.YtbimihljaalllaaMbW
import Derived.Test.YtbimihljaalllaaCells
import Derived.Deep.RegionHeld3
import Derived.Deep.DeepCutAuto
namespace Go.Proofs.Ytbimihljaalllaa
open Go Go.RowKit
set_option linter.unusedVariables false
attribute [local irreducible] kh

set_option maxHeartbeats 4000000 in
set_option maxRecDepth 100000 in
theorem fnExactFreeRound_walk (v0 : Value) (s0 : List Int) (a1 : Int) (a2 : Int) (w : World) (w0 : (sliceT 3 i64T).rd w.heap.size w [v0] s0) (w1 : (Lit.int .i64 a1).wf = true) (w2 : (Lit.int .i64 a2).wf = true) :
    Calls Try.prog 6 #[v0, .int .i64 a1, .int .i64 a2] w fun e w' => e = .returned (.bool true) ∧ Below w.heap.size w w' := by
  obtain ⟨av0, cv0, hv0, lv0, mv0, _⟩ := sl_open w0
  have hw0 := (List.cons.inj hv0).1
  clear hv0
  subst hw0
  unfold maxLen at mv0
  have A0 := Lib.hid w0
  clear w0
  have W1 := Lib.hid w1
  have w1b := wf_i64 w1
  clear w1
  have W2 := Lib.hid w2
  have w2b := wf_i64 w2
  clear w2
  by_cases by0 : (s0.length : Int) ≤ 1048576
  case neg =>
    have db0 : decide ((1048576 : Int) < (s0.length : Int)) = true := by simp; omega
    go_enter Try.func6, Try.ntmps6
    have HB := Lib.hid (Below.refl w.heap.size w)
    go_wp2_with fail
    go_ret
    exact ⟨rfl, HB.out⟩
  have db0 : decide ((1048576 : Int) < (s0.length : Int)) = false := by simp; omega
  have B0t : Hid ((sliceT 3 i64T).tot s0 ≤ 1048576) := Lib.hid (by show totL (intT _ _ _) _ ≤ _; rw [totL_int]; omega)
  have L0t : Hid (s0.length ≤ 1048576) := Lib.hid (by omega)
  clear by0
  go_enter Try.func6, Try.ntmps6
  have HB := Lib.hid (Below.refl w.heap.size w)
  -- ('big', 0)
  -- ('call', 'spec', 'FreeRound', [('copy', 0, '[]int'), ('arg', 1), ('arg', 2)], ['w0'])
  go_wp2_with fail
  refine (toIntS_t A0.out HB.out.size (Nat.le_trans B0t.out (by decide))).mono ?_
  rintro e w1_ ⟨v_t1, he, hO_t1, hb⟩
  subst he
  have hF_t1 : ∀ b, (ival w.heap.size w1_.heap.size) b → w.heap.size ≤ b ∧ b < w1_.heap.size := fun b h => h
  have D_t1 : Hid (∀ b, (ival w.heap.size w1_.heap.size) b → w.heap.size ≤ b) := Lib.hid (fun b h => Nat.le_trans HB.out.size (hF_t1 b h).1)
  replace A0 := Lib.hid ((sliceT 3 i64T).behind A0.out (hb.mono HB.out.size))
  replace HB := Lib.hid (HB.out.trans (hb.mono HB.out.size))
  clear hb
  have O_t1 := Lib.hid hO_t1
  have E_t1 : Hid (∀ b, (ival w.heap.size w1_.heap.size) b → b < w1_.heap.size) := Lib.hid (fun b h => (hF_t1 b h).2)
  clear hO_t1 hF_t1
  go_wp2_with fail
  refine (spec_fr_t ((sliceT 3 i64T).ord O_t1.out) (Nat.le_refl _) W1.out W2.out (Nat.le_trans L0t.out (by decide))).mono ?_
  obtain ⟨Y0, hY0⟩ : ∃ y : Int, y = fr s0 a1 a2 := ⟨_, rfl⟩
  rintro e w2_ ⟨he, hb⟩
  rw [← hY0] at he
  have HY0 := Lib.hid hY0
  clear hY0
  subst he
  replace A0 := Lib.hid ((sliceT 3 i64T).behind A0.out (hb.mono HB.out.size))
  replace O_t1 := Lib.hid ((sliceT 3 i64T).onext O_t1.out hb)
  replace E_t1 : Hid (∀ b, (ival w.heap.size w1_.heap.size) b → b < w2_.heap.size) := Lib.hid (fun b h => Nat.lt_of_lt_of_le (E_t1.out b h) hb.size)
  replace HB := Lib.hid (HB.out.trans (hb.mono HB.out.size))
  clear hb
  clear O_t1 E_t1 D_t1
  -- ('copy', 'x0', 0, '[]int')
  go_wp2_with fail
  refine (toIntS_t A0.out HB.out.size (Nat.le_trans B0t.out (by decide))).mono ?_
  rintro e w3_ ⟨v_x0, he, hO_x0, hb⟩
  subst he
  have hF_x0 : ∀ b, (ival w2_.heap.size w3_.heap.size) b → w2_.heap.size ≤ b ∧ b < w3_.heap.size := fun b h => h
  have D_x0 : Hid (∀ b, (ival w2_.heap.size w3_.heap.size) b → w.heap.size ≤ b) := Lib.hid (fun b h => Nat.le_trans HB.out.size (hF_x0 b h).1)
  replace A0 := Lib.hid ((sliceT 3 i64T).behind A0.out (hb.mono HB.out.size))
  replace HB := Lib.hid (HB.out.trans (hb.mono HB.out.size))
  clear hb
  have O_x0 := Lib.hid hO_x0
  have E_x0 : Hid (∀ b, (ival w2_.heap.size w3_.heap.size) b → b < w3_.heap.size) := Lib.hid (fun b h => (hF_x0 b h).2)
  clear hO_x0 hF_x0
  -- ('call', 'impl', 'FreeRound', [('own', 'x0'), ('arg', 1), ('arg', 2)], ['g0'])
  go_wp2_with fail
  refine (impl_fr_t ((sliceT 3 i64T).ord O_x0.out) (Nat.le_refl _) W1.out W2.out (Nat.le_trans L0t.out (by decide))).mono ?_
  rintro e w4_ ⟨he, hb⟩
  rw [← HY0.out] at he
  subst he
  replace A0 := Lib.hid ((sliceT 3 i64T).behind A0.out (hb.mono HB.out.size))
  replace O_x0 := Lib.hid ((sliceT 3 i64T).onext O_x0.out hb)
  replace E_x0 : Hid (∀ b, (ival w2_.heap.size w3_.heap.size) b → b < w4_.heap.size) := Lib.hid (fun b h => Nat.lt_of_lt_of_le (E_x0.out b h) hb.size)
  replace HB := Lib.hid (HB.out.trans (hb.mono HB.out.size))
  clear hb
  -- ('eq', '[]int', ('own', 'x0'), ('copy', 0, '[]int'))
  go_wp2_with fail
  refine (toIntS_t A0.out HB.out.size (Nat.le_trans B0t.out (by decide))).mono ?_
  rintro e w5_ ⟨v_t2, he, hO_t2, hb⟩
  subst he
  have hF_t2 : ∀ b, (ival w4_.heap.size w5_.heap.size) b → w4_.heap.size ≤ b ∧ b < w5_.heap.size := fun b h => h
  have D_t2 : Hid (∀ b, (ival w4_.heap.size w5_.heap.size) b → w.heap.size ≤ b) := Lib.hid (fun b h => Nat.le_trans HB.out.size (hF_t2 b h).1)
  replace A0 := Lib.hid ((sliceT 3 i64T).behind A0.out (hb.mono HB.out.size))
  replace O_x0 := Lib.hid ((sliceT 3 i64T).onext O_x0.out hb)
  replace E_x0 : Hid (∀ b, (ival w2_.heap.size w3_.heap.size) b → b < w5_.heap.size) := Lib.hid (fun b h => Nat.lt_of_lt_of_le (E_x0.out b h) hb.size)
  replace HB := Lib.hid (HB.out.trans (hb.mono HB.out.size))
  clear hb
  have O_t2 := Lib.hid hO_t2
  have E_t2 : Hid (∀ b, (ival w4_.heap.size w5_.heap.size) b → b < w5_.heap.size) := Lib.hid (fun b h => (hF_t2 b h).2)
  clear hO_t2 hF_t2
  go_wp2_with fail
  refine (eqIntS_same_t ((sliceT 3 i64T).ord O_x0.out) ((sliceT 3 i64T).ord O_t2.out) (Nat.le_refl _) (Nat.le_refl _)).mono ?_
  rintro e w6_ ⟨he, hb⟩
  subst he
  replace A0 := Lib.hid ((sliceT 3 i64T).behind A0.out (hb.mono HB.out.size))
  replace O_x0 := Lib.hid ((sliceT 3 i64T).onext O_x0.out hb)
  replace E_x0 : Hid (∀ b, (ival w2_.heap.size w3_.heap.size) b → b < w6_.heap.size) := Lib.hid (fun b h => Nat.lt_of_lt_of_le (E_x0.out b h) hb.size)
  replace O_t2 := Lib.hid ((sliceT 3 i64T).onext O_t2.out hb)
  replace E_t2 : Hid (∀ b, (ival w4_.heap.size w5_.heap.size) b → b < w6_.heap.size) := Lib.hid (fun b h => Nat.lt_of_lt_of_le (E_t2.out b h) hb.size)
  replace HB := Lib.hid (HB.out.trans (hb.mono HB.out.size))
  clear hb
  clear O_x0 E_x0 D_x0
  clear O_t2 E_t2 D_t2
  clear A0
  go_wp2_with fail
  go_ret
  exact ⟨rfl, HB.out⟩
  
end Go.Proofs.Ytbimihljaalllaa
