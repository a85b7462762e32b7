/- FnExactSketchShare: the walk. No conditions. -/
import Derived.Test.YtckhmjdhdoomdaaSk3
import Derived.Test.YtckhmjdhdoomdaaSk4
import Derived.Test.YtckhmjdhdoomdaaBa3
namespace Go.Proofs.Ytckhmjdhdoomdaa
open Go Go.RowKit
set_option linter.unusedVariables false

set_option maxHeartbeats 4000000 in
set_option maxRecDepth 20000 in
theorem fnExactSketchShare_walk (a0 : Option Addr) (len0 cap0 : Nat) (z0 : List Int) (a1 : Int) (w : World) (w0 : IsRow .i64 w a0 len0 cap0 z0) (w1 : (Lit.int .i64 a1).wf = true) :
    Calls Try.prog 7 #[.slice a0 len0 cap0, .int .i64 a1] w fun e w' => e = .returned (.bool true) ∧ Below w.heap.size w w' := by
  obtain ⟨s0, A0, l0⟩ : ∃ s, Rd w.heap.size .i64 w (.slice a0 len0 cap0) s ∧ len0 = s.length := ⟨z0.take len0, w0.rd, w0.rd.len_eq⟩
  subst l0
  replace A0 := Lib.hid A0
  clear w0
  have m0 : s0.length ≤ 9223372036854775807 := by have := A0.out.len; unfold maxLen at this; omega
  have W1 := Lib.hid w1
  have w1b := wf_i64 w1
  clear w1
  by_cases b0 : 1048576 < s0.length
  · have b0' : decide ((1048576 : Int) < (s0.length : Int)) = true := by simp; omega
    go_enter Try.func7, Try.ntmps7
    go_wp2_with fail
    go_ret
    exact ⟨rfl, Below.refl _ _⟩
  have b0' : decide ((1048576 : Int) < (s0.length : Int)) = false := by simp; omega
  have HB := Lib.hid (Below.refl w.heap.size w)
  go_enter Try.func7, Try.ntmps7
  -- ('big', 0)
  -- ('call', 'spec', 'SketchShare', [('copy', 0, 'Int'), ('arg', 1)], ['w0', 'w1', 'w2'])
  go_wp2_with fail
  refine (toIntS_any A0.out HB.out.size (by omega)).mono ?_
  rintro e w1_ ⟨v_t1, he, hO, hb⟩
  subst he
  have D_t1 := Lib.hid HB.out.size
  have T_t1 := Lib.hid hO.lt
  have S_t1 : Hid (w1_.heap.size ≤ w1_.heap.size) := Lib.hid (Nat.le_refl _)
  replace hO := hO.mono HB.out.size
  replace A0 := Lib.hid (A0.out.behind (hb.mono HB.out.size))
  replace HB := Lib.hid (HB.out.trans (hb.mono HB.out.size))
  clear hb
  have O_t1 := Lib.hid hO
  clear hO
  go_wp2_with fail
  refine (spec_sk O_t1.out.rd (Nat.le_refl _) W1.out).mono ?_
  rintro e w2_ ⟨he, hb⟩
  subst he
  replace A0 := Lib.hid (A0.out.behind (hb.mono HB.out.size))
  replace O_t1 := Lib.hid (O_t1.out.next hb)
  replace S_t1 := Lib.hid (Nat.le_trans S_t1.out hb.size)
  replace HB := Lib.hid (HB.out.trans (hb.mono HB.out.size))
  clear hb
  clear O_t1 S_t1 D_t1
  clear T_t1
  -- ('copy', 'x0', 0, 'Int')
  go_wp2_with fail
  refine (toIntS_any A0.out HB.out.size (by omega)).mono ?_
  rintro e w3_ ⟨v_x0, he, hO, hb⟩
  subst he
  have D_x0 := Lib.hid HB.out.size
  have T_x0 := Lib.hid hO.lt
  have S_x0 : Hid (w3_.heap.size ≤ w3_.heap.size) := Lib.hid (Nat.le_refl _)
  replace hO := hO.mono HB.out.size
  replace A0 := Lib.hid (A0.out.behind (hb.mono HB.out.size))
  replace HB := Lib.hid (HB.out.trans (hb.mono HB.out.size))
  clear hb
  have O_x0 := Lib.hid hO
  clear hO
  -- ('call', 'impl', 'SketchShare', [('own', 'x0'), ('arg', 1)], ['g0', 'g1', 'g2'])
  go_wp2_with fail
  refine (impl_sk O_x0.out.rd (Nat.le_refl _) W1.out).mono ?_
  rintro e w4_ ⟨he, hb⟩
  subst he
  replace A0 := Lib.hid (A0.out.behind (hb.mono HB.out.size))
  replace O_x0 := Lib.hid (O_x0.out.next hb)
  replace S_x0 := Lib.hid (Nat.le_trans S_x0.out hb.size)
  replace HB := Lib.hid (HB.out.trans (hb.mono HB.out.size))
  clear hb
  -- ('eq', 'Int', ('own', 'x0'), ('copy', 0, 'Int'))
  go_wp2_with fail
  refine (toIntS_any A0.out HB.out.size (by omega)).mono ?_
  rintro e w5_ ⟨v_t2, he, hO, hb⟩
  subst he
  have D_t2 := Lib.hid HB.out.size
  have T_t2 := Lib.hid hO.lt
  have S_t2 : Hid (w5_.heap.size ≤ w5_.heap.size) := Lib.hid (Nat.le_refl _)
  replace hO := hO.mono HB.out.size
  replace A0 := Lib.hid (A0.out.behind (hb.mono HB.out.size))
  replace O_x0 := Lib.hid (O_x0.out.next hb)
  replace S_x0 := Lib.hid (Nat.le_trans S_x0.out hb.size)
  replace HB := Lib.hid (HB.out.trans (hb.mono HB.out.size))
  clear hb
  have O_t2 := Lib.hid hO
  clear hO
  go_wp2_with fail
  refine (eqIntS_same O_x0.out.rd O_t2.out.rd (Nat.le_refl _) (Nat.le_refl _)).mono ?_
  rintro e w6_ ⟨he, hb⟩
  subst he
  replace A0 := Lib.hid (A0.out.behind (hb.mono HB.out.size))
  replace O_x0 := Lib.hid (O_x0.out.next hb)
  replace S_x0 := Lib.hid (Nat.le_trans S_x0.out hb.size)
  replace O_t2 := Lib.hid (O_t2.out.next hb)
  replace S_t2 := Lib.hid (Nat.le_trans S_t2.out hb.size)
  replace HB := Lib.hid (HB.out.trans (hb.mono HB.out.size))
  clear hb
  clear O_x0 S_x0 D_x0
  clear T_x0
  clear O_t2 S_t2 D_t2
  clear T_t2
  clear A0
  go_wp2_with fail
  go_ret
  exact ⟨rfl, HB.out⟩

end Go.Proofs.Ytckhmjdhdoomdaa
