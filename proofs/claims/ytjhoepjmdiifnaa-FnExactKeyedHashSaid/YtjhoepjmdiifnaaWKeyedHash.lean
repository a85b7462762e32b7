/- FnExactKeyedHash: the walk. No conditions. -/
import Derived.Test.YtjhoepjmdiifnaaCry6
import Derived.Test.YtjhoepjmdiifnaaEqInt
import Derived.Test.YtjhoepjmdiifnaaCopyByte
import Derived.Test.YtjhoepjmdiifnaaCopyInt
namespace Go.Proofs.Ytjhoepjmdiifnaa
open Go Go.RowKit
set_option linter.unusedVariables false

set_option maxHeartbeats 4000000 in
set_option maxRecDepth 20000 in
theorem fnExactKeyedHash_walk (a0 : Int) (a1 : Option Addr) (len1 cap1 : Nat) (z1 : List Int) (w : World) (w0 : (Lit.int .i64 a0).wf = true) (w1 : IsRow .i64 w a1 len1 cap1 z1) :
    Calls Try.prog 6 #[.int .i64 a0, .slice a1 len1 cap1] w fun e w' => e = .returned (.bool true) ∧ Below w.heap.size w w' := by
  obtain ⟨s1, A1, l1⟩ : ∃ s, Rd w.heap.size .i64 w (.slice a1 len1 cap1) s ∧ len1 = s.length := ⟨z1.take len1, w1.rd, w1.rd.len_eq⟩
  subst l1
  replace A1 := Lib.hid A1
  clear w1
  have m1 : s1.length ≤ 9223372036854775807 := by have := A1.out.len; unfold maxLen at this; omega
  have W0 := Lib.hid w0
  have w0b := wf_i64 w0
  clear w0
  by_cases b1 : 1048576 < s1.length
  · have b1' : decide ((1048576 : Int) < (s1.length : Int)) = true := by simp; omega
    go_enter Try.func6, Try.ntmps6
    go_wp2_with fail
    go_ret
    exact ⟨rfl, Below.refl _ _⟩
  have b1' : decide ((1048576 : Int) < (s1.length : Int)) = false := by simp; omega
  have HB := Lib.hid (Below.refl w.heap.size w)
  go_enter Try.func6, Try.ntmps6
  -- ('big', 1)
  -- ('call', 'spec', 'KeyedHash', [('arg', 0), ('copy', 1, 'Int')], ['w0'])
  go_wp2_with fail
  refine (toIntS_any A1.out HB.out.size (by omega)).mono ?_
  rintro e w1_ ⟨v_t1, he, hO, hb⟩
  subst he
  replace hO := hO.mono HB.out.size
  replace A1 := Lib.hid (A1.out.behind (hb.mono HB.out.size))
  replace HB := Lib.hid (HB.out.trans (hb.mono HB.out.size))
  clear hb
  have O_t1 := Lib.hid hO
  clear hO
  go_wp2_with fail
  refine (spec_kh O_t1.out.rd (Nat.le_refl _) W0.out (by omega)).mono ?_
  rintro e w2_ ⟨he, hb⟩
  obtain ⟨q_w0, hq⟩ : ∃ q, q = kh a0 s1 := ⟨_, rfl⟩
  rw [← hq] at he
  have Q_w0 := Lib.hid hq
  clear hq
  subst he
  replace A1 := Lib.hid (A1.out.behind (hb.mono HB.out.size))
  replace O_t1 := Lib.hid (O_t1.out.next hb)
  replace HB := Lib.hid (HB.out.trans (hb.mono HB.out.size))
  clear hb
  clear O_t1
  -- ('copy', 'x1', 1, 'Int')
  go_wp2_with fail
  refine (toIntS_any A1.out HB.out.size (by omega)).mono ?_
  rintro e w3_ ⟨v_x1, he, hO, hb⟩
  subst he
  replace hO := hO.mono HB.out.size
  replace A1 := Lib.hid (A1.out.behind (hb.mono HB.out.size))
  replace HB := Lib.hid (HB.out.trans (hb.mono HB.out.size))
  clear hb
  have O_x1 := Lib.hid hO
  clear hO
  -- ('call', 'impl', 'KeyedHash', [('arg', 0), ('own', 'x1')], ['g0'])
  go_wp2_with fail
  refine (impl_kh O_x1.out.rd (Nat.le_refl _) W0.out).mono ?_
  rintro e w4_ ⟨he, hb⟩
  rw [← Q_w0.out] at he
  subst he
  replace A1 := Lib.hid (A1.out.behind (hb.mono HB.out.size))
  replace O_x1 := Lib.hid (O_x1.out.next hb)
  replace HB := Lib.hid (HB.out.trans (hb.mono HB.out.size))
  clear hb
  -- ('eq', 'Int', ('own', 'x1'), ('copy', 1, 'Int'))
  go_wp2_with fail
  refine (toIntS_any A1.out HB.out.size (by omega)).mono ?_
  rintro e w5_ ⟨v_t2, he, hO, hb⟩
  subst he
  replace hO := hO.mono HB.out.size
  replace A1 := Lib.hid (A1.out.behind (hb.mono HB.out.size))
  replace O_x1 := Lib.hid (O_x1.out.next hb)
  replace HB := Lib.hid (HB.out.trans (hb.mono HB.out.size))
  clear hb
  have O_t2 := Lib.hid hO
  clear hO
  go_wp2_with fail
  refine (eqIntS_same O_x1.out.rd O_t2.out.rd (Nat.le_refl _) (Nat.le_refl _)).mono ?_
  rintro e w6_ ⟨he, hb⟩
  subst he
  replace A1 := Lib.hid (A1.out.behind (hb.mono HB.out.size))
  replace O_x1 := Lib.hid (O_x1.out.next hb)
  replace O_t2 := Lib.hid (O_t2.out.next hb)
  replace HB := Lib.hid (HB.out.trans (hb.mono HB.out.size))
  clear hb
  clear O_x1
  clear O_t2
  clear A1
  go_wp2_with fail
  go_ret
  exact ⟨rfl, HB.out⟩

end Go.Proofs.Ytjhoepjmdiifnaa
