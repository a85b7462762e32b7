/- FnExactEqualInts: the walk. No conditions. -/
import Derived.Test.YtjhoepjmdiifnaaCry6
import Derived.Test.YtjhoepjmdiifnaaEqInt
import Derived.Test.YtjhoepjmdiifnaaCopyByte
import Derived.Test.YtjhoepjmdiifnaaCopyInt
namespace Go.Proofs.Ytjhoepjmdiifnaa
open Go Go.RowKit
set_option linter.unusedVariables false

set_option maxHeartbeats 4000000 in
set_option maxRecDepth 20000 in
theorem fnExactEqualInts_walk (a0 : Option Addr) (len0 cap0 : Nat) (z0 : List Int) (a1 : Option Addr) (len1 cap1 : Nat) (z1 : List Int) (w : World) (w0 : IsRow .i64 w a0 len0 cap0 z0) (w1 : IsRow .i64 w a1 len1 cap1 z1) :
    Calls Try.prog 12 #[.slice a0 len0 cap0, .slice a1 len1 cap1] w fun e w' => e = .returned (.bool true) ∧ Below w.heap.size w w' := by
  obtain ⟨s0, A0, l0⟩ : ∃ s, Rd w.heap.size .i64 w (.slice a0 len0 cap0) s ∧ len0 = s.length := ⟨z0.take len0, w0.rd, w0.rd.len_eq⟩
  subst l0
  replace A0 := Lib.hid A0
  clear w0
  have m0 : s0.length ≤ 9223372036854775807 := by have := A0.out.len; unfold maxLen at this; omega
  obtain ⟨s1, A1, l1⟩ : ∃ s, Rd w.heap.size .i64 w (.slice a1 len1 cap1) s ∧ len1 = s.length := ⟨z1.take len1, w1.rd, w1.rd.len_eq⟩
  subst l1
  replace A1 := Lib.hid A1
  clear w1
  have m1 : s1.length ≤ 9223372036854775807 := by have := A1.out.len; unfold maxLen at this; omega
  by_cases b0 : 1048576 < s0.length
  · have b0' : decide ((1048576 : Int) < (s0.length : Int)) = true := by simp; omega
    go_enter Try.func12, Try.ntmps12
    go_wp2_with fail
    go_ret
    exact ⟨rfl, Below.refl _ _⟩
  have b0' : decide ((1048576 : Int) < (s0.length : Int)) = false := by simp; omega
  by_cases b1 : 1048576 < s1.length
  · have b1' : decide ((1048576 : Int) < (s1.length : Int)) = true := by simp; omega
    go_enter Try.func12, Try.ntmps12
    go_wp2_with fail
    go_ret
    exact ⟨rfl, Below.refl _ _⟩
  have b1' : decide ((1048576 : Int) < (s1.length : Int)) = false := by simp; omega
  have HB := Lib.hid (Below.refl w.heap.size w)
  go_enter Try.func12, Try.ntmps12
  -- ('big', 0)
  -- ('big', 1)
  -- ('call', 'spec', 'EqualInts', [('copy', 0, 'Int'), ('copy', 1, 'Int')], ['w0'])
  go_wp2_with fail
  refine (toIntS_any A0.out HB.out.size (by omega)).mono ?_
  rintro e w1_ ⟨v_t1, he, hO, hb⟩
  subst he
  replace hO := hO.mono HB.out.size
  replace A0 := Lib.hid (A0.out.behind (hb.mono HB.out.size))
  replace A1 := Lib.hid (A1.out.behind (hb.mono HB.out.size))
  replace HB := Lib.hid (HB.out.trans (hb.mono HB.out.size))
  clear hb
  have O_t1 := Lib.hid hO
  clear hO
  go_wp2_with fail
  refine (toIntS_any A1.out HB.out.size (by omega)).mono ?_
  rintro e w2_ ⟨v_t2, he, hO, hb⟩
  subst he
  replace hO := hO.mono HB.out.size
  replace A0 := Lib.hid (A0.out.behind (hb.mono HB.out.size))
  replace A1 := Lib.hid (A1.out.behind (hb.mono HB.out.size))
  replace O_t1 := Lib.hid (O_t1.out.next hb)
  replace HB := Lib.hid (HB.out.trans (hb.mono HB.out.size))
  clear hb
  have O_t2 := Lib.hid hO
  clear hO
  go_wp2_with fail
  refine (spec_eqi O_t1.out.rd O_t2.out.rd (Nat.le_refl _) (Nat.le_refl _)).mono ?_
  rintro e w3_ ⟨he, hb⟩
  subst he
  replace A0 := Lib.hid (A0.out.behind (hb.mono HB.out.size))
  replace A1 := Lib.hid (A1.out.behind (hb.mono HB.out.size))
  replace O_t1 := Lib.hid (O_t1.out.next hb)
  replace O_t2 := Lib.hid (O_t2.out.next hb)
  replace HB := Lib.hid (HB.out.trans (hb.mono HB.out.size))
  clear hb
  clear O_t1
  clear O_t2
  -- ('copy', 'x0', 0, 'Int')
  go_wp2_with fail
  refine (toIntS_any A0.out HB.out.size (by omega)).mono ?_
  rintro e w4_ ⟨v_x0, he, hO, hb⟩
  subst he
  replace hO := hO.mono HB.out.size
  replace A0 := Lib.hid (A0.out.behind (hb.mono HB.out.size))
  replace A1 := Lib.hid (A1.out.behind (hb.mono HB.out.size))
  replace HB := Lib.hid (HB.out.trans (hb.mono HB.out.size))
  clear hb
  have O_x0 := Lib.hid hO
  clear hO
  -- ('copy', 'x1', 1, 'Int')
  go_wp2_with fail
  refine (toIntS_any A1.out HB.out.size (by omega)).mono ?_
  rintro e w5_ ⟨v_x1, he, hO, hb⟩
  subst he
  replace hO := hO.mono HB.out.size
  replace A0 := Lib.hid (A0.out.behind (hb.mono HB.out.size))
  replace A1 := Lib.hid (A1.out.behind (hb.mono HB.out.size))
  replace O_x0 := Lib.hid (O_x0.out.next hb)
  replace HB := Lib.hid (HB.out.trans (hb.mono HB.out.size))
  clear hb
  have O_x1 := Lib.hid hO
  clear hO
  -- ('call', 'impl', 'EqualInts', [('own', 'x0'), ('own', 'x1')], ['g0'])
  go_wp2_with fail
  refine (impl_eqi O_x0.out.rd O_x1.out.rd (Nat.le_refl _) (Nat.le_refl _)).mono ?_
  rintro e w6_ ⟨he, hb⟩
  subst he
  replace A0 := Lib.hid (A0.out.behind (hb.mono HB.out.size))
  replace A1 := Lib.hid (A1.out.behind (hb.mono HB.out.size))
  replace O_x0 := Lib.hid (O_x0.out.next hb)
  replace O_x1 := Lib.hid (O_x1.out.next hb)
  replace HB := Lib.hid (HB.out.trans (hb.mono HB.out.size))
  clear hb
  -- ('eq', 'Int', ('own', 'x0'), ('copy', 0, 'Int'))
  go_wp2_with fail
  refine (toIntS_any A0.out HB.out.size (by omega)).mono ?_
  rintro e w7_ ⟨v_t3, he, hO, hb⟩
  subst he
  replace hO := hO.mono HB.out.size
  replace A0 := Lib.hid (A0.out.behind (hb.mono HB.out.size))
  replace A1 := Lib.hid (A1.out.behind (hb.mono HB.out.size))
  replace O_x0 := Lib.hid (O_x0.out.next hb)
  replace O_x1 := Lib.hid (O_x1.out.next hb)
  replace HB := Lib.hid (HB.out.trans (hb.mono HB.out.size))
  clear hb
  have O_t3 := Lib.hid hO
  clear hO
  go_wp2_with fail
  refine (eqIntS_same O_x0.out.rd O_t3.out.rd (Nat.le_refl _) (Nat.le_refl _)).mono ?_
  rintro e w8_ ⟨he, hb⟩
  subst he
  replace A0 := Lib.hid (A0.out.behind (hb.mono HB.out.size))
  replace A1 := Lib.hid (A1.out.behind (hb.mono HB.out.size))
  replace O_x0 := Lib.hid (O_x0.out.next hb)
  replace O_x1 := Lib.hid (O_x1.out.next hb)
  replace O_t3 := Lib.hid (O_t3.out.next hb)
  replace HB := Lib.hid (HB.out.trans (hb.mono HB.out.size))
  clear hb
  clear O_x0
  clear O_t3
  clear A0
  -- ('eq', 'Int', ('own', 'x1'), ('copy', 1, 'Int'))
  go_wp2_with fail
  refine (toIntS_any A1.out HB.out.size (by omega)).mono ?_
  rintro e w9_ ⟨v_t4, he, hO, hb⟩
  subst he
  replace hO := hO.mono HB.out.size
  replace A1 := Lib.hid (A1.out.behind (hb.mono HB.out.size))
  replace O_x1 := Lib.hid (O_x1.out.next hb)
  replace HB := Lib.hid (HB.out.trans (hb.mono HB.out.size))
  clear hb
  have O_t4 := Lib.hid hO
  clear hO
  go_wp2_with fail
  refine (eqIntS_same O_x1.out.rd O_t4.out.rd (Nat.le_refl _) (Nat.le_refl _)).mono ?_
  rintro e w10_ ⟨he, hb⟩
  subst he
  replace A1 := Lib.hid (A1.out.behind (hb.mono HB.out.size))
  replace O_x1 := Lib.hid (O_x1.out.next hb)
  replace O_t4 := Lib.hid (O_t4.out.next hb)
  replace HB := Lib.hid (HB.out.trans (hb.mono HB.out.size))
  clear hb
  clear O_x1
  clear O_t4
  clear A1
  go_wp2_with fail
  go_ret
  exact ⟨rfl, HB.out⟩

end Go.Proofs.Ytjhoepjmdiifnaa
