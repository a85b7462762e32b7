/- FnExactReadPrivately: the walk. No conditions. -/
import Derived.Test.YtigeghmkkppldaaQu7
import Derived.Test.YtigeghmkkppldaaQu9
import Derived.Test.YtigeghmkkppldaaDbH
import Derived.Test.YtigeghmkkppldaaBa6
import Derived.Test.YtigeghmkkppldaaBa3
import Derived.Test.YtigeghmkkppldaaBa5
import Derived.Deep.RegionHeld3
import Derived.Deep.DeepCutAuto
import Derived.Test.YtigeghmkkppldaaHeldL
namespace Go.Proofs.Ytigeghmkkppldaa
open Go Go.RowKit
set_option linter.unusedVariables false

set_option maxHeartbeats 4000000 in
set_option maxRecDepth 20000 in
theorem fnExactReadPrivately_walk (a0 : Option Addr) (len0 cap0 : Nat) (z0 : List (List Int)) (a1 : Int) (a2 : Option Addr) (len2 cap2 : Nat) (z2 : List Int) (w : World) (w0 : Rd2 w.heap.size .u8 w (.slice a0 len0 cap0) z0) (w1 : (Lit.int .i64 a1).wf = true) (w2 : IsRow .i64 w a2 len2 cap2 z2) :
    Calls Try.prog 9 #[.agg #[.slice a0 len0 cap0], .int .i64 a1, .slice a2 len2 cap2] w fun e w' => e = .returned (.bool true) ∧ Below w.heap.size w w' := by
  obtain ⟨s0, A0, l0⟩ : ∃ s, Rd2 w.heap.size .u8 w (.slice a0 len0 cap0) s ∧ len0 = s.length := ⟨z0, w0, w0.len_eq⟩
  subst l0
  replace A0 := Lib.hid A0
  clear w0
  have m0 : s0.length ≤ 9223372036854775807 := by have := A0.out.len; unfold maxLen at this; omega
  obtain ⟨s2, A2, l2⟩ : ∃ s, Rd w.heap.size .i64 w (.slice a2 len2 cap2) s ∧ len2 = s.length := ⟨z2.take len2, w2.rd, w2.rd.len_eq⟩
  subst l2
  replace A2 := Lib.hid A2
  clear w2
  have m2 : s2.length ≤ 9223372036854775807 := by have := A2.out.len; unfold maxLen at this; omega
  have W1 := Lib.hid w1
  have w1b := wf_i64 w1
  clear w1
  by_cases b2 : 1048576 < s2.length
  · have b2' : decide ((1048576 : Int) < (s2.length : Int)) = true := by simp; omega
    go_enter Try.func9, Try.ntmps9
    go_wp2_with fail
    go_ret
    exact ⟨rfl, ((Below.refl w.heap.size w).alloc (Nat.le_refl _) _)⟩
  have b2' : decide ((1048576 : Int) < (s2.length : Int)) = false := by simp; omega
  by_cases b0z : (tot s0 : Int) ≤ (1048576 : Int)
  case neg =>
    have c0 := Lib.hid b0z
    go_enter Try.func9, Try.ntmps9
    have HB := Lib.hid (Below.refl w.heap.size w)
    have hb := ((Below.refl w.heap.size w).alloc (Nat.le_refl _) (.cells #[.slice a0 s0.length cap0] 51))
    have K_p0 := Lib.hid (heap_alloc_new w (.cells #[.slice a0 s0.length cap0] 51))
    have R_p0 := Lib.hid (lt_of_block K_p0.out)
    replace A0 := Lib.hid (A0.out.behind hb)
    replace A2 := Lib.hid (A2.out.behind hb)
    replace HB := Lib.hid hb
    clear hb
    have k_p0 := blk_cell K_p0.out 0
    rw [one0] at k_p0
    go_wp2_with fail
    clear k_p0
    obtain ⟨w1_, hw⟩ : ∃ x, x = (w.alloc (.cells #[.slice a0 s0.length cap0] 51)) := ⟨_, rfl⟩
    rw [← hw] at HB A0 A2 K_p0 R_p0 ⊢
    clear hw
    refine (szDatabase_any A0.out (by omega) (by omega) HB.out.size).mono ?_
    rintro e w2_ ⟨he, hb⟩
    rw [if_neg (by have := c0.out; omega)] at he
    subst he
    replace A0 := Lib.hid (A0.out.behind (hb.mono HB.out.size))
    replace A2 := Lib.hid (A2.out.behind (hb.mono HB.out.size))
    replace K_p0 := Lib.hid ((hb.block (w.heap.size) (lt_of_block K_p0.out)).trans K_p0.out)
    replace HB := Lib.hid (HB.out.trans (hb.mono HB.out.size))
    clear hb
    have k_p0 := blk_cell K_p0.out 0
    rw [one0] at k_p0
    go_wp2_with fail
    clear k_p0
    go_ret
    exact ⟨rfl, HB.out⟩
  have c0 := Lib.hid b0z
  obtain ⟨q0, hq0⟩ : ∃ q : Int, q = (1048576 : Int) - (tot s0 : Int) := ⟨_, rfl⟩
  have d0q : decide (q0 < 0) = false := by simp; omega
  have e0q : 0 ≤ q0 ∧ q0 ≤ 1048576 := by omega
  have b0t : tot s0 ≤ 1048576 := by omega
  have H0q := Lib.hid hq0
  clear hq0 b0z
  go_enter Try.func9, Try.ntmps9
  have HB := Lib.hid (Below.refl w.heap.size w)
  have hb := ((Below.refl w.heap.size w).alloc (Nat.le_refl _) (.cells #[.slice a0 s0.length cap0] 51))
  have K_p0 := Lib.hid (heap_alloc_new w (.cells #[.slice a0 s0.length cap0] 51))
  have R_p0 := Lib.hid (lt_of_block K_p0.out)
  replace A0 := Lib.hid (A0.out.behind hb)
  replace A2 := Lib.hid (A2.out.behind hb)
  replace HB := Lib.hid hb
  clear hb
  have k_p0 := blk_cell K_p0.out 0
  rw [one0] at k_p0
  go_wp2_with fail
  clear k_p0
  obtain ⟨w1_, hw⟩ : ∃ x, x = (w.alloc (.cells #[.slice a0 s0.length cap0] 51)) := ⟨_, rfl⟩
  rw [← hw] at HB A0 A2 K_p0 R_p0 ⊢
  clear hw
  refine (szDatabase_any A0.out (by omega) (by omega) HB.out.size).mono ?_
  rintro e w2_ ⟨he, hb⟩
  rw [if_pos (by have := c0.out; omega), ← H0q.out] at he
  subst he
  replace A0 := Lib.hid (A0.out.behind (hb.mono HB.out.size))
  replace A2 := Lib.hid (A2.out.behind (hb.mono HB.out.size))
  replace K_p0 := Lib.hid ((hb.block (w.heap.size) (lt_of_block K_p0.out)).trans K_p0.out)
  replace HB := Lib.hid (HB.out.trans (hb.mono HB.out.size))
  clear hb
  -- ('big', 2)
  -- ('sz', 0, 'Db')
  -- ('call', 'spec', 'ReadPrivately', [('copy', 0, 'Db'), ('arg', 1), ('copy', 2, 'Int')], ['w0', 'w1'])
  have k_p0 := blk_cell K_p0.out 0
  rw [one0] at k_p0
  go_wp2_with fail
  clear k_p0
  refine (toDatabase_any A0.out HB.out.size (by omega)).mono ?_
  rintro e w3_ ⟨v_t1, he, hO, hb⟩
  subst he
  obtain ⟨L_t1, hL⟩ : ∃ L, L = (s0).length := ⟨_, rfl⟩
  obtain ⟨a_t1, c_t1, hv, _⟩ := hO.open
  rw [← hL] at hv
  clear hL
  subst hv
  have D_t1 := Lib.hid HB.out.size
  have S_t1 : Hid (w3_.heap.size ≤ w3_.heap.size) := Lib.hid (Nat.le_refl _)
  replace A0 := Lib.hid (A0.out.behind (hb.mono HB.out.size))
  replace A2 := Lib.hid (A2.out.behind (hb.mono HB.out.size))
  replace K_p0 := Lib.hid ((hb.block (w.heap.size) (lt_of_block K_p0.out)).trans K_p0.out)
  replace HB := Lib.hid (HB.out.trans (hb.mono HB.out.size))
  clear hb
  have O_t1 := Lib.hid hO
  clear hO
  have k_p0 := blk_cell K_p0.out 0
  rw [one0] at k_p0
  go_wp2_with fail
  clear k_p0
  refine (toIntS_any A2.out HB.out.size (by omega)).mono ?_
  rintro e w4_ ⟨v_t2, he, hO, hb⟩
  subst he
  have D_t2 := Lib.hid HB.out.size
  have T_t2 := Lib.hid hO.lt
  have S_t2 : Hid (w4_.heap.size ≤ w4_.heap.size) := Lib.hid (Nat.le_refl _)
  replace hO := hO.mono HB.out.size
  replace A0 := Lib.hid (A0.out.behind (hb.mono HB.out.size))
  replace A2 := Lib.hid (A2.out.behind (hb.mono HB.out.size))
  replace O_t1 := Lib.hid (O_t1.out.next hb)
  replace S_t1 := Lib.hid (Nat.le_trans S_t1.out hb.size)
  replace K_p0 := Lib.hid ((hb.block (w.heap.size) (lt_of_block K_p0.out)).trans K_p0.out)
  replace HB := Lib.hid (HB.out.trans (hb.mono HB.out.size))
  clear hb
  have O_t2 := Lib.hid hO
  clear hO
  have k_p0 := blk_cell K_p0.out 0
  rw [one0] at k_p0
  go_wp2_with fail
  clear k_p0
  refine (spec_rp O_t1.out.rd2 O_t2.out.rd (Nat.le_refl _) (Nat.le_refl _) W1.out (by omega) (by omega)).mono ?_
  rintro e w5_ ⟨v_w0, he, hO, hb⟩
  subst he
  have D_w0 := Lib.hid HB.out.size
  have T_w0 := Lib.hid hO.lt
  have S_w0 : Hid (w5_.heap.size ≤ w5_.heap.size) := Lib.hid (Nat.le_refl _)
  replace hO := hO.mono HB.out.size
  replace A0 := Lib.hid (A0.out.behind (hb.mono HB.out.size))
  replace A2 := Lib.hid (A2.out.behind (hb.mono HB.out.size))
  replace O_t1 := Lib.hid (O_t1.out.next hb)
  replace S_t1 := Lib.hid (Nat.le_trans S_t1.out hb.size)
  replace O_t2 := Lib.hid (O_t2.out.next hb)
  replace S_t2 := Lib.hid (Nat.le_trans S_t2.out hb.size)
  replace K_p0 := Lib.hid ((hb.block (w.heap.size) (lt_of_block K_p0.out)).trans K_p0.out)
  replace HB := Lib.hid (HB.out.trans (hb.mono HB.out.size))
  clear hb
  have O_w0 := Lib.hid hO
  clear hO
  clear O_t1 S_t1 D_t1
  clear O_t2 S_t2 D_t2
  clear T_t2
  -- ('copy', 'x0', 0, 'Db')
  have k_p0 := blk_cell K_p0.out 0
  rw [one0] at k_p0
  go_wp2_with fail
  clear k_p0
  refine (toDatabase_any A0.out HB.out.size (by omega)).mono ?_
  rintro e w6_ ⟨v_x0, he, hO, hb⟩
  subst he
  obtain ⟨L_x0, hL⟩ : ∃ L, L = (s0).length := ⟨_, rfl⟩
  obtain ⟨a_x0, c_x0, hv, _⟩ := hO.open
  rw [← hL] at hv
  clear hL
  subst hv
  have P_w0_x0 := S_w0
  have Q_p0_x0 : Hid (w.heap.size < w5_.heap.size) := Lib.hid (lt_of_block K_p0.out)
  have D_x0 := Lib.hid HB.out.size
  have S_x0 : Hid (w6_.heap.size ≤ w6_.heap.size) := Lib.hid (Nat.le_refl _)
  replace A0 := Lib.hid (A0.out.behind (hb.mono HB.out.size))
  replace A2 := Lib.hid (A2.out.behind (hb.mono HB.out.size))
  replace O_w0 := Lib.hid (O_w0.out.next hb)
  replace S_w0 := Lib.hid (Nat.le_trans S_w0.out hb.size)
  replace K_p0 := Lib.hid ((hb.block (w.heap.size) (lt_of_block K_p0.out)).trans K_p0.out)
  replace HB := Lib.hid (HB.out.trans (hb.mono HB.out.size))
  clear hb
  have O_x0 := Lib.hid hO
  clear hO
  have R_x0_x0 := S_x0
  have hb : Below w6_.heap.size w6_ (w6_.alloc (.cells #[.slice a_x0 L_x0 c_x0] 26)) := (Below.refl _ _).alloc (Nat.le_refl _) _
  replace A0 := Lib.hid (A0.out.behind (hb.mono HB.out.size))
  replace A2 := Lib.hid (A2.out.behind (hb.mono HB.out.size))
  replace O_w0 := Lib.hid (O_w0.out.next hb)
  replace S_w0 := Lib.hid (Nat.le_trans S_w0.out hb.size)
  replace O_x0 := Lib.hid (O_x0.out.next hb)
  replace S_x0 := Lib.hid (Nat.le_trans S_x0.out hb.size)
  replace K_p0 := Lib.hid ((hb.block (w.heap.size) (lt_of_block K_p0.out)).trans K_p0.out)
  replace HB := Lib.hid (HB.out.trans (hb.mono HB.out.size))
  clear hb
  have K_x0 := Lib.hid (heap_alloc_new w6_ (.cells #[.slice a_x0 L_x0 c_x0] 26))
  have R_x0 := Lib.hid (lt_of_block K_x0.out)
  have k_p0 := blk_cell K_p0.out 0
  rw [one0] at k_p0
  have k_x0 := blk_cell K_x0.out 0
  rw [one0] at k_x0
  go_wp2_with fail
  clear k_p0 k_x0
  obtain ⟨w7_, hw⟩ : ∃ x, x = w6_.alloc (.cells #[.slice a_x0 L_x0 c_x0] 26) := ⟨_, rfl⟩
  rw [← hw] at HB A0 A2 O_w0 S_w0 O_x0 S_x0 K_p0 K_x0 R_x0 ⊢
  clear hw
  -- ('copy', 'x2', 2, 'Int')
  refine (toIntS_any A2.out HB.out.size (by omega)).mono ?_
  rintro e w8_ ⟨v_x2, he, hO, hb⟩
  subst he
  have P_w0_x2 := S_w0
  have P_x0_x2 := S_x0
  have Q_p0_x2 : Hid (w.heap.size < w7_.heap.size) := Lib.hid (lt_of_block K_p0.out)
  have Q_x0_x2 : Hid (w6_.heap.size < w7_.heap.size) := Lib.hid (lt_of_block K_x0.out)
  have D_x2 := Lib.hid HB.out.size
  have T_x2 := Lib.hid hO.lt
  have S_x2 : Hid (w8_.heap.size ≤ w8_.heap.size) := Lib.hid (Nat.le_refl _)
  replace hO := hO.mono HB.out.size
  replace A0 := Lib.hid (A0.out.behind (hb.mono HB.out.size))
  replace A2 := Lib.hid (A2.out.behind (hb.mono HB.out.size))
  replace O_w0 := Lib.hid (O_w0.out.next hb)
  replace S_w0 := Lib.hid (Nat.le_trans S_w0.out hb.size)
  replace O_x0 := Lib.hid (O_x0.out.next hb)
  replace S_x0 := Lib.hid (Nat.le_trans S_x0.out hb.size)
  replace K_p0 := Lib.hid ((hb.block (w.heap.size) (lt_of_block K_p0.out)).trans K_p0.out)
  replace K_x0 := Lib.hid ((hb.block (w6_.heap.size) (lt_of_block K_x0.out)).trans K_x0.out)
  replace HB := Lib.hid (HB.out.trans (hb.mono HB.out.size))
  clear hb
  have O_x2 := Lib.hid hO
  clear hO
  -- ('call', 'impl', 'ReadPrivately', [('own', 'x0'), ('arg', 1), ('own', 'x2')], ['g0', 'g1'])
  have k_p0 := blk_cell K_p0.out 0
  rw [one0] at k_p0
  have k_x0 := blk_cell K_x0.out 0
  rw [one0] at k_x0
  go_wp2_with fail
  clear k_p0 k_x0
  refine (impl_rp O_x0.out.rd2 O_x2.out.rd (Nat.le_refl _) (Nat.le_refl _) W1.out (by omega) (by omega)).mono ?_
  rintro e w9_ ⟨v_g0, he, hO, hb⟩
  subst he
  have P_w0_g0 := S_w0
  have P_x0_g0 := S_x0
  have P_x2_g0 := S_x2
  have Q_p0_g0 : Hid (w.heap.size < w8_.heap.size) := Lib.hid (lt_of_block K_p0.out)
  have Q_x0_g0 : Hid (w6_.heap.size < w8_.heap.size) := Lib.hid (lt_of_block K_x0.out)
  have D_g0 := Lib.hid HB.out.size
  have T_g0 := Lib.hid hO.lt
  have S_g0 : Hid (w9_.heap.size ≤ w9_.heap.size) := Lib.hid (Nat.le_refl _)
  replace hO := hO.mono HB.out.size
  replace A0 := Lib.hid (A0.out.behind (hb.mono HB.out.size))
  replace A2 := Lib.hid (A2.out.behind (hb.mono HB.out.size))
  replace O_w0 := Lib.hid (O_w0.out.next hb)
  replace S_w0 := Lib.hid (Nat.le_trans S_w0.out hb.size)
  replace O_x0 := Lib.hid (O_x0.out.next hb)
  replace S_x0 := Lib.hid (Nat.le_trans S_x0.out hb.size)
  replace O_x2 := Lib.hid (O_x2.out.next hb)
  replace S_x2 := Lib.hid (Nat.le_trans S_x2.out hb.size)
  replace K_p0 := Lib.hid ((hb.block (w.heap.size) (lt_of_block K_p0.out)).trans K_p0.out)
  replace K_x0 := Lib.hid ((hb.block (w6_.heap.size) (lt_of_block K_x0.out)).trans K_x0.out)
  replace HB := Lib.hid (HB.out.trans (hb.mono HB.out.size))
  clear hb
  have O_g0 := Lib.hid hO
  clear hO
  -- ('eq', 'Byte', ('own', 'g0'), ('own', 'w0'))
  have k_p0 := blk_cell K_p0.out 0
  rw [one0] at k_p0
  have k_x0 := blk_cell K_x0.out 0
  rw [one0] at k_x0
  go_wp2_with fail
  clear k_p0 k_x0
  refine (eqByteS_same O_g0.out.rd O_w0.out.rd (Nat.le_refl _) (Nat.le_refl _)).mono ?_
  rintro e w10_ ⟨he, hb⟩
  subst he
  replace A0 := Lib.hid (A0.out.behind (hb.mono HB.out.size))
  replace A2 := Lib.hid (A2.out.behind (hb.mono HB.out.size))
  replace O_w0 := Lib.hid (O_w0.out.next hb)
  replace S_w0 := Lib.hid (Nat.le_trans S_w0.out hb.size)
  replace O_x0 := Lib.hid (O_x0.out.next hb)
  replace S_x0 := Lib.hid (Nat.le_trans S_x0.out hb.size)
  replace O_x2 := Lib.hid (O_x2.out.next hb)
  replace S_x2 := Lib.hid (Nat.le_trans S_x2.out hb.size)
  replace O_g0 := Lib.hid (O_g0.out.next hb)
  replace S_g0 := Lib.hid (Nat.le_trans S_g0.out hb.size)
  replace K_p0 := Lib.hid ((hb.block (w.heap.size) (lt_of_block K_p0.out)).trans K_p0.out)
  replace K_x0 := Lib.hid ((hb.block (w6_.heap.size) (lt_of_block K_x0.out)).trans K_x0.out)
  replace HB := Lib.hid (HB.out.trans (hb.mono HB.out.size))
  clear hb
  -- ('eq', 'Db', ('own', 'x0'), ('copy', 0, 'Db'))
  have k_p0 := blk_cell K_p0.out 0
  rw [one0] at k_p0
  have k_x0 := blk_cell K_x0.out 0
  rw [one0] at k_x0
  go_wp2_with fail
  clear k_p0 k_x0
  have hb : Below w10_.heap.size w10_ w10_.drew := (Below.refl _ _).drew
  replace A0 := Lib.hid (A0.out.behind (hb.mono HB.out.size))
  replace A2 := Lib.hid (A2.out.behind (hb.mono HB.out.size))
  replace O_w0 := Lib.hid (O_w0.out.next hb)
  replace S_w0 := Lib.hid (Nat.le_trans S_w0.out hb.size)
  replace O_x0 := Lib.hid (O_x0.out.next hb)
  replace S_x0 := Lib.hid (Nat.le_trans S_x0.out hb.size)
  replace O_x2 := Lib.hid (O_x2.out.next hb)
  replace S_x2 := Lib.hid (Nat.le_trans S_x2.out hb.size)
  replace O_g0 := Lib.hid (O_g0.out.next hb)
  replace S_g0 := Lib.hid (Nat.le_trans S_g0.out hb.size)
  replace K_p0 := Lib.hid ((hb.block (w.heap.size) (lt_of_block K_p0.out)).trans K_p0.out)
  replace K_x0 := Lib.hid ((hb.block (w6_.heap.size) (lt_of_block K_x0.out)).trans K_x0.out)
  replace HB := Lib.hid (HB.out.trans (hb.mono HB.out.size))
  clear hb
  have d0 : w10_.drew.cell? ⟨w6_.heap.size, 0, none⟩ = some (.slice a_x0 L_x0 c_x0) ∧ w10_.drew.cell? ⟨w.heap.size, 0, none⟩ = some (.slice a0 s0.length cap0) := ⟨(blk_cell K_x0.out 0).trans (one0 _), (blk_cell K_p0.out 0).trans (one0 _)⟩
  go_region_held3 (fun w' => w'.cell? ⟨w6_.heap.size, 0, none⟩ = some (.slice a_x0 L_x0 c_x0) ∧ w'.cell? ⟨w.heap.size, 0, none⟩ = some (.slice a0 s0.length cap0)) (first | assumption | go_keep) ((first
    | (go_at_call 38
       go_loud (refine (toDatabase_any A0.out HB.out.size (by omega)).mono ?_
                rintro e w11_ ⟨v_t3, he, hO, hb⟩
                subst he
                obtain ⟨L_t3, hL⟩ : ∃ L, L = (s0).length := ⟨_, rfl⟩
                obtain ⟨a_t3, c_t3, hv, _⟩ := hO.open
                rw [← hL] at hv
                clear hL
                subst hv
                have P_x0_t3 := S_x0
                have P_x2_t3 := S_x2
                have P_g0_t3 := S_g0
                have D_t3 := Lib.hid HB.out.size
                have S_t3 : Hid (w11_.heap.size ≤ w11_.heap.size) := Lib.hid (Nat.le_refl _)
                replace A0 := Lib.hid (A0.out.behind (hb.mono HB.out.size))
                replace A2 := Lib.hid (A2.out.behind (hb.mono HB.out.size))
                replace O_w0 := Lib.hid (O_w0.out.next hb)
                replace S_w0 := Lib.hid (Nat.le_trans S_w0.out hb.size)
                replace O_x0 := Lib.hid (O_x0.out.next hb)
                replace S_x0 := Lib.hid (Nat.le_trans S_x0.out hb.size)
                replace O_x2 := Lib.hid (O_x2.out.next hb)
                replace S_x2 := Lib.hid (Nat.le_trans S_x2.out hb.size)
                replace O_g0 := Lib.hid (O_g0.out.next hb)
                replace S_g0 := Lib.hid (Nat.le_trans S_g0.out hb.size)
                replace K_p0 := Lib.hid ((hb.block (w.heap.size) (lt_of_block K_p0.out)).trans K_p0.out)
                replace K_x0 := Lib.hid ((hb.block (w6_.heap.size) (lt_of_block K_x0.out)).trans K_x0.out)
                replace HB := Lib.hid (HB.out.trans (hb.mono HB.out.size))
                clear hb
                have O_t3 := Lib.hid hO
                clear hO
                have d1 : w11_.cell? ⟨w6_.heap.size, 0, none⟩ = some (.slice a_x0 L_x0 c_x0) ∧ w11_.cell? ⟨w.heap.size, 0, none⟩ = some (.slice a0 s0.length cap0) := ⟨(blk_cell K_x0.out 0).trans (one0 _), (blk_cell K_p0.out 0).trans (one0 _)⟩))
    | (go_at_call 40
       go_loud (refine (eqDatabase_same O_x0.out.rd2 O_t3.out.rd2 (Nat.le_refl _) (Nat.le_refl _)).mono ?_
                rintro e w12_ ⟨he, hb⟩
                subst he
                replace A0 := Lib.hid (A0.out.behind (hb.mono HB.out.size))
                replace A2 := Lib.hid (A2.out.behind (hb.mono HB.out.size))
                replace O_w0 := Lib.hid (O_w0.out.next hb)
                replace S_w0 := Lib.hid (Nat.le_trans S_w0.out hb.size)
                replace O_x0 := Lib.hid (O_x0.out.next hb)
                replace S_x0 := Lib.hid (Nat.le_trans S_x0.out hb.size)
                replace O_x2 := Lib.hid (O_x2.out.next hb)
                replace S_x2 := Lib.hid (Nat.le_trans S_x2.out hb.size)
                replace O_g0 := Lib.hid (O_g0.out.next hb)
                replace S_g0 := Lib.hid (Nat.le_trans S_g0.out hb.size)
                replace O_t3 := Lib.hid (O_t3.out.next hb)
                replace S_t3 := Lib.hid (Nat.le_trans S_t3.out hb.size)
                replace K_p0 := Lib.hid ((hb.block (w.heap.size) (lt_of_block K_p0.out)).trans K_p0.out)
                replace K_x0 := Lib.hid ((hb.block (w6_.heap.size) (lt_of_block K_x0.out)).trans K_x0.out)
                replace HB := Lib.hid (HB.out.trans (hb.mono HB.out.size))
                clear hb
                have d2 : w12_.cell? ⟨w6_.heap.size, 0, none⟩ = some (.slice a_x0 L_x0 c_x0) ∧ w12_.cell? ⟨w.heap.size, 0, none⟩ = some (.slice a0 s0.length cap0) := ⟨(blk_cell K_x0.out 0).trans (one0 _), (blk_cell K_p0.out 0).trans (one0 _)⟩))))
  clear d0 d1 d2
  clear O_t3 S_t3 D_t3
  clear P_x0_t3
  clear P_x2_t3
  clear P_g0_t3
  -- ('eq', 'Int', ('own', 'x2'), ('copy', 2, 'Int'))
  have k_p0 := blk_cell K_p0.out 0
  rw [one0] at k_p0
  have k_x0 := blk_cell K_x0.out 0
  rw [one0] at k_x0
  go_wp2_with fail
  clear k_p0 k_x0
  refine (toIntS_any A2.out HB.out.size (by omega)).mono ?_
  rintro e w13_ ⟨v_t4, he, hO, hb⟩
  subst he
  have P_x0_t4 := S_x0
  have P_x2_t4 := S_x2
  have P_g0_t4 := S_g0
  have D_t4 := Lib.hid HB.out.size
  have T_t4 := Lib.hid hO.lt
  have S_t4 : Hid (w13_.heap.size ≤ w13_.heap.size) := Lib.hid (Nat.le_refl _)
  replace hO := hO.mono HB.out.size
  replace A0 := Lib.hid (A0.out.behind (hb.mono HB.out.size))
  replace A2 := Lib.hid (A2.out.behind (hb.mono HB.out.size))
  replace O_w0 := Lib.hid (O_w0.out.next hb)
  replace S_w0 := Lib.hid (Nat.le_trans S_w0.out hb.size)
  replace O_x0 := Lib.hid (O_x0.out.next hb)
  replace S_x0 := Lib.hid (Nat.le_trans S_x0.out hb.size)
  replace O_x2 := Lib.hid (O_x2.out.next hb)
  replace S_x2 := Lib.hid (Nat.le_trans S_x2.out hb.size)
  replace O_g0 := Lib.hid (O_g0.out.next hb)
  replace S_g0 := Lib.hid (Nat.le_trans S_g0.out hb.size)
  replace K_p0 := Lib.hid ((hb.block (w.heap.size) (lt_of_block K_p0.out)).trans K_p0.out)
  replace K_x0 := Lib.hid ((hb.block (w6_.heap.size) (lt_of_block K_x0.out)).trans K_x0.out)
  replace HB := Lib.hid (HB.out.trans (hb.mono HB.out.size))
  clear hb
  have O_t4 := Lib.hid hO
  clear hO
  have k_p0 := blk_cell K_p0.out 0
  rw [one0] at k_p0
  have k_x0 := blk_cell K_x0.out 0
  rw [one0] at k_x0
  go_wp2_with fail
  clear k_p0 k_x0
  refine (eqIntS_same O_x2.out.rd O_t4.out.rd (Nat.le_refl _) (Nat.le_refl _)).mono ?_
  rintro e w14_ ⟨he, hb⟩
  subst he
  replace A0 := Lib.hid (A0.out.behind (hb.mono HB.out.size))
  replace A2 := Lib.hid (A2.out.behind (hb.mono HB.out.size))
  replace O_w0 := Lib.hid (O_w0.out.next hb)
  replace S_w0 := Lib.hid (Nat.le_trans S_w0.out hb.size)
  replace O_x0 := Lib.hid (O_x0.out.next hb)
  replace S_x0 := Lib.hid (Nat.le_trans S_x0.out hb.size)
  replace O_x2 := Lib.hid (O_x2.out.next hb)
  replace S_x2 := Lib.hid (Nat.le_trans S_x2.out hb.size)
  replace O_g0 := Lib.hid (O_g0.out.next hb)
  replace S_g0 := Lib.hid (Nat.le_trans S_g0.out hb.size)
  replace O_t4 := Lib.hid (O_t4.out.next hb)
  replace S_t4 := Lib.hid (Nat.le_trans S_t4.out hb.size)
  replace K_p0 := Lib.hid ((hb.block (w.heap.size) (lt_of_block K_p0.out)).trans K_p0.out)
  replace K_x0 := Lib.hid ((hb.block (w6_.heap.size) (lt_of_block K_x0.out)).trans K_x0.out)
  replace HB := Lib.hid (HB.out.trans (hb.mono HB.out.size))
  clear hb
  clear O_t4 S_t4 D_t4
  clear T_t4
  clear P_x0_t4
  clear P_x2_t4
  clear P_g0_t4
  -- ('set', 'k', '1')
  -- ('mark', 'k', 'Db', 'x0', 'k')
  have hF10 : fl (s0) ≤ 1099511627776 := by have := fl_tot s0; omega
  obtain ⟨K10, hK10⟩ : ∃ K : Int, K = 1 + ((fl (s0) : Nat) : Int) := ⟨_, rfl⟩
  have k_p0 := blk_cell K_p0.out 0
  rw [one0] at k_p0
  have k_x0 := blk_cell K_x0.out 0
  rw [one0] at k_x0
  go_wp2_with fail
  clear k_p0 k_x0
  refine (markDatabase_any (k0 := 1) O_x0.out (by omega) (by omega)).mono ?_
  rintro e w15_ ⟨he, hO, hG⟩
  rw [← hK10] at he
  subst he
  have hb := hG.below (B := w.heap.size) (fun b hb => Nat.le_trans D_x0.out hb.1) HB.out.size
  replace A0 := Lib.hid (A0.out.behind hb)
  replace A2 := Lib.hid (A2.out.behind hb)
  replace O_w0 := Lib.hid (O_w0.out.keptF hG (not_ival T_w0.out (.inl P_w0_x0.out)))
  replace S_w0 := Lib.hid (Nat.le_trans S_w0.out hb.size)
  replace O_x2 := Lib.hid (O_x2.out.keptF hG (not_ival T_x2.out (.inr P_x0_x2.out)))
  replace S_x2 := Lib.hid (Nat.le_trans S_x2.out hb.size)
  replace O_g0 := Lib.hid (O_g0.out.keptF hG (not_ival T_g0.out (.inr P_x0_g0.out)))
  replace S_g0 := Lib.hid (Nat.le_trans S_g0.out hb.size)
  replace K_p0 := Lib.hid ((hG.block (w.heap.size) (lt_of_block K_p0.out) (fun h => by have := Q_p0_x0.out; unfold ival at h; omega)).trans K_p0.out)
  replace K_x0 := Lib.hid ((hG.block (w6_.heap.size) (lt_of_block K_x0.out) (fun h => by have := R_x0_x0.out; unfold ival at h; omega)).trans K_x0.out)
  replace O_x0 := Lib.hid hO
  replace S_x0 := Lib.hid (Nat.le_trans S_x0.out hb.size)
  replace HB := Lib.hid (HB.out.trans hb)
  clear hb hO hG
  have lK10 : 0 ≤ K10 ∧ K10 ≤ 1099511627777 := by omega
  have dK10 : decide (K10 < 0) = false := by simp; omega
  have HK10 := Lib.hid hK10
  clear hK10 hF10
  clear O_x0 S_x0 D_x0
  clear P_w0_x0
  clear P_x0_x2
  clear P_x0_g0
  clear K_x0 R_x0
  -- ('mark', 'k', 'Int', 'x2', 'k')
  have hF11 : (s2).length ≤ 1099511627776 := by omega
  obtain ⟨K11, hK11⟩ : ∃ K : Int, K = K10 + (((s2).length : Nat) : Int) := ⟨_, rfl⟩
  have k_p0 := blk_cell K_p0.out 0
  rw [one0] at k_p0
  go_wp2_with fail
  clear k_p0
  refine (markIntS_any (k0 := K10) O_x2.out (by omega) (by omega)).mono ?_
  rintro e w16_ ⟨he, hO, hG⟩
  rw [← hK11] at he
  subst he
  have hb := O_x2.out.below (Nat.le_refl _) hG
  replace A0 := Lib.hid (A0.out.behind hb)
  replace A2 := Lib.hid (A2.out.behind hb)
  replace O_w0 := Lib.hid (O_w0.out.beside (apart_ival T_w0.out T_x2.out (.inl P_w0_x2.out)) hG)
  replace S_w0 := Lib.hid (Nat.le_trans S_w0.out hb.size)
  replace O_g0 := Lib.hid (O_g0.out.beside (apart_ival T_g0.out T_x2.out (.inr P_x2_g0.out)) hG)
  replace S_g0 := Lib.hid (Nat.le_trans S_g0.out hb.size)
  replace K_p0 := Lib.hid ((hG.block (w.heap.size) (lt_of_block K_p0.out) (fun h => by have := Q_p0_x2.out; have := T_x2.out _ h.symm; omega)).trans K_p0.out)
  replace O_x2 := Lib.hid hO
  replace S_x2 := Lib.hid (Nat.le_trans S_x2.out hb.size)
  replace HB := Lib.hid (HB.out.trans hb)
  clear hb hO hG
  have lK11 : 0 ≤ K11 ∧ K11 ≤ 2199023255553 := by omega
  have dK11 : decide (K11 < 0) = false := by simp; omega
  have HK11 := Lib.hid hK11
  clear hK11 hF11
  clear O_x2 S_x2 D_x2
  clear T_x2
  clear P_w0_x2
  clear P_x2_g0
  -- ('eq', 'Byte', ('own', 'g0'), ('own', 'w0'))
  have k_p0 := blk_cell K_p0.out 0
  rw [one0] at k_p0
  go_wp2_with fail
  clear k_p0
  refine (eqByteS_same O_g0.out.rd O_w0.out.rd (Nat.le_refl _) (Nat.le_refl _)).mono ?_
  rintro e w17_ ⟨he, hb⟩
  subst he
  replace A0 := Lib.hid (A0.out.behind (hb.mono HB.out.size))
  replace A2 := Lib.hid (A2.out.behind (hb.mono HB.out.size))
  replace O_w0 := Lib.hid (O_w0.out.next hb)
  replace S_w0 := Lib.hid (Nat.le_trans S_w0.out hb.size)
  replace O_g0 := Lib.hid (O_g0.out.next hb)
  replace S_g0 := Lib.hid (Nat.le_trans S_g0.out hb.size)
  replace K_p0 := Lib.hid ((hb.block (w.heap.size) (lt_of_block K_p0.out)).trans K_p0.out)
  replace HB := Lib.hid (HB.out.trans (hb.mono HB.out.size))
  clear hb
  -- ('set', 'm', '1')
  -- ('mark', 'm', 'Byte', 'g0', 'm')
  have hF14 : ((rp s0 a1 s2)).length ≤ 1099511627776 := by have := rp_len s0 a1 s2; have := fl_tot s0; omega
  obtain ⟨K14, hK14⟩ : ∃ K : Int, K = 1 + ((((rp s0 a1 s2)).length : Nat) : Int) := ⟨_, rfl⟩
  have k_p0 := blk_cell K_p0.out 0
  rw [one0] at k_p0
  go_wp2_with fail
  clear k_p0
  refine (markByteS_any (k0 := 1) O_g0.out (by omega) (by omega)).mono ?_
  rintro e w18_ ⟨he, hO, hG⟩
  rw [← hK14] at he
  subst he
  have hb := O_g0.out.below (Nat.le_refl _) hG
  replace A0 := Lib.hid (A0.out.behind hb)
  replace A2 := Lib.hid (A2.out.behind hb)
  replace O_w0 := Lib.hid (O_w0.out.beside (apart_ival T_w0.out T_g0.out (.inl P_w0_g0.out)) hG)
  replace S_w0 := Lib.hid (Nat.le_trans S_w0.out hb.size)
  replace K_p0 := Lib.hid ((hG.block (w.heap.size) (lt_of_block K_p0.out) (fun h => by have := Q_p0_g0.out; have := T_g0.out _ h.symm; omega)).trans K_p0.out)
  replace O_g0 := Lib.hid hO
  replace S_g0 := Lib.hid (Nat.le_trans S_g0.out hb.size)
  replace HB := Lib.hid (HB.out.trans hb)
  clear hb hO hG
  have lK14 : 0 ≤ K14 ∧ K14 ≤ 1099511627777 := by omega
  have dK14 : decide (K14 < 0) = false := by simp; omega
  have HK14 := Lib.hid hK14
  clear hK14 hF14
  -- ('set', 'q', '1')
  -- ('held', 'q', 'Byte', 'g0', 'q')
  have k_p0 := blk_cell K_p0.out 0
  rw [one0] at k_p0
  go_wp2_with fail
  clear k_p0
  refine (heldByteS_any (k0 := 1) O_g0.out.rd (Nat.le_refl _) (by omega) (by have := HK14.out; omega)).mono ?_
  rintro e w19_ ⟨he, hb⟩
  rw [← HK14.out] at he
  subst he
  replace A0 := Lib.hid (A0.out.behind (hb.mono HB.out.size))
  replace A2 := Lib.hid (A2.out.behind (hb.mono HB.out.size))
  replace O_w0 := Lib.hid (O_w0.out.next hb)
  replace S_w0 := Lib.hid (Nat.le_trans S_w0.out hb.size)
  replace O_g0 := Lib.hid (O_g0.out.next hb)
  replace S_g0 := Lib.hid (Nat.le_trans S_g0.out hb.size)
  replace K_p0 := Lib.hid ((hb.block (w.heap.size) (lt_of_block K_p0.out)).trans K_p0.out)
  replace HB := Lib.hid (HB.out.trans (hb.mono HB.out.size))
  clear hb
  -- ('call', 'impl', 'ReadPrivately', [('copy', 0, 'Db'), ('arg', 1), ('copy', 2, 'Int')], ['h0', 'h1'])
  have k_p0 := blk_cell K_p0.out 0
  rw [one0] at k_p0
  go_wp2_with fail
  clear k_p0
  refine (toDatabase_any A0.out HB.out.size (by omega)).mono ?_
  rintro e w20_ ⟨v_t5, he, hO, hb⟩
  subst he
  obtain ⟨L_t5, hL⟩ : ∃ L, L = (s0).length := ⟨_, rfl⟩
  obtain ⟨a_t5, c_t5, hv, _⟩ := hO.open
  rw [← hL] at hv
  clear hL
  subst hv
  have D_t5 := Lib.hid HB.out.size
  have S_t5 : Hid (w20_.heap.size ≤ w20_.heap.size) := Lib.hid (Nat.le_refl _)
  replace A0 := Lib.hid (A0.out.behind (hb.mono HB.out.size))
  replace A2 := Lib.hid (A2.out.behind (hb.mono HB.out.size))
  replace O_w0 := Lib.hid (O_w0.out.next hb)
  replace S_w0 := Lib.hid (Nat.le_trans S_w0.out hb.size)
  replace O_g0 := Lib.hid (O_g0.out.next hb)
  replace S_g0 := Lib.hid (Nat.le_trans S_g0.out hb.size)
  replace K_p0 := Lib.hid ((hb.block (w.heap.size) (lt_of_block K_p0.out)).trans K_p0.out)
  replace HB := Lib.hid (HB.out.trans (hb.mono HB.out.size))
  clear hb
  have O_t5 := Lib.hid hO
  clear hO
  have k_p0 := blk_cell K_p0.out 0
  rw [one0] at k_p0
  go_wp2_with fail
  clear k_p0
  refine (toIntS_any A2.out HB.out.size (by omega)).mono ?_
  rintro e w21_ ⟨v_t6, he, hO, hb⟩
  subst he
  have D_t6 := Lib.hid HB.out.size
  have T_t6 := Lib.hid hO.lt
  have S_t6 : Hid (w21_.heap.size ≤ w21_.heap.size) := Lib.hid (Nat.le_refl _)
  replace hO := hO.mono HB.out.size
  replace A0 := Lib.hid (A0.out.behind (hb.mono HB.out.size))
  replace A2 := Lib.hid (A2.out.behind (hb.mono HB.out.size))
  replace O_w0 := Lib.hid (O_w0.out.next hb)
  replace S_w0 := Lib.hid (Nat.le_trans S_w0.out hb.size)
  replace O_g0 := Lib.hid (O_g0.out.next hb)
  replace S_g0 := Lib.hid (Nat.le_trans S_g0.out hb.size)
  replace O_t5 := Lib.hid (O_t5.out.next hb)
  replace S_t5 := Lib.hid (Nat.le_trans S_t5.out hb.size)
  replace K_p0 := Lib.hid ((hb.block (w.heap.size) (lt_of_block K_p0.out)).trans K_p0.out)
  replace HB := Lib.hid (HB.out.trans (hb.mono HB.out.size))
  clear hb
  have O_t6 := Lib.hid hO
  clear hO
  have k_p0 := blk_cell K_p0.out 0
  rw [one0] at k_p0
  go_wp2_with fail
  clear k_p0
  refine (impl_rp O_t5.out.rd2 O_t6.out.rd (Nat.le_refl _) (Nat.le_refl _) W1.out (by omega) (by omega)).mono ?_
  rintro e w22_ ⟨v_h0, he, hO, hb⟩
  subst he
  have D_h0 := Lib.hid HB.out.size
  have T_h0 := Lib.hid hO.lt
  have S_h0 : Hid (w22_.heap.size ≤ w22_.heap.size) := Lib.hid (Nat.le_refl _)
  replace hO := hO.mono HB.out.size
  replace A0 := Lib.hid (A0.out.behind (hb.mono HB.out.size))
  replace A2 := Lib.hid (A2.out.behind (hb.mono HB.out.size))
  replace O_w0 := Lib.hid (O_w0.out.next hb)
  replace S_w0 := Lib.hid (Nat.le_trans S_w0.out hb.size)
  replace O_g0 := Lib.hid (O_g0.out.next hb)
  replace S_g0 := Lib.hid (Nat.le_trans S_g0.out hb.size)
  replace O_t5 := Lib.hid (O_t5.out.next hb)
  replace S_t5 := Lib.hid (Nat.le_trans S_t5.out hb.size)
  replace O_t6 := Lib.hid (O_t6.out.next hb)
  replace S_t6 := Lib.hid (Nat.le_trans S_t6.out hb.size)
  replace K_p0 := Lib.hid ((hb.block (w.heap.size) (lt_of_block K_p0.out)).trans K_p0.out)
  replace HB := Lib.hid (HB.out.trans (hb.mono HB.out.size))
  clear hb
  have O_h0 := Lib.hid hO
  clear hO
  clear O_t5 S_t5 D_t5
  clear O_t6 S_t6 D_t6
  clear T_t6
  clear A0
  clear K_p0 R_p0
  clear A2
  -- ('eq', 'Byte', ('own', 'h0'), ('own', 'w0'))
  go_wp2_with fail
  refine (eqByteS_same O_h0.out.rd O_w0.out.rd (Nat.le_refl _) (Nat.le_refl _)).mono ?_
  rintro e w23_ ⟨he, hb⟩
  subst he
  replace O_w0 := Lib.hid (O_w0.out.next hb)
  replace S_w0 := Lib.hid (Nat.le_trans S_w0.out hb.size)
  replace O_g0 := Lib.hid (O_g0.out.next hb)
  replace S_g0 := Lib.hid (Nat.le_trans S_g0.out hb.size)
  replace O_h0 := Lib.hid (O_h0.out.next hb)
  replace S_h0 := Lib.hid (Nat.le_trans S_h0.out hb.size)
  replace HB := Lib.hid (HB.out.trans (hb.mono HB.out.size))
  clear hb
  clear O_w0 S_w0 D_w0
  clear T_w0
  clear P_w0_g0
  clear O_h0 S_h0 D_h0
  clear T_h0
  -- ('set', 'q', '1')
  -- ('held', 'q', 'Byte', 'g0', 'q')
  go_wp2_with fail
  refine (heldByteS_any (k0 := 1) O_g0.out.rd (Nat.le_refl _) (by omega) (by have := HK14.out; omega)).mono ?_
  rintro e w24_ ⟨he, hb⟩
  rw [← HK14.out] at he
  subst he
  replace O_g0 := Lib.hid (O_g0.out.next hb)
  replace S_g0 := Lib.hid (Nat.le_trans S_g0.out hb.size)
  replace HB := Lib.hid (HB.out.trans (hb.mono HB.out.size))
  clear hb
  clear O_g0 S_g0 D_g0
  clear T_g0
  go_wp2_with fail
  go_ret
  exact ⟨rfl, HB.out⟩

end Go.Proofs.Ytigeghmkkppldaa
