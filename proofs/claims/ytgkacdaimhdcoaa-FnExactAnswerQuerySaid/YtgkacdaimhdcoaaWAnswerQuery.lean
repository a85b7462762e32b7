/- FnExactAnswerQuery: the walk. No conditions. -/
import Derived.Test.YtgkacdaimhdcoaaQu5
import Derived.Test.YtgkacdaimhdcoaaDbH
import Derived.Test.YtgkacdaimhdcoaaBa6
import Derived.Test.YtgkacdaimhdcoaaBa3
import Derived.Test.YtgkacdaimhdcoaaBa5
import Derived.Deep.RegionHeld3
import Derived.Deep.DeepCutAuto
import Derived.Test.YtgkacdaimhdcoaaHeldL
namespace Go.Proofs.Ytgkacdaimhdcoaa
open Go Go.RowKit
set_option linter.unusedVariables false

set_option maxHeartbeats 4000000 in
set_option maxRecDepth 20000 in
theorem fnExactAnswerQuery_walk (a0 : Option Addr) (len0 cap0 : Nat) (z0 : List (List Int)) (a1 : Option Addr) (len1 cap1 : Nat) (z1 : List Int) (w : World) (w0 : Rd2 w.heap.size .u8 w (.slice a0 len0 cap0) z0) (w1 : IsRow .i64 w a1 len1 cap1 z1) :
    Calls Try.prog 7 #[.agg #[.slice a0 len0 cap0], .slice a1 len1 cap1] w fun e w' => e = .returned (.bool true) ∧ Below w.heap.size w w' := by
  obtain ⟨s0, A0, l0⟩ : ∃ s, Rd2 w.heap.size .u8 w (.slice a0 len0 cap0) s ∧ len0 = s.length := ⟨z0, w0, w0.len_eq⟩
  subst l0
  replace A0 := Lib.hid A0
  clear w0
  have m0 : s0.length ≤ 9223372036854775807 := by have := A0.out.len; unfold maxLen at this; omega
  obtain ⟨s1, A1, l1⟩ : ∃ s, Rd w.heap.size .i64 w (.slice a1 len1 cap1) s ∧ len1 = s.length := ⟨z1.take len1, w1.rd, w1.rd.len_eq⟩
  subst l1
  replace A1 := Lib.hid A1
  clear w1
  have m1 : s1.length ≤ 9223372036854775807 := by have := A1.out.len; unfold maxLen at this; omega
  by_cases b1 : 1048576 < s1.length
  · have b1' : decide ((1048576 : Int) < (s1.length : Int)) = true := by simp; omega
    go_enter Try.func7, Try.ntmps7
    go_wp2_with fail
    go_ret
    exact ⟨rfl, ((Below.refl w.heap.size w).alloc (Nat.le_refl _) _)⟩
  have b1' : decide ((1048576 : Int) < (s1.length : Int)) = false := by simp; omega
  by_cases b0z : (tot s0 : Int) ≤ (1048576 : Int)
  case neg =>
    have c0 := Lib.hid b0z
    go_enter Try.func7, Try.ntmps7
    have HB := Lib.hid (Below.refl w.heap.size w)
    have hb := ((Below.refl w.heap.size w).alloc (Nat.le_refl _) (.cells #[.slice a0 s0.length cap0] 51))
    have K_p0 := Lib.hid (heap_alloc_new w (.cells #[.slice a0 s0.length cap0] 51))
    have R_p0 := Lib.hid (lt_of_block K_p0.out)
    replace A0 := Lib.hid (A0.out.behind hb)
    replace A1 := Lib.hid (A1.out.behind hb)
    replace HB := Lib.hid hb
    clear hb
    have k_p0 := blk_cell K_p0.out 0
    rw [one0] at k_p0
    go_wp2_with fail
    clear k_p0
    obtain ⟨w1_, hw⟩ : ∃ x, x = (w.alloc (.cells #[.slice a0 s0.length cap0] 51)) := ⟨_, rfl⟩
    rw [← hw] at HB A0 A1 K_p0 R_p0 ⊢
    clear hw
    refine (szDatabase_any A0.out (by omega) (by omega) HB.out.size).mono ?_
    rintro e w2_ ⟨he, hb⟩
    rw [if_neg (by have := c0.out; omega)] at he
    subst he
    replace A0 := Lib.hid (A0.out.behind (hb.mono HB.out.size))
    replace A1 := Lib.hid (A1.out.behind (hb.mono HB.out.size))
    replace K_p0 := Lib.hid ((hb.block (w.heap.size) (lt_of_block K_p0.out)).trans K_p0.out)
    replace HB := Lib.hid (HB.out.trans (hb.mono HB.out.size))
    clear hb
    have k_p0 := blk_cell K_p0.out 0
    rw [one0] at k_p0
    go_wp2_with fail
    clear k_p0
    go_ret
    exact ⟨rfl, HB.out⟩
  have c0 := Lib.hid b0z
  obtain ⟨q0, hq0⟩ : ∃ q : Int, q = (1048576 : Int) - (tot s0 : Int) := ⟨_, rfl⟩
  have d0q : decide (q0 < 0) = false := by simp; omega
  have e0q : 0 ≤ q0 ∧ q0 ≤ 1048576 := by omega
  have b0t : tot s0 ≤ 1048576 := by omega
  have H0q := Lib.hid hq0
  clear hq0 b0z
  go_enter Try.func7, Try.ntmps7
  have HB := Lib.hid (Below.refl w.heap.size w)
  have hb := ((Below.refl w.heap.size w).alloc (Nat.le_refl _) (.cells #[.slice a0 s0.length cap0] 51))
  have K_p0 := Lib.hid (heap_alloc_new w (.cells #[.slice a0 s0.length cap0] 51))
  have R_p0 := Lib.hid (lt_of_block K_p0.out)
  replace A0 := Lib.hid (A0.out.behind hb)
  replace A1 := Lib.hid (A1.out.behind hb)
  replace HB := Lib.hid hb
  clear hb
  have k_p0 := blk_cell K_p0.out 0
  rw [one0] at k_p0
  go_wp2_with fail
  clear k_p0
  obtain ⟨w1_, hw⟩ : ∃ x, x = (w.alloc (.cells #[.slice a0 s0.length cap0] 51)) := ⟨_, rfl⟩
  rw [← hw] at HB A0 A1 K_p0 R_p0 ⊢
  clear hw
  refine (szDatabase_any A0.out (by omega) (by omega) HB.out.size).mono ?_
  rintro e w2_ ⟨he, hb⟩
  rw [if_pos (by have := c0.out; omega), ← H0q.out] at he
  subst he
  replace A0 := Lib.hid (A0.out.behind (hb.mono HB.out.size))
  replace A1 := Lib.hid (A1.out.behind (hb.mono HB.out.size))
  replace K_p0 := Lib.hid ((hb.block (w.heap.size) (lt_of_block K_p0.out)).trans K_p0.out)
  replace HB := Lib.hid (HB.out.trans (hb.mono HB.out.size))
  clear hb
  -- ('big', 1)
  -- ('sz', 0, 'Db')
  -- ('call', 'spec', 'AnswerQuery', [('copy', 0, 'Db'), ('copy', 1, 'Int')], ['w0'])
  have k_p0 := blk_cell K_p0.out 0
  rw [one0] at k_p0
  go_wp2_with fail
  clear k_p0
  refine (toDatabase_any A0.out HB.out.size (by omega)).mono ?_
  rintro e w3_ ⟨v_t1, he, hO, hb⟩
  subst he
  obtain ⟨L_t1, hL⟩ : ∃ L, L = (s0).length := ⟨_, rfl⟩
  obtain ⟨a_t1, c_t1, hv, _⟩ := hO.open
  rw [← hL] at hv
  clear hL
  subst hv
  have D_t1 := Lib.hid HB.out.size
  have S_t1 : Hid (w3_.heap.size ≤ w3_.heap.size) := Lib.hid (Nat.le_refl _)
  replace A0 := Lib.hid (A0.out.behind (hb.mono HB.out.size))
  replace A1 := Lib.hid (A1.out.behind (hb.mono HB.out.size))
  replace K_p0 := Lib.hid ((hb.block (w.heap.size) (lt_of_block K_p0.out)).trans K_p0.out)
  replace HB := Lib.hid (HB.out.trans (hb.mono HB.out.size))
  clear hb
  have O_t1 := Lib.hid hO
  clear hO
  have k_p0 := blk_cell K_p0.out 0
  rw [one0] at k_p0
  go_wp2_with fail
  clear k_p0
  refine (toIntS_any A1.out HB.out.size (by omega)).mono ?_
  rintro e w4_ ⟨v_t2, he, hO, hb⟩
  subst he
  have D_t2 := Lib.hid HB.out.size
  have T_t2 := Lib.hid hO.lt
  have S_t2 : Hid (w4_.heap.size ≤ w4_.heap.size) := Lib.hid (Nat.le_refl _)
  replace hO := hO.mono HB.out.size
  replace A0 := Lib.hid (A0.out.behind (hb.mono HB.out.size))
  replace A1 := Lib.hid (A1.out.behind (hb.mono HB.out.size))
  replace O_t1 := Lib.hid (O_t1.out.next hb)
  replace S_t1 := Lib.hid (Nat.le_trans S_t1.out hb.size)
  replace K_p0 := Lib.hid ((hb.block (w.heap.size) (lt_of_block K_p0.out)).trans K_p0.out)
  replace HB := Lib.hid (HB.out.trans (hb.mono HB.out.size))
  clear hb
  have O_t2 := Lib.hid hO
  clear hO
  have k_p0 := blk_cell K_p0.out 0
  rw [one0] at k_p0
  go_wp2_with fail
  clear k_p0
  refine (spec_ans O_t1.out.rd2 O_t2.out.rd (Nat.le_refl _) (Nat.le_refl _) (by omega)).mono ?_
  rintro e w5_ ⟨v_w0, he, hO, hb⟩
  subst he
  have D_w0 := Lib.hid HB.out.size
  have T_w0 := Lib.hid hO.lt
  have S_w0 : Hid (w5_.heap.size ≤ w5_.heap.size) := Lib.hid (Nat.le_refl _)
  replace hO := hO.mono HB.out.size
  replace A0 := Lib.hid (A0.out.behind (hb.mono HB.out.size))
  replace A1 := Lib.hid (A1.out.behind (hb.mono HB.out.size))
  replace O_t1 := Lib.hid (O_t1.out.next hb)
  replace S_t1 := Lib.hid (Nat.le_trans S_t1.out hb.size)
  replace O_t2 := Lib.hid (O_t2.out.next hb)
  replace S_t2 := Lib.hid (Nat.le_trans S_t2.out hb.size)
  replace K_p0 := Lib.hid ((hb.block (w.heap.size) (lt_of_block K_p0.out)).trans K_p0.out)
  replace HB := Lib.hid (HB.out.trans (hb.mono HB.out.size))
  clear hb
  have O_w0 := Lib.hid hO
  clear hO
  clear O_t1 S_t1 D_t1
  clear O_t2 S_t2 D_t2
  clear T_t2
  -- ('copy', 'x0', 0, 'Db')
  have k_p0 := blk_cell K_p0.out 0
  rw [one0] at k_p0
  go_wp2_with fail
  clear k_p0
  refine (toDatabase_any A0.out HB.out.size (by omega)).mono ?_
  rintro e w6_ ⟨v_x0, he, hO, hb⟩
  subst he
  obtain ⟨L_x0, hL⟩ : ∃ L, L = (s0).length := ⟨_, rfl⟩
  obtain ⟨a_x0, c_x0, hv, _⟩ := hO.open
  rw [← hL] at hv
  clear hL
  subst hv
  have P_w0_x0 := S_w0
  have Q_p0_x0 : Hid (w.heap.size < w5_.heap.size) := Lib.hid (lt_of_block K_p0.out)
  have D_x0 := Lib.hid HB.out.size
  have S_x0 : Hid (w6_.heap.size ≤ w6_.heap.size) := Lib.hid (Nat.le_refl _)
  replace A0 := Lib.hid (A0.out.behind (hb.mono HB.out.size))
  replace A1 := Lib.hid (A1.out.behind (hb.mono HB.out.size))
  replace O_w0 := Lib.hid (O_w0.out.next hb)
  replace S_w0 := Lib.hid (Nat.le_trans S_w0.out hb.size)
  replace K_p0 := Lib.hid ((hb.block (w.heap.size) (lt_of_block K_p0.out)).trans K_p0.out)
  replace HB := Lib.hid (HB.out.trans (hb.mono HB.out.size))
  clear hb
  have O_x0 := Lib.hid hO
  clear hO
  have R_x0_x0 := S_x0
  have hb : Below w6_.heap.size w6_ (w6_.alloc (.cells #[.slice a_x0 L_x0 c_x0] 26)) := (Below.refl _ _).alloc (Nat.le_refl _) _
  replace A0 := Lib.hid (A0.out.behind (hb.mono HB.out.size))
  replace A1 := Lib.hid (A1.out.behind (hb.mono HB.out.size))
  replace O_w0 := Lib.hid (O_w0.out.next hb)
  replace S_w0 := Lib.hid (Nat.le_trans S_w0.out hb.size)
  replace O_x0 := Lib.hid (O_x0.out.next hb)
  replace S_x0 := Lib.hid (Nat.le_trans S_x0.out hb.size)
  replace K_p0 := Lib.hid ((hb.block (w.heap.size) (lt_of_block K_p0.out)).trans K_p0.out)
  replace HB := Lib.hid (HB.out.trans (hb.mono HB.out.size))
  clear hb
  have K_x0 := Lib.hid (heap_alloc_new w6_ (.cells #[.slice a_x0 L_x0 c_x0] 26))
  have R_x0 := Lib.hid (lt_of_block K_x0.out)
  have k_p0 := blk_cell K_p0.out 0
  rw [one0] at k_p0
  have k_x0 := blk_cell K_x0.out 0
  rw [one0] at k_x0
  go_wp2_with fail
  clear k_p0 k_x0
  obtain ⟨w7_, hw⟩ : ∃ x, x = w6_.alloc (.cells #[.slice a_x0 L_x0 c_x0] 26) := ⟨_, rfl⟩
  rw [← hw] at HB A0 A1 O_w0 S_w0 O_x0 S_x0 K_p0 K_x0 R_x0 ⊢
  clear hw
  -- ('copy', 'x1', 1, 'Int')
  refine (toIntS_any A1.out HB.out.size (by omega)).mono ?_
  rintro e w8_ ⟨v_x1, he, hO, hb⟩
  subst he
  have P_w0_x1 := S_w0
  have P_x0_x1 := S_x0
  have Q_p0_x1 : Hid (w.heap.size < w7_.heap.size) := Lib.hid (lt_of_block K_p0.out)
  have Q_x0_x1 : Hid (w6_.heap.size < w7_.heap.size) := Lib.hid (lt_of_block K_x0.out)
  have D_x1 := Lib.hid HB.out.size
  have T_x1 := Lib.hid hO.lt
  have S_x1 : Hid (w8_.heap.size ≤ w8_.heap.size) := Lib.hid (Nat.le_refl _)
  replace hO := hO.mono HB.out.size
  replace A0 := Lib.hid (A0.out.behind (hb.mono HB.out.size))
  replace A1 := Lib.hid (A1.out.behind (hb.mono HB.out.size))
  replace O_w0 := Lib.hid (O_w0.out.next hb)
  replace S_w0 := Lib.hid (Nat.le_trans S_w0.out hb.size)
  replace O_x0 := Lib.hid (O_x0.out.next hb)
  replace S_x0 := Lib.hid (Nat.le_trans S_x0.out hb.size)
  replace K_p0 := Lib.hid ((hb.block (w.heap.size) (lt_of_block K_p0.out)).trans K_p0.out)
  replace K_x0 := Lib.hid ((hb.block (w6_.heap.size) (lt_of_block K_x0.out)).trans K_x0.out)
  replace HB := Lib.hid (HB.out.trans (hb.mono HB.out.size))
  clear hb
  have O_x1 := Lib.hid hO
  clear hO
  -- ('call', 'impl', 'AnswerQuery', [('own', 'x0'), ('own', 'x1')], ['g0'])
  have k_p0 := blk_cell K_p0.out 0
  rw [one0] at k_p0
  have k_x0 := blk_cell K_x0.out 0
  rw [one0] at k_x0
  go_wp2_with fail
  clear k_p0 k_x0
  refine (impl_ans O_x0.out.rd2 O_x1.out.rd (Nat.le_refl _) (Nat.le_refl _) (by omega)).mono ?_
  rintro e w9_ ⟨v_g0, he, hO, hb⟩
  subst he
  have P_w0_g0 := S_w0
  have P_x0_g0 := S_x0
  have P_x1_g0 := S_x1
  have Q_p0_g0 : Hid (w.heap.size < w8_.heap.size) := Lib.hid (lt_of_block K_p0.out)
  have Q_x0_g0 : Hid (w6_.heap.size < w8_.heap.size) := Lib.hid (lt_of_block K_x0.out)
  have D_g0 := Lib.hid HB.out.size
  have T_g0 := Lib.hid hO.lt
  have S_g0 : Hid (w9_.heap.size ≤ w9_.heap.size) := Lib.hid (Nat.le_refl _)
  replace hO := hO.mono HB.out.size
  replace A0 := Lib.hid (A0.out.behind (hb.mono HB.out.size))
  replace A1 := Lib.hid (A1.out.behind (hb.mono HB.out.size))
  replace O_w0 := Lib.hid (O_w0.out.next hb)
  replace S_w0 := Lib.hid (Nat.le_trans S_w0.out hb.size)
  replace O_x0 := Lib.hid (O_x0.out.next hb)
  replace S_x0 := Lib.hid (Nat.le_trans S_x0.out hb.size)
  replace O_x1 := Lib.hid (O_x1.out.next hb)
  replace S_x1 := Lib.hid (Nat.le_trans S_x1.out hb.size)
  replace K_p0 := Lib.hid ((hb.block (w.heap.size) (lt_of_block K_p0.out)).trans K_p0.out)
  replace K_x0 := Lib.hid ((hb.block (w6_.heap.size) (lt_of_block K_x0.out)).trans K_x0.out)
  replace HB := Lib.hid (HB.out.trans (hb.mono HB.out.size))
  clear hb
  have O_g0 := Lib.hid hO
  clear hO
  -- ('eq', 'Byte', ('own', 'g0'), ('own', 'w0'))
  have k_p0 := blk_cell K_p0.out 0
  rw [one0] at k_p0
  have k_x0 := blk_cell K_x0.out 0
  rw [one0] at k_x0
  go_wp2_with fail
  clear k_p0 k_x0
  refine (eqByteS_same O_g0.out.rd O_w0.out.rd (Nat.le_refl _) (Nat.le_refl _)).mono ?_
  rintro e w10_ ⟨he, hb⟩
  subst he
  replace A0 := Lib.hid (A0.out.behind (hb.mono HB.out.size))
  replace A1 := Lib.hid (A1.out.behind (hb.mono HB.out.size))
  replace O_w0 := Lib.hid (O_w0.out.next hb)
  replace S_w0 := Lib.hid (Nat.le_trans S_w0.out hb.size)
  replace O_x0 := Lib.hid (O_x0.out.next hb)
  replace S_x0 := Lib.hid (Nat.le_trans S_x0.out hb.size)
  replace O_x1 := Lib.hid (O_x1.out.next hb)
  replace S_x1 := Lib.hid (Nat.le_trans S_x1.out hb.size)
  replace O_g0 := Lib.hid (O_g0.out.next hb)
  replace S_g0 := Lib.hid (Nat.le_trans S_g0.out hb.size)
  replace K_p0 := Lib.hid ((hb.block (w.heap.size) (lt_of_block K_p0.out)).trans K_p0.out)
  replace K_x0 := Lib.hid ((hb.block (w6_.heap.size) (lt_of_block K_x0.out)).trans K_x0.out)
  replace HB := Lib.hid (HB.out.trans (hb.mono HB.out.size))
  clear hb
  -- ('eq', 'Db', ('own', 'x0'), ('copy', 0, 'Db'))
  have k_p0 := blk_cell K_p0.out 0
  rw [one0] at k_p0
  have k_x0 := blk_cell K_x0.out 0
  rw [one0] at k_x0
  go_wp2_with fail
  clear k_p0 k_x0
  have hb : Below w10_.heap.size w10_ w10_.drew := (Below.refl _ _).drew
  replace A0 := Lib.hid (A0.out.behind (hb.mono HB.out.size))
  replace A1 := Lib.hid (A1.out.behind (hb.mono HB.out.size))
  replace O_w0 := Lib.hid (O_w0.out.next hb)
  replace S_w0 := Lib.hid (Nat.le_trans S_w0.out hb.size)
  replace O_x0 := Lib.hid (O_x0.out.next hb)
  replace S_x0 := Lib.hid (Nat.le_trans S_x0.out hb.size)
  replace O_x1 := Lib.hid (O_x1.out.next hb)
  replace S_x1 := Lib.hid (Nat.le_trans S_x1.out hb.size)
  replace O_g0 := Lib.hid (O_g0.out.next hb)
  replace S_g0 := Lib.hid (Nat.le_trans S_g0.out hb.size)
  replace K_p0 := Lib.hid ((hb.block (w.heap.size) (lt_of_block K_p0.out)).trans K_p0.out)
  replace K_x0 := Lib.hid ((hb.block (w6_.heap.size) (lt_of_block K_x0.out)).trans K_x0.out)
  replace HB := Lib.hid (HB.out.trans (hb.mono HB.out.size))
  clear hb
  have d0 : w10_.drew.cell? ⟨w6_.heap.size, 0, none⟩ = some (.slice a_x0 L_x0 c_x0) ∧ w10_.drew.cell? ⟨w.heap.size, 0, none⟩ = some (.slice a0 s0.length cap0) := ⟨(blk_cell K_x0.out 0).trans (one0 _), (blk_cell K_p0.out 0).trans (one0 _)⟩
  go_region_held3 (fun w' => w'.cell? ⟨w6_.heap.size, 0, none⟩ = some (.slice a_x0 L_x0 c_x0) ∧ w'.cell? ⟨w.heap.size, 0, none⟩ = some (.slice a0 s0.length cap0)) (first | assumption | go_keep) ((first
    | (go_at_call 38
       go_loud (refine (toDatabase_any A0.out HB.out.size (by omega)).mono ?_
                rintro e w11_ ⟨v_t3, he, hO, hb⟩
                subst he
                obtain ⟨L_t3, hL⟩ : ∃ L, L = (s0).length := ⟨_, rfl⟩
                obtain ⟨a_t3, c_t3, hv, _⟩ := hO.open
                rw [← hL] at hv
                clear hL
                subst hv
                have P_x0_t3 := S_x0
                have P_x1_t3 := S_x1
                have P_g0_t3 := S_g0
                have D_t3 := Lib.hid HB.out.size
                have S_t3 : Hid (w11_.heap.size ≤ w11_.heap.size) := Lib.hid (Nat.le_refl _)
                replace A0 := Lib.hid (A0.out.behind (hb.mono HB.out.size))
                replace A1 := Lib.hid (A1.out.behind (hb.mono HB.out.size))
                replace O_w0 := Lib.hid (O_w0.out.next hb)
                replace S_w0 := Lib.hid (Nat.le_trans S_w0.out hb.size)
                replace O_x0 := Lib.hid (O_x0.out.next hb)
                replace S_x0 := Lib.hid (Nat.le_trans S_x0.out hb.size)
                replace O_x1 := Lib.hid (O_x1.out.next hb)
                replace S_x1 := Lib.hid (Nat.le_trans S_x1.out hb.size)
                replace O_g0 := Lib.hid (O_g0.out.next hb)
                replace S_g0 := Lib.hid (Nat.le_trans S_g0.out hb.size)
                replace K_p0 := Lib.hid ((hb.block (w.heap.size) (lt_of_block K_p0.out)).trans K_p0.out)
                replace K_x0 := Lib.hid ((hb.block (w6_.heap.size) (lt_of_block K_x0.out)).trans K_x0.out)
                replace HB := Lib.hid (HB.out.trans (hb.mono HB.out.size))
                clear hb
                have O_t3 := Lib.hid hO
                clear hO
                have d1 : w11_.cell? ⟨w6_.heap.size, 0, none⟩ = some (.slice a_x0 L_x0 c_x0) ∧ w11_.cell? ⟨w.heap.size, 0, none⟩ = some (.slice a0 s0.length cap0) := ⟨(blk_cell K_x0.out 0).trans (one0 _), (blk_cell K_p0.out 0).trans (one0 _)⟩))
    | (go_at_call 40
       go_loud (refine (eqDatabase_same O_x0.out.rd2 O_t3.out.rd2 (Nat.le_refl _) (Nat.le_refl _)).mono ?_
                rintro e w12_ ⟨he, hb⟩
                subst he
                replace A0 := Lib.hid (A0.out.behind (hb.mono HB.out.size))
                replace A1 := Lib.hid (A1.out.behind (hb.mono HB.out.size))
                replace O_w0 := Lib.hid (O_w0.out.next hb)
                replace S_w0 := Lib.hid (Nat.le_trans S_w0.out hb.size)
                replace O_x0 := Lib.hid (O_x0.out.next hb)
                replace S_x0 := Lib.hid (Nat.le_trans S_x0.out hb.size)
                replace O_x1 := Lib.hid (O_x1.out.next hb)
                replace S_x1 := Lib.hid (Nat.le_trans S_x1.out hb.size)
                replace O_g0 := Lib.hid (O_g0.out.next hb)
                replace S_g0 := Lib.hid (Nat.le_trans S_g0.out hb.size)
                replace O_t3 := Lib.hid (O_t3.out.next hb)
                replace S_t3 := Lib.hid (Nat.le_trans S_t3.out hb.size)
                replace K_p0 := Lib.hid ((hb.block (w.heap.size) (lt_of_block K_p0.out)).trans K_p0.out)
                replace K_x0 := Lib.hid ((hb.block (w6_.heap.size) (lt_of_block K_x0.out)).trans K_x0.out)
                replace HB := Lib.hid (HB.out.trans (hb.mono HB.out.size))
                clear hb
                have d2 : w12_.cell? ⟨w6_.heap.size, 0, none⟩ = some (.slice a_x0 L_x0 c_x0) ∧ w12_.cell? ⟨w.heap.size, 0, none⟩ = some (.slice a0 s0.length cap0) := ⟨(blk_cell K_x0.out 0).trans (one0 _), (blk_cell K_p0.out 0).trans (one0 _)⟩))))
  clear d0 d1 d2
  clear O_t3 S_t3 D_t3
  clear P_x0_t3
  clear P_x1_t3
  clear P_g0_t3
  -- ('eq', 'Int', ('own', 'x1'), ('copy', 1, 'Int'))
  have k_p0 := blk_cell K_p0.out 0
  rw [one0] at k_p0
  have k_x0 := blk_cell K_x0.out 0
  rw [one0] at k_x0
  go_wp2_with fail
  clear k_p0 k_x0
  refine (toIntS_any A1.out HB.out.size (by omega)).mono ?_
  rintro e w13_ ⟨v_t4, he, hO, hb⟩
  subst he
  have P_x0_t4 := S_x0
  have P_x1_t4 := S_x1
  have P_g0_t4 := S_g0
  have D_t4 := Lib.hid HB.out.size
  have T_t4 := Lib.hid hO.lt
  have S_t4 : Hid (w13_.heap.size ≤ w13_.heap.size) := Lib.hid (Nat.le_refl _)
  replace hO := hO.mono HB.out.size
  replace A0 := Lib.hid (A0.out.behind (hb.mono HB.out.size))
  replace A1 := Lib.hid (A1.out.behind (hb.mono HB.out.size))
  replace O_w0 := Lib.hid (O_w0.out.next hb)
  replace S_w0 := Lib.hid (Nat.le_trans S_w0.out hb.size)
  replace O_x0 := Lib.hid (O_x0.out.next hb)
  replace S_x0 := Lib.hid (Nat.le_trans S_x0.out hb.size)
  replace O_x1 := Lib.hid (O_x1.out.next hb)
  replace S_x1 := Lib.hid (Nat.le_trans S_x1.out hb.size)
  replace O_g0 := Lib.hid (O_g0.out.next hb)
  replace S_g0 := Lib.hid (Nat.le_trans S_g0.out hb.size)
  replace K_p0 := Lib.hid ((hb.block (w.heap.size) (lt_of_block K_p0.out)).trans K_p0.out)
  replace K_x0 := Lib.hid ((hb.block (w6_.heap.size) (lt_of_block K_x0.out)).trans K_x0.out)
  replace HB := Lib.hid (HB.out.trans (hb.mono HB.out.size))
  clear hb
  have O_t4 := Lib.hid hO
  clear hO
  have k_p0 := blk_cell K_p0.out 0
  rw [one0] at k_p0
  have k_x0 := blk_cell K_x0.out 0
  rw [one0] at k_x0
  go_wp2_with fail
  clear k_p0 k_x0
  refine (eqIntS_same O_x1.out.rd O_t4.out.rd (Nat.le_refl _) (Nat.le_refl _)).mono ?_
  rintro e w14_ ⟨he, hb⟩
  subst he
  replace A0 := Lib.hid (A0.out.behind (hb.mono HB.out.size))
  replace A1 := Lib.hid (A1.out.behind (hb.mono HB.out.size))
  replace O_w0 := Lib.hid (O_w0.out.next hb)
  replace S_w0 := Lib.hid (Nat.le_trans S_w0.out hb.size)
  replace O_x0 := Lib.hid (O_x0.out.next hb)
  replace S_x0 := Lib.hid (Nat.le_trans S_x0.out hb.size)
  replace O_x1 := Lib.hid (O_x1.out.next hb)
  replace S_x1 := Lib.hid (Nat.le_trans S_x1.out hb.size)
  replace O_g0 := Lib.hid (O_g0.out.next hb)
  replace S_g0 := Lib.hid (Nat.le_trans S_g0.out hb.size)
  replace O_t4 := Lib.hid (O_t4.out.next hb)
  replace S_t4 := Lib.hid (Nat.le_trans S_t4.out hb.size)
  replace K_p0 := Lib.hid ((hb.block (w.heap.size) (lt_of_block K_p0.out)).trans K_p0.out)
  replace K_x0 := Lib.hid ((hb.block (w6_.heap.size) (lt_of_block K_x0.out)).trans K_x0.out)
  replace HB := Lib.hid (HB.out.trans (hb.mono HB.out.size))
  clear hb
  clear O_t4 S_t4 D_t4
  clear T_t4
  clear P_x0_t4
  clear P_x1_t4
  clear P_g0_t4
  -- ('set', 'k', '1')
  -- ('mark', 'k', 'Db', 'x0', 'k')
  have hF10 : fl (s0) ≤ 1099511627776 := by have := fl_tot s0; omega
  obtain ⟨K10, hK10⟩ : ∃ K : Int, K = 1 + ((fl (s0) : Nat) : Int) := ⟨_, rfl⟩
  have k_p0 := blk_cell K_p0.out 0
  rw [one0] at k_p0
  have k_x0 := blk_cell K_x0.out 0
  rw [one0] at k_x0
  go_wp2_with fail
  clear k_p0 k_x0
  refine (markDatabase_any (k0 := 1) O_x0.out (by omega) (by omega)).mono ?_
  rintro e w15_ ⟨he, hO, hG⟩
  rw [← hK10] at he
  subst he
  have hb := hG.below (B := w.heap.size) (fun b hb => Nat.le_trans D_x0.out hb.1) HB.out.size
  replace A0 := Lib.hid (A0.out.behind hb)
  replace A1 := Lib.hid (A1.out.behind hb)
  replace O_w0 := Lib.hid (O_w0.out.keptF hG (not_ival T_w0.out (.inl P_w0_x0.out)))
  replace S_w0 := Lib.hid (Nat.le_trans S_w0.out hb.size)
  replace O_x1 := Lib.hid (O_x1.out.keptF hG (not_ival T_x1.out (.inr P_x0_x1.out)))
  replace S_x1 := Lib.hid (Nat.le_trans S_x1.out hb.size)
  replace O_g0 := Lib.hid (O_g0.out.keptF hG (not_ival T_g0.out (.inr P_x0_g0.out)))
  replace S_g0 := Lib.hid (Nat.le_trans S_g0.out hb.size)
  replace K_p0 := Lib.hid ((hG.block (w.heap.size) (lt_of_block K_p0.out) (fun h => by have := Q_p0_x0.out; unfold ival at h; omega)).trans K_p0.out)
  replace K_x0 := Lib.hid ((hG.block (w6_.heap.size) (lt_of_block K_x0.out) (fun h => by have := R_x0_x0.out; unfold ival at h; omega)).trans K_x0.out)
  replace O_x0 := Lib.hid hO
  replace S_x0 := Lib.hid (Nat.le_trans S_x0.out hb.size)
  replace HB := Lib.hid (HB.out.trans hb)
  clear hb hO hG
  have lK10 : 0 ≤ K10 ∧ K10 ≤ 1099511627777 := by omega
  have dK10 : decide (K10 < 0) = false := by simp; omega
  have HK10 := Lib.hid hK10
  clear hK10 hF10
  clear O_x0 S_x0 D_x0
  clear P_w0_x0
  clear P_x0_x1
  clear P_x0_g0
  clear K_x0 R_x0
  -- ('mark', 'k', 'Int', 'x1', 'k')
  have hF11 : (s1).length ≤ 1099511627776 := by omega
  obtain ⟨K11, hK11⟩ : ∃ K : Int, K = K10 + (((s1).length : Nat) : Int) := ⟨_, rfl⟩
  have k_p0 := blk_cell K_p0.out 0
  rw [one0] at k_p0
  go_wp2_with fail
  clear k_p0
  refine (markIntS_any (k0 := K10) O_x1.out (by omega) (by omega)).mono ?_
  rintro e w16_ ⟨he, hO, hG⟩
  rw [← hK11] at he
  subst he
  have hb := O_x1.out.below (Nat.le_refl _) hG
  replace A0 := Lib.hid (A0.out.behind hb)
  replace A1 := Lib.hid (A1.out.behind hb)
  replace O_w0 := Lib.hid (O_w0.out.beside (apart_ival T_w0.out T_x1.out (.inl P_w0_x1.out)) hG)
  replace S_w0 := Lib.hid (Nat.le_trans S_w0.out hb.size)
  replace O_g0 := Lib.hid (O_g0.out.beside (apart_ival T_g0.out T_x1.out (.inr P_x1_g0.out)) hG)
  replace S_g0 := Lib.hid (Nat.le_trans S_g0.out hb.size)
  replace K_p0 := Lib.hid ((hG.block (w.heap.size) (lt_of_block K_p0.out) (fun h => by have := Q_p0_x1.out; have := T_x1.out _ h.symm; omega)).trans K_p0.out)
  replace O_x1 := Lib.hid hO
  replace S_x1 := Lib.hid (Nat.le_trans S_x1.out hb.size)
  replace HB := Lib.hid (HB.out.trans hb)
  clear hb hO hG
  have lK11 : 0 ≤ K11 ∧ K11 ≤ 2199023255553 := by omega
  have dK11 : decide (K11 < 0) = false := by simp; omega
  have HK11 := Lib.hid hK11
  clear hK11 hF11
  clear O_x1 S_x1 D_x1
  clear T_x1
  clear P_w0_x1
  clear P_x1_g0
  -- ('eq', 'Byte', ('own', 'g0'), ('own', 'w0'))
  have k_p0 := blk_cell K_p0.out 0
  rw [one0] at k_p0
  go_wp2_with fail
  clear k_p0
  refine (eqByteS_same O_g0.out.rd O_w0.out.rd (Nat.le_refl _) (Nat.le_refl _)).mono ?_
  rintro e w17_ ⟨he, hb⟩
  subst he
  replace A0 := Lib.hid (A0.out.behind (hb.mono HB.out.size))
  replace A1 := Lib.hid (A1.out.behind (hb.mono HB.out.size))
  replace O_w0 := Lib.hid (O_w0.out.next hb)
  replace S_w0 := Lib.hid (Nat.le_trans S_w0.out hb.size)
  replace O_g0 := Lib.hid (O_g0.out.next hb)
  replace S_g0 := Lib.hid (Nat.le_trans S_g0.out hb.size)
  replace K_p0 := Lib.hid ((hb.block (w.heap.size) (lt_of_block K_p0.out)).trans K_p0.out)
  replace HB := Lib.hid (HB.out.trans (hb.mono HB.out.size))
  clear hb
  -- ('set', 'm', '1')
  -- ('mark', 'm', 'Byte', 'g0', 'm')
  have hF14 : ((ans s0 s1)).length ≤ 1099511627776 := by have := ans_len s0 s1; have := fl_tot s0; omega
  obtain ⟨K14, hK14⟩ : ∃ K : Int, K = 1 + ((((ans s0 s1)).length : Nat) : Int) := ⟨_, rfl⟩
  have k_p0 := blk_cell K_p0.out 0
  rw [one0] at k_p0
  go_wp2_with fail
  clear k_p0
  refine (markByteS_any (k0 := 1) O_g0.out (by omega) (by omega)).mono ?_
  rintro e w18_ ⟨he, hO, hG⟩
  rw [← hK14] at he
  subst he
  have hb := O_g0.out.below (Nat.le_refl _) hG
  replace A0 := Lib.hid (A0.out.behind hb)
  replace A1 := Lib.hid (A1.out.behind hb)
  replace O_w0 := Lib.hid (O_w0.out.beside (apart_ival T_w0.out T_g0.out (.inl P_w0_g0.out)) hG)
  replace S_w0 := Lib.hid (Nat.le_trans S_w0.out hb.size)
  replace K_p0 := Lib.hid ((hG.block (w.heap.size) (lt_of_block K_p0.out) (fun h => by have := Q_p0_g0.out; have := T_g0.out _ h.symm; omega)).trans K_p0.out)
  replace O_g0 := Lib.hid hO
  replace S_g0 := Lib.hid (Nat.le_trans S_g0.out hb.size)
  replace HB := Lib.hid (HB.out.trans hb)
  clear hb hO hG
  have lK14 : 0 ≤ K14 ∧ K14 ≤ 1099511627777 := by omega
  have dK14 : decide (K14 < 0) = false := by simp; omega
  have HK14 := Lib.hid hK14
  clear hK14 hF14
  -- ('set', 'q', '1')
  -- ('held', 'q', 'Byte', 'g0', 'q')
  have k_p0 := blk_cell K_p0.out 0
  rw [one0] at k_p0
  go_wp2_with fail
  clear k_p0
  refine (heldByteS_any (k0 := 1) O_g0.out.rd (Nat.le_refl _) (by omega) (by have := HK14.out; omega)).mono ?_
  rintro e w19_ ⟨he, hb⟩
  rw [← HK14.out] at he
  subst he
  replace A0 := Lib.hid (A0.out.behind (hb.mono HB.out.size))
  replace A1 := Lib.hid (A1.out.behind (hb.mono HB.out.size))
  replace O_w0 := Lib.hid (O_w0.out.next hb)
  replace S_w0 := Lib.hid (Nat.le_trans S_w0.out hb.size)
  replace O_g0 := Lib.hid (O_g0.out.next hb)
  replace S_g0 := Lib.hid (Nat.le_trans S_g0.out hb.size)
  replace K_p0 := Lib.hid ((hb.block (w.heap.size) (lt_of_block K_p0.out)).trans K_p0.out)
  replace HB := Lib.hid (HB.out.trans (hb.mono HB.out.size))
  clear hb
  -- ('call', 'impl', 'AnswerQuery', [('copy', 0, 'Db'), ('copy', 1, 'Int')], ['h0'])
  have k_p0 := blk_cell K_p0.out 0
  rw [one0] at k_p0
  go_wp2_with fail
  clear k_p0
  refine (toDatabase_any A0.out HB.out.size (by omega)).mono ?_
  rintro e w20_ ⟨v_t5, he, hO, hb⟩
  subst he
  obtain ⟨L_t5, hL⟩ : ∃ L, L = (s0).length := ⟨_, rfl⟩
  obtain ⟨a_t5, c_t5, hv, _⟩ := hO.open
  rw [← hL] at hv
  clear hL
  subst hv
  have D_t5 := Lib.hid HB.out.size
  have S_t5 : Hid (w20_.heap.size ≤ w20_.heap.size) := Lib.hid (Nat.le_refl _)
  replace A0 := Lib.hid (A0.out.behind (hb.mono HB.out.size))
  replace A1 := Lib.hid (A1.out.behind (hb.mono HB.out.size))
  replace O_w0 := Lib.hid (O_w0.out.next hb)
  replace S_w0 := Lib.hid (Nat.le_trans S_w0.out hb.size)
  replace O_g0 := Lib.hid (O_g0.out.next hb)
  replace S_g0 := Lib.hid (Nat.le_trans S_g0.out hb.size)
  replace K_p0 := Lib.hid ((hb.block (w.heap.size) (lt_of_block K_p0.out)).trans K_p0.out)
  replace HB := Lib.hid (HB.out.trans (hb.mono HB.out.size))
  clear hb
  have O_t5 := Lib.hid hO
  clear hO
  have k_p0 := blk_cell K_p0.out 0
  rw [one0] at k_p0
  go_wp2_with fail
  clear k_p0
  refine (toIntS_any A1.out HB.out.size (by omega)).mono ?_
  rintro e w21_ ⟨v_t6, he, hO, hb⟩
  subst he
  have D_t6 := Lib.hid HB.out.size
  have T_t6 := Lib.hid hO.lt
  have S_t6 : Hid (w21_.heap.size ≤ w21_.heap.size) := Lib.hid (Nat.le_refl _)
  replace hO := hO.mono HB.out.size
  replace A0 := Lib.hid (A0.out.behind (hb.mono HB.out.size))
  replace A1 := Lib.hid (A1.out.behind (hb.mono HB.out.size))
  replace O_w0 := Lib.hid (O_w0.out.next hb)
  replace S_w0 := Lib.hid (Nat.le_trans S_w0.out hb.size)
  replace O_g0 := Lib.hid (O_g0.out.next hb)
  replace S_g0 := Lib.hid (Nat.le_trans S_g0.out hb.size)
  replace O_t5 := Lib.hid (O_t5.out.next hb)
  replace S_t5 := Lib.hid (Nat.le_trans S_t5.out hb.size)
  replace K_p0 := Lib.hid ((hb.block (w.heap.size) (lt_of_block K_p0.out)).trans K_p0.out)
  replace HB := Lib.hid (HB.out.trans (hb.mono HB.out.size))
  clear hb
  have O_t6 := Lib.hid hO
  clear hO
  have k_p0 := blk_cell K_p0.out 0
  rw [one0] at k_p0
  go_wp2_with fail
  clear k_p0
  refine (impl_ans O_t5.out.rd2 O_t6.out.rd (Nat.le_refl _) (Nat.le_refl _) (by omega)).mono ?_
  rintro e w22_ ⟨v_h0, he, hO, hb⟩
  subst he
  have D_h0 := Lib.hid HB.out.size
  have T_h0 := Lib.hid hO.lt
  have S_h0 : Hid (w22_.heap.size ≤ w22_.heap.size) := Lib.hid (Nat.le_refl _)
  replace hO := hO.mono HB.out.size
  replace A0 := Lib.hid (A0.out.behind (hb.mono HB.out.size))
  replace A1 := Lib.hid (A1.out.behind (hb.mono HB.out.size))
  replace O_w0 := Lib.hid (O_w0.out.next hb)
  replace S_w0 := Lib.hid (Nat.le_trans S_w0.out hb.size)
  replace O_g0 := Lib.hid (O_g0.out.next hb)
  replace S_g0 := Lib.hid (Nat.le_trans S_g0.out hb.size)
  replace O_t5 := Lib.hid (O_t5.out.next hb)
  replace S_t5 := Lib.hid (Nat.le_trans S_t5.out hb.size)
  replace O_t6 := Lib.hid (O_t6.out.next hb)
  replace S_t6 := Lib.hid (Nat.le_trans S_t6.out hb.size)
  replace K_p0 := Lib.hid ((hb.block (w.heap.size) (lt_of_block K_p0.out)).trans K_p0.out)
  replace HB := Lib.hid (HB.out.trans (hb.mono HB.out.size))
  clear hb
  have O_h0 := Lib.hid hO
  clear hO
  clear O_t5 S_t5 D_t5
  clear O_t6 S_t6 D_t6
  clear T_t6
  clear A0
  clear K_p0 R_p0
  clear A1
  -- ('eq', 'Byte', ('own', 'h0'), ('own', 'w0'))
  go_wp2_with fail
  refine (eqByteS_same O_h0.out.rd O_w0.out.rd (Nat.le_refl _) (Nat.le_refl _)).mono ?_
  rintro e w23_ ⟨he, hb⟩
  subst he
  replace O_w0 := Lib.hid (O_w0.out.next hb)
  replace S_w0 := Lib.hid (Nat.le_trans S_w0.out hb.size)
  replace O_g0 := Lib.hid (O_g0.out.next hb)
  replace S_g0 := Lib.hid (Nat.le_trans S_g0.out hb.size)
  replace O_h0 := Lib.hid (O_h0.out.next hb)
  replace S_h0 := Lib.hid (Nat.le_trans S_h0.out hb.size)
  replace HB := Lib.hid (HB.out.trans (hb.mono HB.out.size))
  clear hb
  clear O_w0 S_w0 D_w0
  clear T_w0
  clear P_w0_g0
  clear O_h0 S_h0 D_h0
  clear T_h0
  -- ('set', 'q', '1')
  -- ('held', 'q', 'Byte', 'g0', 'q')
  go_wp2_with fail
  refine (heldByteS_any (k0 := 1) O_g0.out.rd (Nat.le_refl _) (by omega) (by have := HK14.out; omega)).mono ?_
  rintro e w24_ ⟨he, hb⟩
  rw [← HK14.out] at he
  subst he
  replace O_g0 := Lib.hid (O_g0.out.next hb)
  replace S_g0 := Lib.hid (Nat.le_trans S_g0.out hb.size)
  replace HB := Lib.hid (HB.out.trans (hb.mono HB.out.size))
  clear hb
  clear O_g0 S_g0 D_g0
  clear T_g0
  go_wp2_with fail
  go_ret
  exact ⟨rfl, HB.out⟩

end Go.Proofs.Ytgkacdaimhdcoaa
