/- FnExactEqualDatabases: the walk. No conditions. -/
import Derived.Test.YtdeahjinnnhfkaaDb11
import Derived.Test.YtdeahjinnnhfkaaDeepByte
import Derived.Test.YtdeahjinnnhfkaaDbH
import Derived.Test.YtdeahjinnnhfkaaIval
import Derived.Deep.RegionHeld3
import Derived.Deep.DeepCutAuto
import Derived.Test.YtdeahjinnnhfkaaHeldL
namespace Go.Proofs.Ytdeahjinnnhfkaa
open Go Go.RowKit
set_option linter.unusedVariables false

set_option maxHeartbeats 4000000 in
set_option maxRecDepth 20000 in
theorem fnExactEqualDatabases_walk (a0 : Option Addr) (len0 cap0 : Nat) (z0 : List (List Int)) (a1 : Option Addr) (len1 cap1 : Nat) (z1 : List (List Int)) (w : World) (w0 : Rd2 w.heap.size .u8 w (.slice a0 len0 cap0) z0) (w1 : Rd2 w.heap.size .u8 w (.slice a1 len1 cap1) z1) :
    Calls Try.prog 12 #[.agg #[.slice a0 len0 cap0], .agg #[.slice a1 len1 cap1]] w fun e w' => e = .returned (.bool true) ∧ Below w.heap.size w w' := by
  obtain ⟨s0, A0, l0⟩ : ∃ s, Rd2 w.heap.size .u8 w (.slice a0 len0 cap0) s ∧ len0 = s.length := ⟨z0, w0, w0.len_eq⟩
  subst l0
  replace A0 := Lib.hid A0
  clear w0
  have m0 : s0.length ≤ 9223372036854775807 := by have := A0.out.len; unfold maxLen at this; omega
  obtain ⟨s1, A1, l1⟩ : ∃ s, Rd2 w.heap.size .u8 w (.slice a1 len1 cap1) s ∧ len1 = s.length := ⟨z1, w1, w1.len_eq⟩
  subst l1
  replace A1 := Lib.hid A1
  clear w1
  have m1 : s1.length ≤ 9223372036854775807 := by have := A1.out.len; unfold maxLen at this; omega
  by_cases b0z : (tot s0 : Int) ≤ (1048576 : Int)
  case neg =>
    have c0 := Lib.hid b0z
    go_enter Try.func12, Try.ntmps12
    have HB := Lib.hid (Below.refl w.heap.size w)
    have hb := (((Below.refl w.heap.size w).alloc (Nat.le_refl _) (.cells #[.slice a0 s0.length cap0] 47)).alloc (by simp) (.cells #[.slice a1 s1.length cap1] 47))
    have K_p0 := Lib.hid (blocks2 w (.cells #[.slice a0 s0.length cap0] 47) (.cells #[.slice a1 s1.length cap1] 47)).1
    have K_p1 := Lib.hid (blocks2 w (.cells #[.slice a0 s0.length cap0] 47) (.cells #[.slice a1 s1.length cap1] 47)).2
    have R_p0 := Lib.hid (lt_of_block K_p0.out)
    have R_p1 := Lib.hid (lt_of_block K_p1.out)
    replace A0 := Lib.hid (A0.out.behind hb)
    replace A1 := Lib.hid (A1.out.behind hb)
    replace HB := Lib.hid hb
    clear hb
    have k_p0 := blk_cell K_p0.out 0
    rw [one0] at k_p0
    have k_p1 := blk_cell K_p1.out 0
    rw [one0] at k_p1
    go_wp2_with fail
    clear k_p0 k_p1
    obtain ⟨w1_, hw⟩ : ∃ x, x = ((w.alloc (.cells #[.slice a0 s0.length cap0] 47)).alloc (.cells #[.slice a1 s1.length cap1] 47)) := ⟨_, rfl⟩
    rw [← hw] at HB A0 A1 K_p0 K_p1 R_p0 R_p1 ⊢
    clear hw
    refine (szDatabase_any A0.out (by omega) (by omega) HB.out.size).mono ?_
    rintro e w2_ ⟨he, hb⟩
    rw [if_neg (by have := c0.out; omega)] at he
    subst he
    replace A0 := Lib.hid (A0.out.behind (hb.mono HB.out.size))
    replace A1 := Lib.hid (A1.out.behind (hb.mono HB.out.size))
    replace K_p0 := Lib.hid ((hb.block (w.heap.size) (lt_of_block K_p0.out)).trans K_p0.out)
    replace K_p1 := Lib.hid ((hb.block (w.heap.size + 1) (lt_of_block K_p1.out)).trans K_p1.out)
    replace HB := Lib.hid (HB.out.trans (hb.mono HB.out.size))
    clear hb
    have k_p0 := blk_cell K_p0.out 0
    rw [one0] at k_p0
    have k_p1 := blk_cell K_p1.out 0
    rw [one0] at k_p1
    go_wp2_with fail
    clear k_p0 k_p1
    go_ret
    exact ⟨rfl, HB.out⟩
  have c0 := Lib.hid b0z
  obtain ⟨q0, hq0⟩ : ∃ q : Int, q = (1048576 : Int) - (tot s0 : Int) := ⟨_, rfl⟩
  have d0q : decide (q0 < 0) = false := by simp; omega
  have e0q : 0 ≤ q0 ∧ q0 ≤ 1048576 := by omega
  have b0t : tot s0 ≤ 1048576 := by omega
  have H0q := Lib.hid hq0
  clear hq0 b0z
  by_cases b1z : (tot s1 : Int) ≤ q0
  case neg =>
    have c1 := Lib.hid b1z
    go_enter Try.func12, Try.ntmps12
    have HB := Lib.hid (Below.refl w.heap.size w)
    have hb := (((Below.refl w.heap.size w).alloc (Nat.le_refl _) (.cells #[.slice a0 s0.length cap0] 47)).alloc (by simp) (.cells #[.slice a1 s1.length cap1] 47))
    have K_p0 := Lib.hid (blocks2 w (.cells #[.slice a0 s0.length cap0] 47) (.cells #[.slice a1 s1.length cap1] 47)).1
    have K_p1 := Lib.hid (blocks2 w (.cells #[.slice a0 s0.length cap0] 47) (.cells #[.slice a1 s1.length cap1] 47)).2
    have R_p0 := Lib.hid (lt_of_block K_p0.out)
    have R_p1 := Lib.hid (lt_of_block K_p1.out)
    replace A0 := Lib.hid (A0.out.behind hb)
    replace A1 := Lib.hid (A1.out.behind hb)
    replace HB := Lib.hid hb
    clear hb
    have k_p0 := blk_cell K_p0.out 0
    rw [one0] at k_p0
    have k_p1 := blk_cell K_p1.out 0
    rw [one0] at k_p1
    go_wp2_with fail
    clear k_p0 k_p1
    obtain ⟨w1_, hw⟩ : ∃ x, x = ((w.alloc (.cells #[.slice a0 s0.length cap0] 47)).alloc (.cells #[.slice a1 s1.length cap1] 47)) := ⟨_, rfl⟩
    rw [← hw] at HB A0 A1 K_p0 K_p1 R_p0 R_p1 ⊢
    clear hw
    refine (szDatabase_any A0.out (by omega) (by omega) HB.out.size).mono ?_
    rintro e w2_ ⟨he, hb⟩
    rw [if_pos (by have := c0.out; omega), ← H0q.out] at he
    subst he
    replace A0 := Lib.hid (A0.out.behind (hb.mono HB.out.size))
    replace A1 := Lib.hid (A1.out.behind (hb.mono HB.out.size))
    replace K_p0 := Lib.hid ((hb.block (w.heap.size) (lt_of_block K_p0.out)).trans K_p0.out)
    replace K_p1 := Lib.hid ((hb.block (w.heap.size + 1) (lt_of_block K_p1.out)).trans K_p1.out)
    replace HB := Lib.hid (HB.out.trans (hb.mono HB.out.size))
    clear hb
    have k_p0 := blk_cell K_p0.out 0
    rw [one0] at k_p0
    have k_p1 := blk_cell K_p1.out 0
    rw [one0] at k_p1
    go_wp2_with fail
    clear k_p0 k_p1
    refine (szDatabase_any A1.out (by omega) (by omega) HB.out.size).mono ?_
    rintro e w3_ ⟨he, hb⟩
    rw [if_neg (by have := c1.out; omega)] at he
    subst he
    replace A0 := Lib.hid (A0.out.behind (hb.mono HB.out.size))
    replace A1 := Lib.hid (A1.out.behind (hb.mono HB.out.size))
    replace K_p0 := Lib.hid ((hb.block (w.heap.size) (lt_of_block K_p0.out)).trans K_p0.out)
    replace K_p1 := Lib.hid ((hb.block (w.heap.size + 1) (lt_of_block K_p1.out)).trans K_p1.out)
    replace HB := Lib.hid (HB.out.trans (hb.mono HB.out.size))
    clear hb
    have k_p0 := blk_cell K_p0.out 0
    rw [one0] at k_p0
    have k_p1 := blk_cell K_p1.out 0
    rw [one0] at k_p1
    go_wp2_with fail
    clear k_p0 k_p1
    go_ret
    exact ⟨rfl, HB.out⟩
  have c1 := Lib.hid b1z
  obtain ⟨q1, hq1⟩ : ∃ q : Int, q = q0 - (tot s1 : Int) := ⟨_, rfl⟩
  have d1q : decide (q1 < 0) = false := by simp; omega
  have e1q : 0 ≤ q1 ∧ q1 ≤ 1048576 := by omega
  have b1t : tot s1 ≤ 1048576 := by omega
  have H1q := Lib.hid hq1
  clear hq1 b1z
  go_enter Try.func12, Try.ntmps12
  have HB := Lib.hid (Below.refl w.heap.size w)
  have hb := (((Below.refl w.heap.size w).alloc (Nat.le_refl _) (.cells #[.slice a0 s0.length cap0] 47)).alloc (by simp) (.cells #[.slice a1 s1.length cap1] 47))
  have K_p0 := Lib.hid (blocks2 w (.cells #[.slice a0 s0.length cap0] 47) (.cells #[.slice a1 s1.length cap1] 47)).1
  have K_p1 := Lib.hid (blocks2 w (.cells #[.slice a0 s0.length cap0] 47) (.cells #[.slice a1 s1.length cap1] 47)).2
  have R_p0 := Lib.hid (lt_of_block K_p0.out)
  have R_p1 := Lib.hid (lt_of_block K_p1.out)
  replace A0 := Lib.hid (A0.out.behind hb)
  replace A1 := Lib.hid (A1.out.behind hb)
  replace HB := Lib.hid hb
  clear hb
  have k_p0 := blk_cell K_p0.out 0
  rw [one0] at k_p0
  have k_p1 := blk_cell K_p1.out 0
  rw [one0] at k_p1
  go_wp2_with fail
  clear k_p0 k_p1
  obtain ⟨w1_, hw⟩ : ∃ x, x = ((w.alloc (.cells #[.slice a0 s0.length cap0] 47)).alloc (.cells #[.slice a1 s1.length cap1] 47)) := ⟨_, rfl⟩
  rw [← hw] at HB A0 A1 K_p0 K_p1 R_p0 R_p1 ⊢
  clear hw
  refine (szDatabase_any A0.out (by omega) (by omega) HB.out.size).mono ?_
  rintro e w2_ ⟨he, hb⟩
  rw [if_pos (by have := c0.out; omega), ← H0q.out] at he
  subst he
  replace A0 := Lib.hid (A0.out.behind (hb.mono HB.out.size))
  replace A1 := Lib.hid (A1.out.behind (hb.mono HB.out.size))
  replace K_p0 := Lib.hid ((hb.block (w.heap.size) (lt_of_block K_p0.out)).trans K_p0.out)
  replace K_p1 := Lib.hid ((hb.block (w.heap.size + 1) (lt_of_block K_p1.out)).trans K_p1.out)
  replace HB := Lib.hid (HB.out.trans (hb.mono HB.out.size))
  clear hb
  have k_p0 := blk_cell K_p0.out 0
  rw [one0] at k_p0
  have k_p1 := blk_cell K_p1.out 0
  rw [one0] at k_p1
  go_wp2_with fail
  clear k_p0 k_p1
  refine (szDatabase_any A1.out (by omega) (by omega) HB.out.size).mono ?_
  rintro e w3_ ⟨he, hb⟩
  rw [if_pos (by have := c1.out; omega), ← H1q.out] at he
  subst he
  replace A0 := Lib.hid (A0.out.behind (hb.mono HB.out.size))
  replace A1 := Lib.hid (A1.out.behind (hb.mono HB.out.size))
  replace K_p0 := Lib.hid ((hb.block (w.heap.size) (lt_of_block K_p0.out)).trans K_p0.out)
  replace K_p1 := Lib.hid ((hb.block (w.heap.size + 1) (lt_of_block K_p1.out)).trans K_p1.out)
  replace HB := Lib.hid (HB.out.trans (hb.mono HB.out.size))
  clear hb
  -- ('sz', 0, 'Db')
  -- ('sz', 1, 'Db')
  -- ('call', 'spec', 'EqualDatabases', [('copy', 0, 'Db'), ('copy', 1, 'Db')], ['w0'])
  have k_p0 := blk_cell K_p0.out 0
  rw [one0] at k_p0
  have k_p1 := blk_cell K_p1.out 0
  rw [one0] at k_p1
  go_wp2_with fail
  clear k_p0 k_p1
  have hb : Below w3_.heap.size w3_ w3_.drew := (Below.refl _ _).drew
  replace A0 := Lib.hid (A0.out.behind (hb.mono HB.out.size))
  replace A1 := Lib.hid (A1.out.behind (hb.mono HB.out.size))
  replace K_p0 := Lib.hid ((hb.block (w.heap.size) (lt_of_block K_p0.out)).trans K_p0.out)
  replace K_p1 := Lib.hid ((hb.block (w.heap.size + 1) (lt_of_block K_p1.out)).trans K_p1.out)
  replace HB := Lib.hid (HB.out.trans (hb.mono HB.out.size))
  clear hb
  have d0 : w3_.drew.cell? ⟨w.heap.size, 0, none⟩ = some (.slice a0 s0.length cap0) ∧ w3_.drew.cell? ⟨w.heap.size + 1, 0, none⟩ = some (.slice a1 s1.length cap1) := ⟨(blk_cell K_p0.out 0).trans (one0 _), (blk_cell K_p1.out 0).trans (one0 _)⟩
  go_region_held3 (fun w' => w'.cell? ⟨w.heap.size, 0, none⟩ = some (.slice a0 s0.length cap0) ∧ w'.cell? ⟨w.heap.size + 1, 0, none⟩ = some (.slice a1 s1.length cap1)) (first | assumption | go_keep) ((first
    | (go_at_call 34
       (refine (toDatabase_any A0.out HB.out.size (by omega)).mono ?_
        rintro e w4_ ⟨v_t1, he, hO, hb⟩
        subst he
        obtain ⟨L_t1, hL⟩ : ∃ L, L = (s0).length := ⟨_, rfl⟩
        obtain ⟨a_t1, c_t1, hv, _⟩ := hO.open
        rw [← hL] at hv
        clear hL
        subst hv
        have D_t1 := Lib.hid HB.out.size
        have S_t1 : Hid (w4_.heap.size ≤ w4_.heap.size) := Lib.hid (Nat.le_refl _)
        replace A0 := Lib.hid (A0.out.behind (hb.mono HB.out.size))
        replace A1 := Lib.hid (A1.out.behind (hb.mono HB.out.size))
        replace K_p0 := Lib.hid ((hb.block (w.heap.size) (lt_of_block K_p0.out)).trans K_p0.out)
        replace K_p1 := Lib.hid ((hb.block (w.heap.size + 1) (lt_of_block K_p1.out)).trans K_p1.out)
        replace HB := Lib.hid (HB.out.trans (hb.mono HB.out.size))
        clear hb
        have O_t1 := Lib.hid hO
        clear hO
        have d1 : w4_.cell? ⟨w.heap.size, 0, none⟩ = some (.slice a0 s0.length cap0) ∧ w4_.cell? ⟨w.heap.size + 1, 0, none⟩ = some (.slice a1 s1.length cap1) := ⟨(blk_cell K_p0.out 0).trans (one0 _), (blk_cell K_p1.out 0).trans (one0 _)⟩))
    | (go_at_call 34
       go_loud (refine (toDatabase_any A1.out HB.out.size (by omega)).mono ?_
                rintro e w5_ ⟨v_t2, he, hO, hb⟩
                subst he
                obtain ⟨L_t2, hL⟩ : ∃ L, L = (s1).length := ⟨_, rfl⟩
                obtain ⟨a_t2, c_t2, hv, _⟩ := hO.open
                rw [← hL] at hv
                clear hL
                subst hv
                have D_t2 := Lib.hid HB.out.size
                have S_t2 : Hid (w5_.heap.size ≤ w5_.heap.size) := Lib.hid (Nat.le_refl _)
                replace A0 := Lib.hid (A0.out.behind (hb.mono HB.out.size))
                replace A1 := Lib.hid (A1.out.behind (hb.mono HB.out.size))
                replace O_t1 := Lib.hid (O_t1.out.next hb)
                replace S_t1 := Lib.hid (Nat.le_trans S_t1.out hb.size)
                replace K_p0 := Lib.hid ((hb.block (w.heap.size) (lt_of_block K_p0.out)).trans K_p0.out)
                replace K_p1 := Lib.hid ((hb.block (w.heap.size + 1) (lt_of_block K_p1.out)).trans K_p1.out)
                replace HB := Lib.hid (HB.out.trans (hb.mono HB.out.size))
                clear hb
                have O_t2 := Lib.hid hO
                clear hO
                have d2 : w5_.cell? ⟨w.heap.size, 0, none⟩ = some (.slice a0 s0.length cap0) ∧ w5_.cell? ⟨w.heap.size + 1, 0, none⟩ = some (.slice a1 s1.length cap1) := ⟨(blk_cell K_p0.out 0).trans (one0 _), (blk_cell K_p1.out 0).trans (one0 _)⟩))
    | (go_at_call 45
       go_loud (refine (spec_ed O_t1.out.rd2 O_t2.out.rd2 (Nat.le_refl _) (Nat.le_refl _) (by omega)).mono ?_
                rintro e w6_ ⟨he, hb⟩
                obtain ⟨q_w0, hq⟩ : ∃ q, q = decide (s0 = s1) := ⟨_, rfl⟩
                rw [← hq] at he
                have Q_w0 := Lib.hid hq
                clear hq
                subst he
                replace A0 := Lib.hid (A0.out.behind (hb.mono HB.out.size))
                replace A1 := Lib.hid (A1.out.behind (hb.mono HB.out.size))
                replace O_t1 := Lib.hid (O_t1.out.next hb)
                replace S_t1 := Lib.hid (Nat.le_trans S_t1.out hb.size)
                replace O_t2 := Lib.hid (O_t2.out.next hb)
                replace S_t2 := Lib.hid (Nat.le_trans S_t2.out hb.size)
                replace K_p0 := Lib.hid ((hb.block (w.heap.size) (lt_of_block K_p0.out)).trans K_p0.out)
                replace K_p1 := Lib.hid ((hb.block (w.heap.size + 1) (lt_of_block K_p1.out)).trans K_p1.out)
                replace HB := Lib.hid (HB.out.trans (hb.mono HB.out.size))
                clear hb
                have d3 : w6_.cell? ⟨w.heap.size, 0, none⟩ = some (.slice a0 s0.length cap0) ∧ w6_.cell? ⟨w.heap.size + 1, 0, none⟩ = some (.slice a1 s1.length cap1) := ⟨(blk_cell K_p0.out 0).trans (one0 _), (blk_cell K_p1.out 0).trans (one0 _)⟩))))
  clear d0 d1 d2 d3
  clear O_t1 S_t1 D_t1
  clear O_t2 S_t2 D_t2
  -- ('copy', 'x0', 0, 'Db')
  have k_p0 := blk_cell K_p0.out 0
  rw [one0] at k_p0
  have k_p1 := blk_cell K_p1.out 0
  rw [one0] at k_p1
  go_wp2_with fail
  clear k_p0 k_p1
  refine (toDatabase_any A0.out HB.out.size (by omega)).mono ?_
  rintro e w7_ ⟨v_x0, he, hO, hb⟩
  subst he
  obtain ⟨L_x0, hL⟩ : ∃ L, L = (s0).length := ⟨_, rfl⟩
  obtain ⟨a_x0, c_x0, hv, _⟩ := hO.open
  rw [← hL] at hv
  clear hL
  subst hv
  have D_x0 := Lib.hid HB.out.size
  have S_x0 : Hid (w7_.heap.size ≤ w7_.heap.size) := Lib.hid (Nat.le_refl _)
  replace A0 := Lib.hid (A0.out.behind (hb.mono HB.out.size))
  replace A1 := Lib.hid (A1.out.behind (hb.mono HB.out.size))
  replace K_p0 := Lib.hid ((hb.block (w.heap.size) (lt_of_block K_p0.out)).trans K_p0.out)
  replace K_p1 := Lib.hid ((hb.block (w.heap.size + 1) (lt_of_block K_p1.out)).trans K_p1.out)
  replace HB := Lib.hid (HB.out.trans (hb.mono HB.out.size))
  clear hb
  have O_x0 := Lib.hid hO
  clear hO
  have hb : Below w7_.heap.size w7_ (w7_.alloc (.cells #[.slice a_x0 L_x0 c_x0] 30)) := (Below.refl _ _).alloc (Nat.le_refl _) _
  replace A0 := Lib.hid (A0.out.behind (hb.mono HB.out.size))
  replace A1 := Lib.hid (A1.out.behind (hb.mono HB.out.size))
  replace O_x0 := Lib.hid (O_x0.out.next hb)
  replace S_x0 := Lib.hid (Nat.le_trans S_x0.out hb.size)
  replace K_p0 := Lib.hid ((hb.block (w.heap.size) (lt_of_block K_p0.out)).trans K_p0.out)
  replace K_p1 := Lib.hid ((hb.block (w.heap.size + 1) (lt_of_block K_p1.out)).trans K_p1.out)
  replace HB := Lib.hid (HB.out.trans (hb.mono HB.out.size))
  clear hb
  have K_x0 := Lib.hid (heap_alloc_new w7_ (.cells #[.slice a_x0 L_x0 c_x0] 30))
  have R_x0 := Lib.hid (lt_of_block K_x0.out)
  have k_p0 := blk_cell K_p0.out 0
  rw [one0] at k_p0
  have k_p1 := blk_cell K_p1.out 0
  rw [one0] at k_p1
  have k_x0 := blk_cell K_x0.out 0
  rw [one0] at k_x0
  go_wp2_with fail
  clear k_p0 k_p1 k_x0
  obtain ⟨w8_, hw⟩ : ∃ x, x = w7_.alloc (.cells #[.slice a_x0 L_x0 c_x0] 30) := ⟨_, rfl⟩
  rw [← hw] at HB A0 A1 O_x0 S_x0 K_p0 K_p1 K_x0 R_x0 ⊢
  clear hw
  -- ('copy', 'x1', 1, 'Db')
  refine (toDatabase_any A1.out HB.out.size (by omega)).mono ?_
  rintro e w9_ ⟨v_x1, he, hO, hb⟩
  subst he
  obtain ⟨L_x1, hL⟩ : ∃ L, L = (s1).length := ⟨_, rfl⟩
  obtain ⟨a_x1, c_x1, hv, _⟩ := hO.open
  rw [← hL] at hv
  clear hL
  subst hv
  have D_x1 := Lib.hid HB.out.size
  have S_x1 : Hid (w9_.heap.size ≤ w9_.heap.size) := Lib.hid (Nat.le_refl _)
  replace A0 := Lib.hid (A0.out.behind (hb.mono HB.out.size))
  replace A1 := Lib.hid (A1.out.behind (hb.mono HB.out.size))
  replace O_x0 := Lib.hid (O_x0.out.next hb)
  replace S_x0 := Lib.hid (Nat.le_trans S_x0.out hb.size)
  replace K_p0 := Lib.hid ((hb.block (w.heap.size) (lt_of_block K_p0.out)).trans K_p0.out)
  replace K_p1 := Lib.hid ((hb.block (w.heap.size + 1) (lt_of_block K_p1.out)).trans K_p1.out)
  replace K_x0 := Lib.hid ((hb.block (w7_.heap.size) (lt_of_block K_x0.out)).trans K_x0.out)
  replace HB := Lib.hid (HB.out.trans (hb.mono HB.out.size))
  clear hb
  have O_x1 := Lib.hid hO
  clear hO
  have hb : Below w9_.heap.size w9_ (w9_.alloc (.cells #[.slice a_x1 L_x1 c_x1] 30)) := (Below.refl _ _).alloc (Nat.le_refl _) _
  replace A0 := Lib.hid (A0.out.behind (hb.mono HB.out.size))
  replace A1 := Lib.hid (A1.out.behind (hb.mono HB.out.size))
  replace O_x0 := Lib.hid (O_x0.out.next hb)
  replace S_x0 := Lib.hid (Nat.le_trans S_x0.out hb.size)
  replace O_x1 := Lib.hid (O_x1.out.next hb)
  replace S_x1 := Lib.hid (Nat.le_trans S_x1.out hb.size)
  replace K_p0 := Lib.hid ((hb.block (w.heap.size) (lt_of_block K_p0.out)).trans K_p0.out)
  replace K_p1 := Lib.hid ((hb.block (w.heap.size + 1) (lt_of_block K_p1.out)).trans K_p1.out)
  replace K_x0 := Lib.hid ((hb.block (w7_.heap.size) (lt_of_block K_x0.out)).trans K_x0.out)
  replace HB := Lib.hid (HB.out.trans (hb.mono HB.out.size))
  clear hb
  have K_x1 := Lib.hid (heap_alloc_new w9_ (.cells #[.slice a_x1 L_x1 c_x1] 30))
  have R_x1 := Lib.hid (lt_of_block K_x1.out)
  have k_p0 := blk_cell K_p0.out 0
  rw [one0] at k_p0
  have k_p1 := blk_cell K_p1.out 0
  rw [one0] at k_p1
  have k_x0 := blk_cell K_x0.out 0
  rw [one0] at k_x0
  have k_x1 := blk_cell K_x1.out 0
  rw [one0] at k_x1
  go_wp2_with fail
  clear k_p0 k_p1 k_x0 k_x1
  obtain ⟨w10_, hw⟩ : ∃ x, x = w9_.alloc (.cells #[.slice a_x1 L_x1 c_x1] 30) := ⟨_, rfl⟩
  rw [← hw] at HB A0 A1 O_x0 S_x0 O_x1 S_x1 K_p0 K_p1 K_x0 K_x1 R_x1 ⊢
  clear hw
  -- ('call', 'impl', 'EqualDatabases', [('own', 'x0'), ('own', 'x1')], ['g0'])
  refine (impl_ed O_x0.out.rd2 O_x1.out.rd2 (Nat.le_refl _) (Nat.le_refl _) (by omega)).mono ?_
  rintro e w11_ ⟨he, hb⟩
  rw [← Q_w0.out] at he
  subst he
  replace A0 := Lib.hid (A0.out.behind (hb.mono HB.out.size))
  replace A1 := Lib.hid (A1.out.behind (hb.mono HB.out.size))
  replace O_x0 := Lib.hid (O_x0.out.next hb)
  replace S_x0 := Lib.hid (Nat.le_trans S_x0.out hb.size)
  replace O_x1 := Lib.hid (O_x1.out.next hb)
  replace S_x1 := Lib.hid (Nat.le_trans S_x1.out hb.size)
  replace K_p0 := Lib.hid ((hb.block (w.heap.size) (lt_of_block K_p0.out)).trans K_p0.out)
  replace K_p1 := Lib.hid ((hb.block (w.heap.size + 1) (lt_of_block K_p1.out)).trans K_p1.out)
  replace K_x0 := Lib.hid ((hb.block (w7_.heap.size) (lt_of_block K_x0.out)).trans K_x0.out)
  replace K_x1 := Lib.hid ((hb.block (w9_.heap.size) (lt_of_block K_x1.out)).trans K_x1.out)
  replace HB := Lib.hid (HB.out.trans (hb.mono HB.out.size))
  clear hb
  -- ('eq', 'Db', ('own', 'x0'), ('copy', 0, 'Db'))
  have k_p0 := blk_cell K_p0.out 0
  rw [one0] at k_p0
  have k_p1 := blk_cell K_p1.out 0
  rw [one0] at k_p1
  have k_x0 := blk_cell K_x0.out 0
  rw [one0] at k_x0
  have k_x1 := blk_cell K_x1.out 0
  rw [one0] at k_x1
  go_wp2_with fail
  clear k_p0 k_p1 k_x0 k_x1
  have hb : Below w11_.heap.size w11_ w11_.drew := (Below.refl _ _).drew
  replace A0 := Lib.hid (A0.out.behind (hb.mono HB.out.size))
  replace A1 := Lib.hid (A1.out.behind (hb.mono HB.out.size))
  replace O_x0 := Lib.hid (O_x0.out.next hb)
  replace S_x0 := Lib.hid (Nat.le_trans S_x0.out hb.size)
  replace O_x1 := Lib.hid (O_x1.out.next hb)
  replace S_x1 := Lib.hid (Nat.le_trans S_x1.out hb.size)
  replace K_p0 := Lib.hid ((hb.block (w.heap.size) (lt_of_block K_p0.out)).trans K_p0.out)
  replace K_p1 := Lib.hid ((hb.block (w.heap.size + 1) (lt_of_block K_p1.out)).trans K_p1.out)
  replace K_x0 := Lib.hid ((hb.block (w7_.heap.size) (lt_of_block K_x0.out)).trans K_x0.out)
  replace K_x1 := Lib.hid ((hb.block (w9_.heap.size) (lt_of_block K_x1.out)).trans K_x1.out)
  replace HB := Lib.hid (HB.out.trans (hb.mono HB.out.size))
  clear hb
  have d0 : w11_.drew.cell? ⟨w7_.heap.size, 0, none⟩ = some (.slice a_x0 L_x0 c_x0) ∧ w11_.drew.cell? ⟨w.heap.size, 0, none⟩ = some (.slice a0 s0.length cap0) := ⟨(blk_cell K_x0.out 0).trans (one0 _), (blk_cell K_p0.out 0).trans (one0 _)⟩
  go_region_held3 (fun w' => w'.cell? ⟨w7_.heap.size, 0, none⟩ = some (.slice a_x0 L_x0 c_x0) ∧ w'.cell? ⟨w.heap.size, 0, none⟩ = some (.slice a0 s0.length cap0)) (first | assumption | go_keep) ((first
    | (go_at_call 34
       go_loud (refine (toDatabase_any A0.out HB.out.size (by omega)).mono ?_
                rintro e w12_ ⟨v_t3, he, hO, hb⟩
                subst he
                obtain ⟨L_t3, hL⟩ : ∃ L, L = (s0).length := ⟨_, rfl⟩
                obtain ⟨a_t3, c_t3, hv, _⟩ := hO.open
                rw [← hL] at hv
                clear hL
                subst hv
                have D_t3 := Lib.hid HB.out.size
                have S_t3 : Hid (w12_.heap.size ≤ w12_.heap.size) := Lib.hid (Nat.le_refl _)
                replace A0 := Lib.hid (A0.out.behind (hb.mono HB.out.size))
                replace A1 := Lib.hid (A1.out.behind (hb.mono HB.out.size))
                replace O_x0 := Lib.hid (O_x0.out.next hb)
                replace S_x0 := Lib.hid (Nat.le_trans S_x0.out hb.size)
                replace O_x1 := Lib.hid (O_x1.out.next hb)
                replace S_x1 := Lib.hid (Nat.le_trans S_x1.out hb.size)
                replace K_p0 := Lib.hid ((hb.block (w.heap.size) (lt_of_block K_p0.out)).trans K_p0.out)
                replace K_p1 := Lib.hid ((hb.block (w.heap.size + 1) (lt_of_block K_p1.out)).trans K_p1.out)
                replace K_x0 := Lib.hid ((hb.block (w7_.heap.size) (lt_of_block K_x0.out)).trans K_x0.out)
                replace K_x1 := Lib.hid ((hb.block (w9_.heap.size) (lt_of_block K_x1.out)).trans K_x1.out)
                replace HB := Lib.hid (HB.out.trans (hb.mono HB.out.size))
                clear hb
                have O_t3 := Lib.hid hO
                clear hO
                have d1 : w12_.cell? ⟨w7_.heap.size, 0, none⟩ = some (.slice a_x0 L_x0 c_x0) ∧ w12_.cell? ⟨w.heap.size, 0, none⟩ = some (.slice a0 s0.length cap0) := ⟨(blk_cell K_x0.out 0).trans (one0 _), (blk_cell K_p0.out 0).trans (one0 _)⟩))
    | (go_at_call 30
       go_loud (refine (eqDatabase_same O_x0.out.rd2 O_t3.out.rd2 (Nat.le_refl _) (Nat.le_refl _)).mono ?_
                rintro e w13_ ⟨he, hb⟩
                subst he
                replace A0 := Lib.hid (A0.out.behind (hb.mono HB.out.size))
                replace A1 := Lib.hid (A1.out.behind (hb.mono HB.out.size))
                replace O_x0 := Lib.hid (O_x0.out.next hb)
                replace S_x0 := Lib.hid (Nat.le_trans S_x0.out hb.size)
                replace O_x1 := Lib.hid (O_x1.out.next hb)
                replace S_x1 := Lib.hid (Nat.le_trans S_x1.out hb.size)
                replace O_t3 := Lib.hid (O_t3.out.next hb)
                replace S_t3 := Lib.hid (Nat.le_trans S_t3.out hb.size)
                replace K_p0 := Lib.hid ((hb.block (w.heap.size) (lt_of_block K_p0.out)).trans K_p0.out)
                replace K_p1 := Lib.hid ((hb.block (w.heap.size + 1) (lt_of_block K_p1.out)).trans K_p1.out)
                replace K_x0 := Lib.hid ((hb.block (w7_.heap.size) (lt_of_block K_x0.out)).trans K_x0.out)
                replace K_x1 := Lib.hid ((hb.block (w9_.heap.size) (lt_of_block K_x1.out)).trans K_x1.out)
                replace HB := Lib.hid (HB.out.trans (hb.mono HB.out.size))
                clear hb
                have d2 : w13_.cell? ⟨w7_.heap.size, 0, none⟩ = some (.slice a_x0 L_x0 c_x0) ∧ w13_.cell? ⟨w.heap.size, 0, none⟩ = some (.slice a0 s0.length cap0) := ⟨(blk_cell K_x0.out 0).trans (one0 _), (blk_cell K_p0.out 0).trans (one0 _)⟩))))
  clear d0 d1 d2
  clear O_x0 S_x0 D_x0
  clear K_x0 R_x0
  clear O_t3 S_t3 D_t3
  clear A0
  clear K_p0 R_p0
  -- ('eq', 'Db', ('own', 'x1'), ('copy', 1, 'Db'))
  have k_p1 := blk_cell K_p1.out 0
  rw [one0] at k_p1
  have k_x1 := blk_cell K_x1.out 0
  rw [one0] at k_x1
  go_wp2_with fail
  clear k_p1 k_x1
  have hb : Below w13_.heap.size w13_ w13_.drew := (Below.refl _ _).drew
  replace A1 := Lib.hid (A1.out.behind (hb.mono HB.out.size))
  replace O_x1 := Lib.hid (O_x1.out.next hb)
  replace S_x1 := Lib.hid (Nat.le_trans S_x1.out hb.size)
  replace K_p1 := Lib.hid ((hb.block (w.heap.size + 1) (lt_of_block K_p1.out)).trans K_p1.out)
  replace K_x1 := Lib.hid ((hb.block (w9_.heap.size) (lt_of_block K_x1.out)).trans K_x1.out)
  replace HB := Lib.hid (HB.out.trans (hb.mono HB.out.size))
  clear hb
  have d0 : w13_.drew.cell? ⟨w9_.heap.size, 0, none⟩ = some (.slice a_x1 L_x1 c_x1) ∧ w13_.drew.cell? ⟨w.heap.size + 1, 0, none⟩ = some (.slice a1 s1.length cap1) := ⟨(blk_cell K_x1.out 0).trans (one0 _), (blk_cell K_p1.out 0).trans (one0 _)⟩
  go_region_held3 (fun w' => w'.cell? ⟨w9_.heap.size, 0, none⟩ = some (.slice a_x1 L_x1 c_x1) ∧ w'.cell? ⟨w.heap.size + 1, 0, none⟩ = some (.slice a1 s1.length cap1)) (first | assumption | go_keep) ((first
    | (go_at_call 34
       go_loud (refine (toDatabase_any A1.out HB.out.size (by omega)).mono ?_
                rintro e w14_ ⟨v_t4, he, hO, hb⟩
                subst he
                obtain ⟨L_t4, hL⟩ : ∃ L, L = (s1).length := ⟨_, rfl⟩
                obtain ⟨a_t4, c_t4, hv, _⟩ := hO.open
                rw [← hL] at hv
                clear hL
                subst hv
                have D_t4 := Lib.hid HB.out.size
                have S_t4 : Hid (w14_.heap.size ≤ w14_.heap.size) := Lib.hid (Nat.le_refl _)
                replace A1 := Lib.hid (A1.out.behind (hb.mono HB.out.size))
                replace O_x1 := Lib.hid (O_x1.out.next hb)
                replace S_x1 := Lib.hid (Nat.le_trans S_x1.out hb.size)
                replace K_p1 := Lib.hid ((hb.block (w.heap.size + 1) (lt_of_block K_p1.out)).trans K_p1.out)
                replace K_x1 := Lib.hid ((hb.block (w9_.heap.size) (lt_of_block K_x1.out)).trans K_x1.out)
                replace HB := Lib.hid (HB.out.trans (hb.mono HB.out.size))
                clear hb
                have O_t4 := Lib.hid hO
                clear hO
                have d1 : w14_.cell? ⟨w9_.heap.size, 0, none⟩ = some (.slice a_x1 L_x1 c_x1) ∧ w14_.cell? ⟨w.heap.size + 1, 0, none⟩ = some (.slice a1 s1.length cap1) := ⟨(blk_cell K_x1.out 0).trans (one0 _), (blk_cell K_p1.out 0).trans (one0 _)⟩))
    | (go_at_call 30
       go_loud (refine (eqDatabase_same O_x1.out.rd2 O_t4.out.rd2 (Nat.le_refl _) (Nat.le_refl _)).mono ?_
                rintro e w15_ ⟨he, hb⟩
                subst he
                replace A1 := Lib.hid (A1.out.behind (hb.mono HB.out.size))
                replace O_x1 := Lib.hid (O_x1.out.next hb)
                replace S_x1 := Lib.hid (Nat.le_trans S_x1.out hb.size)
                replace O_t4 := Lib.hid (O_t4.out.next hb)
                replace S_t4 := Lib.hid (Nat.le_trans S_t4.out hb.size)
                replace K_p1 := Lib.hid ((hb.block (w.heap.size + 1) (lt_of_block K_p1.out)).trans K_p1.out)
                replace K_x1 := Lib.hid ((hb.block (w9_.heap.size) (lt_of_block K_x1.out)).trans K_x1.out)
                replace HB := Lib.hid (HB.out.trans (hb.mono HB.out.size))
                clear hb
                have d2 : w15_.cell? ⟨w9_.heap.size, 0, none⟩ = some (.slice a_x1 L_x1 c_x1) ∧ w15_.cell? ⟨w.heap.size + 1, 0, none⟩ = some (.slice a1 s1.length cap1) := ⟨(blk_cell K_x1.out 0).trans (one0 _), (blk_cell K_p1.out 0).trans (one0 _)⟩))))
  clear d0 d1 d2
  clear O_x1 S_x1 D_x1
  clear K_x1 R_x1
  clear O_t4 S_t4 D_t4
  clear A1
  clear K_p1 R_p1
  go_wp2_with fail
  go_ret
  exact ⟨rfl, HB.out⟩

end Go.Proofs.Ytdeahjinnnhfkaa
