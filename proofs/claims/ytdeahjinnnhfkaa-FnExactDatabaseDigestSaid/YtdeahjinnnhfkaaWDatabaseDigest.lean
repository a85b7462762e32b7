/- FnExactDatabaseDigest: the walk. No conditions. -/
import Derived.Test.YtdeahjinnnhfkaaDb9
import Derived.Test.YtdeahjinnnhfkaaDeepByte
import Derived.Test.YtdeahjinnnhfkaaDbH
import Derived.Test.YtdeahjinnnhfkaaIval
import Derived.Deep.RegionHeld3
namespace Go.Proofs.Ytdeahjinnnhfkaa
open Go Go.RowKit
set_option linter.unusedVariables false

set_option maxHeartbeats 4000000 in
set_option maxRecDepth 20000 in
theorem fnExactDatabaseDigest_walk (a0 : Option Addr) (len0 cap0 : Nat) (z0 : List (List Int)) (w : World) (w0 : Rd2 w.heap.size .u8 w (.slice a0 len0 cap0) z0) :
    Calls Try.prog 11 #[.agg #[.slice a0 len0 cap0]] w fun e w' => e = .returned (.bool true) ∧ Below w.heap.size w w' := by
  obtain ⟨s0, A0, l0⟩ : ∃ s, Rd2 w.heap.size .u8 w (.slice a0 len0 cap0) s ∧ len0 = s.length := ⟨z0, w0, w0.len_eq⟩
  subst l0
  replace A0 := Lib.hid A0
  clear w0
  have m0 : s0.length ≤ 9223372036854775807 := by have := A0.out.len; unfold maxLen at this; omega
  by_cases b0z : (tot s0 : Int) ≤ (1048576 : Int)
  case neg =>
    have c0 := Lib.hid b0z
    go_enter Try.func11, Try.ntmps11
    have HB := Lib.hid (Below.refl w.heap.size w)
    have hb := ((Below.refl w.heap.size w).alloc (Nat.le_refl _) (.cells #[.slice a0 s0.length cap0] 47))
    have K_p0 := Lib.hid (heap_alloc_new w (.cells #[.slice a0 s0.length cap0] 47))
    have R_p0 := Lib.hid (lt_of_block K_p0.out)
    replace A0 := Lib.hid (A0.out.behind hb)
    replace HB := Lib.hid hb
    clear hb
    have k_p0 := blk_cell K_p0.out 0
    rw [one0] at k_p0
    go_wp2_with fail
    clear k_p0
    obtain ⟨w1_, hw⟩ : ∃ x, x = (w.alloc (.cells #[.slice a0 s0.length cap0] 47)) := ⟨_, rfl⟩
    rw [← hw] at HB A0 K_p0 R_p0 ⊢
    clear hw
    refine (szDatabase_any A0.out (by omega) (by omega) HB.out.size).mono ?_
    rintro e w2_ ⟨he, hb⟩
    rw [if_neg (by have := c0.out; omega)] at he
    subst he
    replace A0 := Lib.hid (A0.out.behind (hb.mono HB.out.size))
    replace K_p0 := Lib.hid ((hb.block (w.heap.size) (lt_of_block K_p0.out)).trans K_p0.out)
    replace HB := Lib.hid (HB.out.trans (hb.mono HB.out.size))
    clear hb
    have k_p0 := blk_cell K_p0.out 0
    rw [one0] at k_p0
    go_wp2_with fail
    clear k_p0
    go_ret
    exact ⟨rfl, HB.out⟩
  have c0 := Lib.hid b0z
  obtain ⟨q0, hq0⟩ : ∃ q : Int, q = (1048576 : Int) - (tot s0 : Int) := ⟨_, rfl⟩
  have d0q : decide (q0 < 0) = false := by simp; omega
  have e0q : 0 ≤ q0 ∧ q0 ≤ 1048576 := by omega
  have b0t : tot s0 ≤ 1048576 := by omega
  have H0q := Lib.hid hq0
  clear hq0 b0z
  go_enter Try.func11, Try.ntmps11
  have HB := Lib.hid (Below.refl w.heap.size w)
  have hb := ((Below.refl w.heap.size w).alloc (Nat.le_refl _) (.cells #[.slice a0 s0.length cap0] 47))
  have K_p0 := Lib.hid (heap_alloc_new w (.cells #[.slice a0 s0.length cap0] 47))
  have R_p0 := Lib.hid (lt_of_block K_p0.out)
  replace A0 := Lib.hid (A0.out.behind hb)
  replace HB := Lib.hid hb
  clear hb
  have k_p0 := blk_cell K_p0.out 0
  rw [one0] at k_p0
  go_wp2_with fail
  clear k_p0
  obtain ⟨w1_, hw⟩ : ∃ x, x = (w.alloc (.cells #[.slice a0 s0.length cap0] 47)) := ⟨_, rfl⟩
  rw [← hw] at HB A0 K_p0 R_p0 ⊢
  clear hw
  refine (szDatabase_any A0.out (by omega) (by omega) HB.out.size).mono ?_
  rintro e w2_ ⟨he, hb⟩
  rw [if_pos (by have := c0.out; omega), ← H0q.out] at he
  subst he
  replace A0 := Lib.hid (A0.out.behind (hb.mono HB.out.size))
  replace K_p0 := Lib.hid ((hb.block (w.heap.size) (lt_of_block K_p0.out)).trans K_p0.out)
  replace HB := Lib.hid (HB.out.trans (hb.mono HB.out.size))
  clear hb
  -- ('sz', 0, 'Db')
  -- ('call', 'spec', 'DatabaseDigest', [('copy', 0, 'Db')], ['w0'])
  have k_p0 := blk_cell K_p0.out 0
  rw [one0] at k_p0
  go_wp2_with fail
  clear k_p0
  refine (toDatabase_any A0.out HB.out.size (by omega)).mono ?_
  rintro e w3_ ⟨v_t1, he, hO, hb⟩
  subst he
  obtain ⟨L_t1, hL⟩ : ∃ L, L = (s0).length := ⟨_, rfl⟩
  obtain ⟨a_t1, c_t1, hv, _⟩ := hO.open
  rw [← hL] at hv
  clear hL
  subst hv
  have D_t1 := Lib.hid HB.out.size
  have S_t1 : Hid (w3_.heap.size ≤ w3_.heap.size) := Lib.hid (Nat.le_refl _)
  replace A0 := Lib.hid (A0.out.behind (hb.mono HB.out.size))
  replace K_p0 := Lib.hid ((hb.block (w.heap.size) (lt_of_block K_p0.out)).trans K_p0.out)
  replace HB := Lib.hid (HB.out.trans (hb.mono HB.out.size))
  clear hb
  have O_t1 := Lib.hid hO
  clear hO
  have k_p0 := blk_cell K_p0.out 0
  rw [one0] at k_p0
  go_wp2_with fail
  clear k_p0
  refine (spec_dd O_t1.out.rd2 (Nat.le_refl _) (by omega)).mono ?_
  rintro e w4_ ⟨he, hb⟩
  obtain ⟨q_w0, hq⟩ : ∃ q, q = dig s0 := ⟨_, rfl⟩
  rw [← hq] at he
  have Q_w0 := Lib.hid hq
  clear hq
  subst he
  replace A0 := Lib.hid (A0.out.behind (hb.mono HB.out.size))
  replace O_t1 := Lib.hid (O_t1.out.next hb)
  replace S_t1 := Lib.hid (Nat.le_trans S_t1.out hb.size)
  replace K_p0 := Lib.hid ((hb.block (w.heap.size) (lt_of_block K_p0.out)).trans K_p0.out)
  replace HB := Lib.hid (HB.out.trans (hb.mono HB.out.size))
  clear hb
  clear O_t1 S_t1 D_t1
  -- ('copy', 'x0', 0, 'Db')
  have k_p0 := blk_cell K_p0.out 0
  rw [one0] at k_p0
  go_wp2_with fail
  clear k_p0
  refine (toDatabase_any A0.out HB.out.size (by omega)).mono ?_
  rintro e w5_ ⟨v_x0, he, hO, hb⟩
  subst he
  obtain ⟨L_x0, hL⟩ : ∃ L, L = (s0).length := ⟨_, rfl⟩
  obtain ⟨a_x0, c_x0, hv, _⟩ := hO.open
  rw [← hL] at hv
  clear hL
  subst hv
  have D_x0 := Lib.hid HB.out.size
  have S_x0 : Hid (w5_.heap.size ≤ w5_.heap.size) := Lib.hid (Nat.le_refl _)
  replace A0 := Lib.hid (A0.out.behind (hb.mono HB.out.size))
  replace K_p0 := Lib.hid ((hb.block (w.heap.size) (lt_of_block K_p0.out)).trans K_p0.out)
  replace HB := Lib.hid (HB.out.trans (hb.mono HB.out.size))
  clear hb
  have O_x0 := Lib.hid hO
  clear hO
  have hb : Below w5_.heap.size w5_ (w5_.alloc (.cells #[.slice a_x0 L_x0 c_x0] 30)) := (Below.refl _ _).alloc (Nat.le_refl _) _
  replace A0 := Lib.hid (A0.out.behind (hb.mono HB.out.size))
  replace O_x0 := Lib.hid (O_x0.out.next hb)
  replace S_x0 := Lib.hid (Nat.le_trans S_x0.out hb.size)
  replace K_p0 := Lib.hid ((hb.block (w.heap.size) (lt_of_block K_p0.out)).trans K_p0.out)
  replace HB := Lib.hid (HB.out.trans (hb.mono HB.out.size))
  clear hb
  have K_x0 := Lib.hid (heap_alloc_new w5_ (.cells #[.slice a_x0 L_x0 c_x0] 30))
  have R_x0 := Lib.hid (lt_of_block K_x0.out)
  have k_p0 := blk_cell K_p0.out 0
  rw [one0] at k_p0
  have k_x0 := blk_cell K_x0.out 0
  rw [one0] at k_x0
  go_wp2_with fail
  clear k_p0 k_x0
  obtain ⟨w6_, hw⟩ : ∃ x, x = w5_.alloc (.cells #[.slice a_x0 L_x0 c_x0] 30) := ⟨_, rfl⟩
  rw [← hw] at HB A0 O_x0 S_x0 K_p0 K_x0 R_x0 ⊢
  clear hw
  -- ('call', 'impl', 'DatabaseDigest', [('own', 'x0')], ['g0'])
  refine (impl_dd O_x0.out.rd2 (Nat.le_refl _) (by omega)).mono ?_
  rintro e w7_ ⟨he, hb⟩
  rw [← Q_w0.out] at he
  subst he
  replace A0 := Lib.hid (A0.out.behind (hb.mono HB.out.size))
  replace O_x0 := Lib.hid (O_x0.out.next hb)
  replace S_x0 := Lib.hid (Nat.le_trans S_x0.out hb.size)
  replace K_p0 := Lib.hid ((hb.block (w.heap.size) (lt_of_block K_p0.out)).trans K_p0.out)
  replace K_x0 := Lib.hid ((hb.block (w5_.heap.size) (lt_of_block K_x0.out)).trans K_x0.out)
  replace HB := Lib.hid (HB.out.trans (hb.mono HB.out.size))
  clear hb
  -- ('eq', 'Db', ('own', 'x0'), ('copy', 0, 'Db'))
  have k_p0 := blk_cell K_p0.out 0
  rw [one0] at k_p0
  have k_x0 := blk_cell K_x0.out 0
  rw [one0] at k_x0
  go_wp2_with fail
  clear k_p0 k_x0
  have hb : Below w7_.heap.size w7_ w7_.drew := (Below.refl _ _).drew
  replace A0 := Lib.hid (A0.out.behind (hb.mono HB.out.size))
  replace O_x0 := Lib.hid (O_x0.out.next hb)
  replace S_x0 := Lib.hid (Nat.le_trans S_x0.out hb.size)
  replace K_p0 := Lib.hid ((hb.block (w.heap.size) (lt_of_block K_p0.out)).trans K_p0.out)
  replace K_x0 := Lib.hid ((hb.block (w5_.heap.size) (lt_of_block K_x0.out)).trans K_x0.out)
  replace HB := Lib.hid (HB.out.trans (hb.mono HB.out.size))
  clear hb
  have d0 : w7_.drew.cell? ⟨w5_.heap.size, 0, none⟩ = some (.slice a_x0 L_x0 c_x0) ∧ w7_.drew.cell? ⟨w.heap.size, 0, none⟩ = some (.slice a0 s0.length cap0) := ⟨(blk_cell K_x0.out 0).trans (one0 _), (blk_cell K_p0.out 0).trans (one0 _)⟩
  go_region_held3 (fun w' => w'.cell? ⟨w5_.heap.size, 0, none⟩ = some (.slice a_x0 L_x0 c_x0) ∧ w'.cell? ⟨w.heap.size, 0, none⟩ = some (.slice a0 s0.length cap0)) (first | assumption | go_keep) ((first
    | (go_at_call 34
       go_loud (refine (toDatabase_any A0.out HB.out.size (by omega)).mono ?_
                rintro e w8_ ⟨v_t2, he, hO, hb⟩
                subst he
                obtain ⟨L_t2, hL⟩ : ∃ L, L = (s0).length := ⟨_, rfl⟩
                obtain ⟨a_t2, c_t2, hv, _⟩ := hO.open
                rw [← hL] at hv
                clear hL
                subst hv
                have D_t2 := Lib.hid HB.out.size
                have S_t2 : Hid (w8_.heap.size ≤ w8_.heap.size) := Lib.hid (Nat.le_refl _)
                replace A0 := Lib.hid (A0.out.behind (hb.mono HB.out.size))
                replace O_x0 := Lib.hid (O_x0.out.next hb)
                replace S_x0 := Lib.hid (Nat.le_trans S_x0.out hb.size)
                replace K_p0 := Lib.hid ((hb.block (w.heap.size) (lt_of_block K_p0.out)).trans K_p0.out)
                replace K_x0 := Lib.hid ((hb.block (w5_.heap.size) (lt_of_block K_x0.out)).trans K_x0.out)
                replace HB := Lib.hid (HB.out.trans (hb.mono HB.out.size))
                clear hb
                have O_t2 := Lib.hid hO
                clear hO
                have d1 : w8_.cell? ⟨w5_.heap.size, 0, none⟩ = some (.slice a_x0 L_x0 c_x0) ∧ w8_.cell? ⟨w.heap.size, 0, none⟩ = some (.slice a0 s0.length cap0) := ⟨(blk_cell K_x0.out 0).trans (one0 _), (blk_cell K_p0.out 0).trans (one0 _)⟩))
    | (go_at_call 30
       go_loud (refine (eqDatabase_same O_x0.out.rd2 O_t2.out.rd2 (Nat.le_refl _) (Nat.le_refl _)).mono ?_
                rintro e w9_ ⟨he, hb⟩
                subst he
                replace A0 := Lib.hid (A0.out.behind (hb.mono HB.out.size))
                replace O_x0 := Lib.hid (O_x0.out.next hb)
                replace S_x0 := Lib.hid (Nat.le_trans S_x0.out hb.size)
                replace O_t2 := Lib.hid (O_t2.out.next hb)
                replace S_t2 := Lib.hid (Nat.le_trans S_t2.out hb.size)
                replace K_p0 := Lib.hid ((hb.block (w.heap.size) (lt_of_block K_p0.out)).trans K_p0.out)
                replace K_x0 := Lib.hid ((hb.block (w5_.heap.size) (lt_of_block K_x0.out)).trans K_x0.out)
                replace HB := Lib.hid (HB.out.trans (hb.mono HB.out.size))
                clear hb
                have d2 : w9_.cell? ⟨w5_.heap.size, 0, none⟩ = some (.slice a_x0 L_x0 c_x0) ∧ w9_.cell? ⟨w.heap.size, 0, none⟩ = some (.slice a0 s0.length cap0) := ⟨(blk_cell K_x0.out 0).trans (one0 _), (blk_cell K_p0.out 0).trans (one0 _)⟩))))
  clear d0 d1 d2
  clear O_x0 S_x0 D_x0
  clear K_x0 R_x0
  clear O_t2 S_t2 D_t2
  clear A0
  clear K_p0 R_p0
  go_wp2_with fail
  go_ret
  exact ⟨rfl, HB.out⟩

end Go.Proofs.Ytdeahjinnnhfkaa
