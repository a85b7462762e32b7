/- FnExactReadRow: the walk. No conditions. -/
import Derived.Test.YtdeahjinnnhfkaaDb4
import Derived.Test.YtdeahjinnnhfkaaCopyByte
import Derived.Test.YtdeahjinnnhfkaaDeepByte
import Derived.Test.YtdeahjinnnhfkaaDbH
import Derived.Test.YtdeahjinnnhfkaaIval
import Derived.Deep.RegionHeld3
namespace Go.Proofs.Ytdeahjinnnhfkaa
open Go Go.RowKit
set_option linter.unusedVariables false

set_option maxHeartbeats 4000000 in
set_option maxRecDepth 20000 in
theorem fnExactReadRow_walk (a0 : Option Addr) (len0 cap0 : Nat) (z0 : List (List Int)) (a1 : Int) (w : World) (w0 : Rd2 w.heap.size .u8 w (.slice a0 len0 cap0) z0) (w1 : (Lit.int .i64 a1).wf = true) :
    Calls Try.prog 7 #[.agg #[.slice a0 len0 cap0], .int .i64 a1] w fun e w' => e = .returned (.bool true) ∧ Below w.heap.size w w' := by
  obtain ⟨s0, A0, l0⟩ : ∃ s, Rd2 w.heap.size .u8 w (.slice a0 len0 cap0) s ∧ len0 = s.length := ⟨z0, w0, w0.len_eq⟩
  subst l0
  replace A0 := Lib.hid A0
  clear w0
  have m0 : s0.length ≤ 9223372036854775807 := by have := A0.out.len; unfold maxLen at this; omega
  have W1 := Lib.hid w1
  have w1b := wf_i64 w1
  clear w1
  by_cases b0z : (tot s0 : Int) ≤ (1048576 : Int)
  case neg =>
    have c0 := Lib.hid b0z
    go_enter Try.func7, Try.ntmps7
    have HB := Lib.hid (Below.refl w.heap.size w)
    have hb := ((Below.refl w.heap.size w).alloc (Nat.le_refl _) (.cells #[.slice a0 s0.length cap0] 47))
    have K_p0 := Lib.hid (heap_alloc_new w (.cells #[.slice a0 s0.length cap0] 47))
    have R_p0 := Lib.hid (lt_of_block K_p0.out)
    replace A0 := Lib.hid (A0.out.behind hb)
    replace HB := Lib.hid hb
    clear hb
    have k_p0 := blk_cell K_p0.out 0
    rw [one0] at k_p0
    go_wp2_with fail
    clear k_p0
    obtain ⟨w1_, hw⟩ : ∃ x, x = (w.alloc (.cells #[.slice a0 s0.length cap0] 47)) := ⟨_, rfl⟩
    rw [← hw] at HB A0 K_p0 R_p0 ⊢
    clear hw
    refine (szDatabase_any A0.out (by omega) (by omega) HB.out.size).mono ?_
    rintro e w2_ ⟨he, hb⟩
    rw [if_neg (by have := c0.out; omega)] at he
    subst he
    replace A0 := Lib.hid (A0.out.behind (hb.mono HB.out.size))
    replace K_p0 := Lib.hid ((hb.block (w.heap.size) (lt_of_block K_p0.out)).trans K_p0.out)
    replace HB := Lib.hid (HB.out.trans (hb.mono HB.out.size))
    clear hb
    have k_p0 := blk_cell K_p0.out 0
    rw [one0] at k_p0
    go_wp2_with fail
    clear k_p0
    go_ret
    exact ⟨rfl, HB.out⟩
  have c0 := Lib.hid b0z
  obtain ⟨q0, hq0⟩ : ∃ q : Int, q = (1048576 : Int) - (tot s0 : Int) := ⟨_, rfl⟩
  have d0q : decide (q0 < 0) = false := by simp; omega
  have e0q : 0 ≤ q0 ∧ q0 ≤ 1048576 := by omega
  have b0t : tot s0 ≤ 1048576 := by omega
  have H0q := Lib.hid hq0
  clear hq0 b0z
  go_enter Try.func7, Try.ntmps7
  have HB := Lib.hid (Below.refl w.heap.size w)
  have hb := ((Below.refl w.heap.size w).alloc (Nat.le_refl _) (.cells #[.slice a0 s0.length cap0] 47))
  have K_p0 := Lib.hid (heap_alloc_new w (.cells #[.slice a0 s0.length cap0] 47))
  have R_p0 := Lib.hid (lt_of_block K_p0.out)
  replace A0 := Lib.hid (A0.out.behind hb)
  replace HB := Lib.hid hb
  clear hb
  have k_p0 := blk_cell K_p0.out 0
  rw [one0] at k_p0
  go_wp2_with fail
  clear k_p0
  obtain ⟨w1_, hw⟩ : ∃ x, x = (w.alloc (.cells #[.slice a0 s0.length cap0] 47)) := ⟨_, rfl⟩
  rw [← hw] at HB A0 K_p0 R_p0 ⊢
  clear hw
  refine (szDatabase_any A0.out (by omega) (by omega) HB.out.size).mono ?_
  rintro e w2_ ⟨he, hb⟩
  rw [if_pos (by have := c0.out; omega), ← H0q.out] at he
  subst he
  replace A0 := Lib.hid (A0.out.behind (hb.mono HB.out.size))
  replace K_p0 := Lib.hid ((hb.block (w.heap.size) (lt_of_block K_p0.out)).trans K_p0.out)
  replace HB := Lib.hid (HB.out.trans (hb.mono HB.out.size))
  clear hb
  -- ('sz', 0, 'Db')
  -- ('call', 'spec', 'ReadRow', [('copy', 0, 'Db'), ('arg', 1)], ['w0', 'w1'])
  have k_p0 := blk_cell K_p0.out 0
  rw [one0] at k_p0
  go_wp2_with fail
  clear k_p0
  refine (toDatabase_any A0.out HB.out.size (by omega)).mono ?_
  rintro e w3_ ⟨v_t1, he, hO, hb⟩
  subst he
  obtain ⟨L_t1, hL⟩ : ∃ L, L = (s0).length := ⟨_, rfl⟩
  obtain ⟨a_t1, c_t1, hv, _⟩ := hO.open
  rw [← hL] at hv
  clear hL
  subst hv
  have D_t1 := Lib.hid HB.out.size
  have S_t1 : Hid (w3_.heap.size ≤ w3_.heap.size) := Lib.hid (Nat.le_refl _)
  replace A0 := Lib.hid (A0.out.behind (hb.mono HB.out.size))
  replace K_p0 := Lib.hid ((hb.block (w.heap.size) (lt_of_block K_p0.out)).trans K_p0.out)
  replace HB := Lib.hid (HB.out.trans (hb.mono HB.out.size))
  clear hb
  have O_t1 := Lib.hid hO
  clear hO
  have k_p0 := blk_cell K_p0.out 0
  rw [one0] at k_p0
  go_wp2_with fail
  clear k_p0
  refine (spec_rr O_t1.out.rd2 (Nat.le_refl _) W1.out (by omega)).mono ?_
  rintro e w4_ ⟨v_w0, he, hO, hb⟩
  subst he
  have D_w0 := Lib.hid HB.out.size
  have T_w0 := Lib.hid hO.lt
  have S_w0 : Hid (w4_.heap.size ≤ w4_.heap.size) := Lib.hid (Nat.le_refl _)
  replace hO := hO.mono HB.out.size
  replace A0 := Lib.hid (A0.out.behind (hb.mono HB.out.size))
  replace O_t1 := Lib.hid (O_t1.out.next hb)
  replace S_t1 := Lib.hid (Nat.le_trans S_t1.out hb.size)
  replace K_p0 := Lib.hid ((hb.block (w.heap.size) (lt_of_block K_p0.out)).trans K_p0.out)
  replace HB := Lib.hid (HB.out.trans (hb.mono HB.out.size))
  clear hb
  have O_w0 := Lib.hid hO
  clear hO
  clear O_t1 S_t1 D_t1
  -- ('copy', 'x0', 0, 'Db')
  have k_p0 := blk_cell K_p0.out 0
  rw [one0] at k_p0
  go_wp2_with fail
  clear k_p0
  refine (toDatabase_any A0.out HB.out.size (by omega)).mono ?_
  rintro e w5_ ⟨v_x0, he, hO, hb⟩
  subst he
  obtain ⟨L_x0, hL⟩ : ∃ L, L = (s0).length := ⟨_, rfl⟩
  obtain ⟨a_x0, c_x0, hv, _⟩ := hO.open
  rw [← hL] at hv
  clear hL
  subst hv
  have P_w0_x0 := S_w0
  have Q_p0_x0 : Hid (w.heap.size < w4_.heap.size) := Lib.hid (lt_of_block K_p0.out)
  have D_x0 := Lib.hid HB.out.size
  have S_x0 : Hid (w5_.heap.size ≤ w5_.heap.size) := Lib.hid (Nat.le_refl _)
  replace A0 := Lib.hid (A0.out.behind (hb.mono HB.out.size))
  replace O_w0 := Lib.hid (O_w0.out.next hb)
  replace S_w0 := Lib.hid (Nat.le_trans S_w0.out hb.size)
  replace K_p0 := Lib.hid ((hb.block (w.heap.size) (lt_of_block K_p0.out)).trans K_p0.out)
  replace HB := Lib.hid (HB.out.trans (hb.mono HB.out.size))
  clear hb
  have O_x0 := Lib.hid hO
  clear hO
  have R_x0_x0 := S_x0
  have hb : Below w5_.heap.size w5_ (w5_.alloc (.cells #[.slice a_x0 L_x0 c_x0] 30)) := (Below.refl _ _).alloc (Nat.le_refl _) _
  replace A0 := Lib.hid (A0.out.behind (hb.mono HB.out.size))
  replace O_w0 := Lib.hid (O_w0.out.next hb)
  replace S_w0 := Lib.hid (Nat.le_trans S_w0.out hb.size)
  replace O_x0 := Lib.hid (O_x0.out.next hb)
  replace S_x0 := Lib.hid (Nat.le_trans S_x0.out hb.size)
  replace K_p0 := Lib.hid ((hb.block (w.heap.size) (lt_of_block K_p0.out)).trans K_p0.out)
  replace HB := Lib.hid (HB.out.trans (hb.mono HB.out.size))
  clear hb
  have K_x0 := Lib.hid (heap_alloc_new w5_ (.cells #[.slice a_x0 L_x0 c_x0] 30))
  have R_x0 := Lib.hid (lt_of_block K_x0.out)
  have k_p0 := blk_cell K_p0.out 0
  rw [one0] at k_p0
  have k_x0 := blk_cell K_x0.out 0
  rw [one0] at k_x0
  go_wp2_with fail
  clear k_p0 k_x0
  obtain ⟨w6_, hw⟩ : ∃ x, x = w5_.alloc (.cells #[.slice a_x0 L_x0 c_x0] 30) := ⟨_, rfl⟩
  rw [← hw] at HB A0 O_w0 S_w0 O_x0 S_x0 K_p0 K_x0 R_x0 ⊢
  clear hw
  -- ('call', 'impl', 'ReadRow', [('own', 'x0'), ('arg', 1)], ['g0', 'g1'])
  refine (impl_rr O_x0.out.rd2 (Nat.le_refl _) W1.out (by omega)).mono ?_
  rintro e w7_ ⟨v_g0, he, hO, hb⟩
  subst he
  have P_w0_g0 := S_w0
  have P_x0_g0 := S_x0
  have Q_p0_g0 : Hid (w.heap.size < w6_.heap.size) := Lib.hid (lt_of_block K_p0.out)
  have Q_x0_g0 : Hid (w5_.heap.size < w6_.heap.size) := Lib.hid (lt_of_block K_x0.out)
  have D_g0 := Lib.hid HB.out.size
  have T_g0 := Lib.hid hO.lt
  have S_g0 : Hid (w7_.heap.size ≤ w7_.heap.size) := Lib.hid (Nat.le_refl _)
  replace hO := hO.mono HB.out.size
  replace A0 := Lib.hid (A0.out.behind (hb.mono HB.out.size))
  replace O_w0 := Lib.hid (O_w0.out.next hb)
  replace S_w0 := Lib.hid (Nat.le_trans S_w0.out hb.size)
  replace O_x0 := Lib.hid (O_x0.out.next hb)
  replace S_x0 := Lib.hid (Nat.le_trans S_x0.out hb.size)
  replace K_p0 := Lib.hid ((hb.block (w.heap.size) (lt_of_block K_p0.out)).trans K_p0.out)
  replace K_x0 := Lib.hid ((hb.block (w5_.heap.size) (lt_of_block K_x0.out)).trans K_x0.out)
  replace HB := Lib.hid (HB.out.trans (hb.mono HB.out.size))
  clear hb
  have O_g0 := Lib.hid hO
  clear hO
  -- ('eq', 'Byte', ('own', 'g0'), ('own', 'w0'))
  have k_p0 := blk_cell K_p0.out 0
  rw [one0] at k_p0
  have k_x0 := blk_cell K_x0.out 0
  rw [one0] at k_x0
  go_wp2_with fail
  clear k_p0 k_x0
  refine (eqByteS_same O_g0.out.rd O_w0.out.rd (Nat.le_refl _) (Nat.le_refl _)).mono ?_
  rintro e w8_ ⟨he, hb⟩
  subst he
  replace A0 := Lib.hid (A0.out.behind (hb.mono HB.out.size))
  replace O_w0 := Lib.hid (O_w0.out.next hb)
  replace S_w0 := Lib.hid (Nat.le_trans S_w0.out hb.size)
  replace O_x0 := Lib.hid (O_x0.out.next hb)
  replace S_x0 := Lib.hid (Nat.le_trans S_x0.out hb.size)
  replace O_g0 := Lib.hid (O_g0.out.next hb)
  replace S_g0 := Lib.hid (Nat.le_trans S_g0.out hb.size)
  replace K_p0 := Lib.hid ((hb.block (w.heap.size) (lt_of_block K_p0.out)).trans K_p0.out)
  replace K_x0 := Lib.hid ((hb.block (w5_.heap.size) (lt_of_block K_x0.out)).trans K_x0.out)
  replace HB := Lib.hid (HB.out.trans (hb.mono HB.out.size))
  clear hb
  -- ('eq', 'Db', ('own', 'x0'), ('copy', 0, 'Db'))
  have k_p0 := blk_cell K_p0.out 0
  rw [one0] at k_p0
  have k_x0 := blk_cell K_x0.out 0
  rw [one0] at k_x0
  go_wp2_with fail
  clear k_p0 k_x0
  have hb : Below w8_.heap.size w8_ w8_.drew := (Below.refl _ _).drew
  replace A0 := Lib.hid (A0.out.behind (hb.mono HB.out.size))
  replace O_w0 := Lib.hid (O_w0.out.next hb)
  replace S_w0 := Lib.hid (Nat.le_trans S_w0.out hb.size)
  replace O_x0 := Lib.hid (O_x0.out.next hb)
  replace S_x0 := Lib.hid (Nat.le_trans S_x0.out hb.size)
  replace O_g0 := Lib.hid (O_g0.out.next hb)
  replace S_g0 := Lib.hid (Nat.le_trans S_g0.out hb.size)
  replace K_p0 := Lib.hid ((hb.block (w.heap.size) (lt_of_block K_p0.out)).trans K_p0.out)
  replace K_x0 := Lib.hid ((hb.block (w5_.heap.size) (lt_of_block K_x0.out)).trans K_x0.out)
  replace HB := Lib.hid (HB.out.trans (hb.mono HB.out.size))
  clear hb
  have d0 : w8_.drew.cell? ⟨w5_.heap.size, 0, none⟩ = some (.slice a_x0 L_x0 c_x0) ∧ w8_.drew.cell? ⟨w.heap.size, 0, none⟩ = some (.slice a0 s0.length cap0) := ⟨(blk_cell K_x0.out 0).trans (one0 _), (blk_cell K_p0.out 0).trans (one0 _)⟩
  go_region_held3 (fun w' => w'.cell? ⟨w5_.heap.size, 0, none⟩ = some (.slice a_x0 L_x0 c_x0) ∧ w'.cell? ⟨w.heap.size, 0, none⟩ = some (.slice a0 s0.length cap0)) (first | assumption | go_keep) ((first
    | (go_at_call 34
       go_loud (refine (toDatabase_any A0.out HB.out.size (by omega)).mono ?_
                rintro e w9_ ⟨v_t2, he, hO, hb⟩
                subst he
                obtain ⟨L_t2, hL⟩ : ∃ L, L = (s0).length := ⟨_, rfl⟩
                obtain ⟨a_t2, c_t2, hv, _⟩ := hO.open
                rw [← hL] at hv
                clear hL
                subst hv
                have P_x0_t2 := S_x0
                have P_g0_t2 := S_g0
                have D_t2 := Lib.hid HB.out.size
                have S_t2 : Hid (w9_.heap.size ≤ w9_.heap.size) := Lib.hid (Nat.le_refl _)
                replace A0 := Lib.hid (A0.out.behind (hb.mono HB.out.size))
                replace O_w0 := Lib.hid (O_w0.out.next hb)
                replace S_w0 := Lib.hid (Nat.le_trans S_w0.out hb.size)
                replace O_x0 := Lib.hid (O_x0.out.next hb)
                replace S_x0 := Lib.hid (Nat.le_trans S_x0.out hb.size)
                replace O_g0 := Lib.hid (O_g0.out.next hb)
                replace S_g0 := Lib.hid (Nat.le_trans S_g0.out hb.size)
                replace K_p0 := Lib.hid ((hb.block (w.heap.size) (lt_of_block K_p0.out)).trans K_p0.out)
                replace K_x0 := Lib.hid ((hb.block (w5_.heap.size) (lt_of_block K_x0.out)).trans K_x0.out)
                replace HB := Lib.hid (HB.out.trans (hb.mono HB.out.size))
                clear hb
                have O_t2 := Lib.hid hO
                clear hO
                have d1 : w9_.cell? ⟨w5_.heap.size, 0, none⟩ = some (.slice a_x0 L_x0 c_x0) ∧ w9_.cell? ⟨w.heap.size, 0, none⟩ = some (.slice a0 s0.length cap0) := ⟨(blk_cell K_x0.out 0).trans (one0 _), (blk_cell K_p0.out 0).trans (one0 _)⟩))
    | (go_at_call 30
       go_loud (refine (eqDatabase_same O_x0.out.rd2 O_t2.out.rd2 (Nat.le_refl _) (Nat.le_refl _)).mono ?_
                rintro e w10_ ⟨he, hb⟩
                subst he
                replace A0 := Lib.hid (A0.out.behind (hb.mono HB.out.size))
                replace O_w0 := Lib.hid (O_w0.out.next hb)
                replace S_w0 := Lib.hid (Nat.le_trans S_w0.out hb.size)
                replace O_x0 := Lib.hid (O_x0.out.next hb)
                replace S_x0 := Lib.hid (Nat.le_trans S_x0.out hb.size)
                replace O_g0 := Lib.hid (O_g0.out.next hb)
                replace S_g0 := Lib.hid (Nat.le_trans S_g0.out hb.size)
                replace O_t2 := Lib.hid (O_t2.out.next hb)
                replace S_t2 := Lib.hid (Nat.le_trans S_t2.out hb.size)
                replace K_p0 := Lib.hid ((hb.block (w.heap.size) (lt_of_block K_p0.out)).trans K_p0.out)
                replace K_x0 := Lib.hid ((hb.block (w5_.heap.size) (lt_of_block K_x0.out)).trans K_x0.out)
                replace HB := Lib.hid (HB.out.trans (hb.mono HB.out.size))
                clear hb
                have d2 : w10_.cell? ⟨w5_.heap.size, 0, none⟩ = some (.slice a_x0 L_x0 c_x0) ∧ w10_.cell? ⟨w.heap.size, 0, none⟩ = some (.slice a0 s0.length cap0) := ⟨(blk_cell K_x0.out 0).trans (one0 _), (blk_cell K_p0.out 0).trans (one0 _)⟩))))
  clear d0 d1 d2
  clear O_t2 S_t2 D_t2
  clear P_x0_t2
  clear P_g0_t2
  -- ('set', 'k', '1')
  -- ('mark', 'k', 'Db', 'x0', 'k')
  have hF7 : fl (s0) ≤ 1099511627776 := by have := fl_tot s0; omega
  obtain ⟨K7, hK7⟩ : ∃ K : Int, K = 1 + ((fl (s0) : Nat) : Int) := ⟨_, rfl⟩
  have k_p0 := blk_cell K_p0.out 0
  rw [one0] at k_p0
  have k_x0 := blk_cell K_x0.out 0
  rw [one0] at k_x0
  go_wp2_with fail
  clear k_p0 k_x0
  refine (markDatabase_any (k0 := 1) O_x0.out (by omega) (by omega)).mono ?_
  rintro e w11_ ⟨he, hO, hG⟩
  rw [← hK7] at he
  subst he
  have hb := hG.below (B := w.heap.size) (fun b hb => Nat.le_trans D_x0.out hb.1) HB.out.size
  replace A0 := Lib.hid (A0.out.behind hb)
  replace O_w0 := Lib.hid (O_w0.out.keptF hG (not_ival T_w0.out (.inl P_w0_x0.out)))
  replace S_w0 := Lib.hid (Nat.le_trans S_w0.out hb.size)
  replace O_g0 := Lib.hid (O_g0.out.keptF hG (not_ival T_g0.out (.inr P_x0_g0.out)))
  replace S_g0 := Lib.hid (Nat.le_trans S_g0.out hb.size)
  replace K_p0 := Lib.hid ((hG.block (w.heap.size) (lt_of_block K_p0.out) (fun h => by have := Q_p0_x0.out; unfold ival at h; omega)).trans K_p0.out)
  replace K_x0 := Lib.hid ((hG.block (w5_.heap.size) (lt_of_block K_x0.out) (fun h => by have := R_x0_x0.out; unfold ival at h; omega)).trans K_x0.out)
  replace O_x0 := Lib.hid hO
  replace S_x0 := Lib.hid (Nat.le_trans S_x0.out hb.size)
  replace HB := Lib.hid (HB.out.trans hb)
  clear hb hO hG
  have lK7 : 0 ≤ K7 ∧ K7 ≤ 1099511627777 := by omega
  have dK7 : decide (K7 < 0) = false := by simp; omega
  have HK7 := Lib.hid hK7
  clear hK7 hF7
  clear O_x0 S_x0 D_x0
  clear P_w0_x0
  clear P_x0_g0
  clear K_x0 R_x0
  -- ('eq', 'Byte', ('own', 'g0'), ('own', 'w0'))
  have k_p0 := blk_cell K_p0.out 0
  rw [one0] at k_p0
  go_wp2_with fail
  clear k_p0
  refine (eqByteS_same O_g0.out.rd O_w0.out.rd (Nat.le_refl _) (Nat.le_refl _)).mono ?_
  rintro e w12_ ⟨he, hb⟩
  subst he
  replace A0 := Lib.hid (A0.out.behind (hb.mono HB.out.size))
  replace O_w0 := Lib.hid (O_w0.out.next hb)
  replace S_w0 := Lib.hid (Nat.le_trans S_w0.out hb.size)
  replace O_g0 := Lib.hid (O_g0.out.next hb)
  replace S_g0 := Lib.hid (Nat.le_trans S_g0.out hb.size)
  replace K_p0 := Lib.hid ((hb.block (w.heap.size) (lt_of_block K_p0.out)).trans K_p0.out)
  replace HB := Lib.hid (HB.out.trans (hb.mono HB.out.size))
  clear hb
  -- ('set', 'm', '1')
  -- ('mark', 'm', 'Byte', 'g0', 'm')
  have hF10 : ((rdR s0 a1)).length ≤ 1099511627776 := by have := rdR_len s0 a1; have := fl_tot s0; omega
  obtain ⟨K10, hK10⟩ : ∃ K : Int, K = 1 + ((((rdR s0 a1)).length : Nat) : Int) := ⟨_, rfl⟩
  have k_p0 := blk_cell K_p0.out 0
  rw [one0] at k_p0
  go_wp2_with fail
  clear k_p0
  refine (markByteS_any (k0 := 1) O_g0.out (by omega) (by omega)).mono ?_
  rintro e w13_ ⟨he, hO, hG⟩
  rw [← hK10] at he
  subst he
  have hb := O_g0.out.below (Nat.le_refl _) hG
  replace A0 := Lib.hid (A0.out.behind hb)
  replace O_w0 := Lib.hid (O_w0.out.beside (apart_ival T_w0.out T_g0.out (.inl P_w0_g0.out)) hG)
  replace S_w0 := Lib.hid (Nat.le_trans S_w0.out hb.size)
  replace K_p0 := Lib.hid ((hG.block (w.heap.size) (lt_of_block K_p0.out) (fun h => by have := Q_p0_g0.out; have := T_g0.out _ h.symm; omega)).trans K_p0.out)
  replace O_g0 := Lib.hid hO
  replace S_g0 := Lib.hid (Nat.le_trans S_g0.out hb.size)
  replace HB := Lib.hid (HB.out.trans hb)
  clear hb hO hG
  have lK10 : 0 ≤ K10 ∧ K10 ≤ 1099511627777 := by omega
  have dK10 : decide (K10 < 0) = false := by simp; omega
  have HK10 := Lib.hid hK10
  clear hK10 hF10
  -- ('set', 'q', '1')
  -- ('held', 'q', 'Byte', 'g0', 'q')
  have k_p0 := blk_cell K_p0.out 0
  rw [one0] at k_p0
  go_wp2_with fail
  clear k_p0
  refine (heldByteS_any (k0 := 1) O_g0.out.rd (Nat.le_refl _) (by omega) (by have := HK10.out; omega)).mono ?_
  rintro e w14_ ⟨he, hb⟩
  rw [← HK10.out] at he
  subst he
  replace A0 := Lib.hid (A0.out.behind (hb.mono HB.out.size))
  replace O_w0 := Lib.hid (O_w0.out.next hb)
  replace S_w0 := Lib.hid (Nat.le_trans S_w0.out hb.size)
  replace O_g0 := Lib.hid (O_g0.out.next hb)
  replace S_g0 := Lib.hid (Nat.le_trans S_g0.out hb.size)
  replace K_p0 := Lib.hid ((hb.block (w.heap.size) (lt_of_block K_p0.out)).trans K_p0.out)
  replace HB := Lib.hid (HB.out.trans (hb.mono HB.out.size))
  clear hb
  -- ('call', 'impl', 'ReadRow', [('copy', 0, 'Db'), ('arg', 1)], ['h0', 'h1'])
  have k_p0 := blk_cell K_p0.out 0
  rw [one0] at k_p0
  go_wp2_with fail
  clear k_p0
  refine (toDatabase_any A0.out HB.out.size (by omega)).mono ?_
  rintro e w15_ ⟨v_t3, he, hO, hb⟩
  subst he
  obtain ⟨L_t3, hL⟩ : ∃ L, L = (s0).length := ⟨_, rfl⟩
  obtain ⟨a_t3, c_t3, hv, _⟩ := hO.open
  rw [← hL] at hv
  clear hL
  subst hv
  have D_t3 := Lib.hid HB.out.size
  have S_t3 : Hid (w15_.heap.size ≤ w15_.heap.size) := Lib.hid (Nat.le_refl _)
  replace A0 := Lib.hid (A0.out.behind (hb.mono HB.out.size))
  replace O_w0 := Lib.hid (O_w0.out.next hb)
  replace S_w0 := Lib.hid (Nat.le_trans S_w0.out hb.size)
  replace O_g0 := Lib.hid (O_g0.out.next hb)
  replace S_g0 := Lib.hid (Nat.le_trans S_g0.out hb.size)
  replace K_p0 := Lib.hid ((hb.block (w.heap.size) (lt_of_block K_p0.out)).trans K_p0.out)
  replace HB := Lib.hid (HB.out.trans (hb.mono HB.out.size))
  clear hb
  have O_t3 := Lib.hid hO
  clear hO
  have k_p0 := blk_cell K_p0.out 0
  rw [one0] at k_p0
  go_wp2_with fail
  clear k_p0
  refine (impl_rr O_t3.out.rd2 (Nat.le_refl _) W1.out (by omega)).mono ?_
  rintro e w16_ ⟨v_h0, he, hO, hb⟩
  subst he
  have D_h0 := Lib.hid HB.out.size
  have T_h0 := Lib.hid hO.lt
  have S_h0 : Hid (w16_.heap.size ≤ w16_.heap.size) := Lib.hid (Nat.le_refl _)
  replace hO := hO.mono HB.out.size
  replace A0 := Lib.hid (A0.out.behind (hb.mono HB.out.size))
  replace O_w0 := Lib.hid (O_w0.out.next hb)
  replace S_w0 := Lib.hid (Nat.le_trans S_w0.out hb.size)
  replace O_g0 := Lib.hid (O_g0.out.next hb)
  replace S_g0 := Lib.hid (Nat.le_trans S_g0.out hb.size)
  replace O_t3 := Lib.hid (O_t3.out.next hb)
  replace S_t3 := Lib.hid (Nat.le_trans S_t3.out hb.size)
  replace K_p0 := Lib.hid ((hb.block (w.heap.size) (lt_of_block K_p0.out)).trans K_p0.out)
  replace HB := Lib.hid (HB.out.trans (hb.mono HB.out.size))
  clear hb
  have O_h0 := Lib.hid hO
  clear hO
  clear O_t3 S_t3 D_t3
  clear A0
  clear K_p0 R_p0
  -- ('eq', 'Byte', ('own', 'h0'), ('own', 'w0'))
  go_wp2_with fail
  refine (eqByteS_same O_h0.out.rd O_w0.out.rd (Nat.le_refl _) (Nat.le_refl _)).mono ?_
  rintro e w17_ ⟨he, hb⟩
  subst he
  replace O_w0 := Lib.hid (O_w0.out.next hb)
  replace S_w0 := Lib.hid (Nat.le_trans S_w0.out hb.size)
  replace O_g0 := Lib.hid (O_g0.out.next hb)
  replace S_g0 := Lib.hid (Nat.le_trans S_g0.out hb.size)
  replace O_h0 := Lib.hid (O_h0.out.next hb)
  replace S_h0 := Lib.hid (Nat.le_trans S_h0.out hb.size)
  replace HB := Lib.hid (HB.out.trans (hb.mono HB.out.size))
  clear hb
  clear O_w0 S_w0 D_w0
  clear T_w0
  clear P_w0_g0
  clear O_h0 S_h0 D_h0
  clear T_h0
  -- ('set', 'q', '1')
  -- ('held', 'q', 'Byte', 'g0', 'q')
  go_wp2_with fail
  refine (heldByteS_any (k0 := 1) O_g0.out.rd (Nat.le_refl _) (by omega) (by have := HK10.out; omega)).mono ?_
  rintro e w18_ ⟨he, hb⟩
  rw [← HK10.out] at he
  subst he
  replace O_g0 := Lib.hid (O_g0.out.next hb)
  replace S_g0 := Lib.hid (Nat.le_trans S_g0.out hb.size)
  replace HB := Lib.hid (HB.out.trans (hb.mono HB.out.size))
  clear hb
  clear O_g0 S_g0 D_g0
  clear T_g0
  go_wp2_with fail
  go_ret
  exact ⟨rfl, HB.out⟩

end Go.Proofs.Ytdeahjinnnhfkaa
