/- FnExactNewDatabase: the walk. No conditions. -/
import Derived.Test.YtdeahjinnnhfkaaDb3
import Derived.Test.YtdeahjinnnhfkaaDeepByte
import Derived.Test.YtdeahjinnnhfkaaDbH
import Derived.Test.YtdeahjinnnhfkaaIval
import Derived.Deep.RegionHeld3
namespace Go.Proofs.Ytdeahjinnnhfkaa
open Go Go.RowKit
set_option linter.unusedVariables false

set_option maxHeartbeats 4000000 in
set_option maxRecDepth 20000 in
theorem fnExactNewDatabase_walk (a0 : Int) (w : World) (w0 : (Lit.int .i64 a0).wf = true) :
    Calls Try.prog 5 #[.int .i64 a0] w fun e w' => e = .returned (.bool true) ∧ Below w.heap.size w w' := by
  have W0 := Lib.hid w0
  have w0b := wf_i64 w0
  clear w0
  go_enter Try.func5, Try.ntmps5
  have HB := Lib.hid (Below.refl w.heap.size w)
  -- ('call', 'spec', 'NewDatabase', [('arg', 0)], ['w0'])
  go_wp2_with fail
  refine (spec_new W0.out).mono ?_
  rintro e w1_ ⟨v_w0, he, hO, hb⟩
  subst he
  obtain ⟨L_w0, hL⟩ : ∃ L, L = ((newR a0)).length := ⟨_, rfl⟩
  obtain ⟨a_w0, c_w0, hv, _⟩ := hO.open
  rw [← hL] at hv
  clear hL
  subst hv
  have D_w0 := Lib.hid HB.out.size
  have S_w0 : Hid (w1_.heap.size ≤ w1_.heap.size) := Lib.hid (Nat.le_refl _)
  replace HB := Lib.hid (HB.out.trans (hb.mono HB.out.size))
  clear hb
  have O_w0 := Lib.hid hO
  clear hO
  have hb : Below w1_.heap.size w1_ (w1_.alloc (.cells #[.slice a_w0 L_w0 c_w0] 30)) := (Below.refl _ _).alloc (Nat.le_refl _) _
  replace O_w0 := Lib.hid (O_w0.out.next hb)
  replace S_w0 := Lib.hid (Nat.le_trans S_w0.out hb.size)
  replace HB := Lib.hid (HB.out.trans (hb.mono HB.out.size))
  clear hb
  have K_w0 := Lib.hid (heap_alloc_new w1_ (.cells #[.slice a_w0 L_w0 c_w0] 30))
  have R_w0 := Lib.hid (lt_of_block K_w0.out)
  have k_w0 := blk_cell K_w0.out 0
  rw [one0] at k_w0
  go_wp2_with fail
  clear k_w0
  obtain ⟨w2_, hw⟩ : ∃ x, x = w1_.alloc (.cells #[.slice a_w0 L_w0 c_w0] 30) := ⟨_, rfl⟩
  rw [← hw] at HB  O_w0 S_w0 K_w0 R_w0 ⊢
  clear hw
  -- ('call', 'impl', 'NewDatabase', [('arg', 0)], ['g0'])
  refine (impl_new W0.out).mono ?_
  rintro e w3_ ⟨v_g0, he, hO, hb⟩
  subst he
  obtain ⟨L_g0, hL⟩ : ∃ L, L = ((newR a0)).length := ⟨_, rfl⟩
  obtain ⟨a_g0, c_g0, hv, _⟩ := hO.open
  rw [← hL] at hv
  clear hL
  subst hv
  have P_w0_g0 := S_w0
  have Q_w0_g0 : Hid (w1_.heap.size < w2_.heap.size) := Lib.hid (lt_of_block K_w0.out)
  have D_g0 := Lib.hid HB.out.size
  have S_g0 : Hid (w3_.heap.size ≤ w3_.heap.size) := Lib.hid (Nat.le_refl _)
  replace O_w0 := Lib.hid (O_w0.out.next hb)
  replace S_w0 := Lib.hid (Nat.le_trans S_w0.out hb.size)
  replace K_w0 := Lib.hid ((hb.block (w1_.heap.size) (lt_of_block K_w0.out)).trans K_w0.out)
  replace HB := Lib.hid (HB.out.trans (hb.mono HB.out.size))
  clear hb
  have O_g0 := Lib.hid hO
  clear hO
  have R_g0_g0 := S_g0
  have hb : Below w3_.heap.size w3_ (w3_.alloc (.cells #[.slice a_g0 L_g0 c_g0] 30)) := (Below.refl _ _).alloc (Nat.le_refl _) _
  replace O_w0 := Lib.hid (O_w0.out.next hb)
  replace S_w0 := Lib.hid (Nat.le_trans S_w0.out hb.size)
  replace O_g0 := Lib.hid (O_g0.out.next hb)
  replace S_g0 := Lib.hid (Nat.le_trans S_g0.out hb.size)
  replace K_w0 := Lib.hid ((hb.block (w1_.heap.size) (lt_of_block K_w0.out)).trans K_w0.out)
  replace HB := Lib.hid (HB.out.trans (hb.mono HB.out.size))
  clear hb
  have K_g0 := Lib.hid (heap_alloc_new w3_ (.cells #[.slice a_g0 L_g0 c_g0] 30))
  have R_g0 := Lib.hid (lt_of_block K_g0.out)
  have k_w0 := blk_cell K_w0.out 0
  rw [one0] at k_w0
  have k_g0 := blk_cell K_g0.out 0
  rw [one0] at k_g0
  go_wp2_with fail
  clear k_w0 k_g0
  obtain ⟨w4_, hw⟩ : ∃ x, x = w3_.alloc (.cells #[.slice a_g0 L_g0 c_g0] 30) := ⟨_, rfl⟩
  rw [← hw] at HB  O_w0 S_w0 O_g0 S_g0 K_w0 K_g0 R_g0 ⊢
  clear hw
  -- ('eq', 'Db', ('own', 'g0'), ('own', 'w0'))
  refine (eqDatabase_same O_g0.out.rd2 O_w0.out.rd2 (Nat.le_refl _) (Nat.le_refl _)).mono ?_
  rintro e w5_ ⟨he, hb⟩
  subst he
  replace O_w0 := Lib.hid (O_w0.out.next hb)
  replace S_w0 := Lib.hid (Nat.le_trans S_w0.out hb.size)
  replace O_g0 := Lib.hid (O_g0.out.next hb)
  replace S_g0 := Lib.hid (Nat.le_trans S_g0.out hb.size)
  replace K_w0 := Lib.hid ((hb.block (w1_.heap.size) (lt_of_block K_w0.out)).trans K_w0.out)
  replace K_g0 := Lib.hid ((hb.block (w3_.heap.size) (lt_of_block K_g0.out)).trans K_g0.out)
  replace HB := Lib.hid (HB.out.trans (hb.mono HB.out.size))
  clear hb
  -- ('set', 'm', '1')
  -- ('mark', 'm', 'Db', 'g0', 'm')
  have hF4 : fl ((newR a0)) ≤ 1099511627776 := by have := newR_fl a0; omega
  obtain ⟨K4, hK4⟩ : ∃ K : Int, K = 1 + ((fl ((newR a0)) : Nat) : Int) := ⟨_, rfl⟩
  have k_w0 := blk_cell K_w0.out 0
  rw [one0] at k_w0
  have k_g0 := blk_cell K_g0.out 0
  rw [one0] at k_g0
  go_wp2_with fail
  clear k_w0 k_g0
  refine (markDatabase_any (k0 := 1) O_g0.out (by omega) (by omega)).mono ?_
  rintro e w6_ ⟨he, hO, hG⟩
  rw [← hK4] at he
  subst he
  have hb := hG.below (B := w.heap.size) (fun b hb => Nat.le_trans D_g0.out hb.1) HB.out.size
  replace O_w0 := Lib.hid (O_w0.out.keptF hG (ival_disj (.inl P_w0_g0.out)))
  replace S_w0 := Lib.hid (Nat.le_trans S_w0.out hb.size)
  replace K_w0 := Lib.hid ((hG.block (w1_.heap.size) (lt_of_block K_w0.out) (fun h => by have := Q_w0_g0.out; unfold ival at h; omega)).trans K_w0.out)
  replace K_g0 := Lib.hid ((hG.block (w3_.heap.size) (lt_of_block K_g0.out) (fun h => by have := R_g0_g0.out; unfold ival at h; omega)).trans K_g0.out)
  replace O_g0 := Lib.hid hO
  replace S_g0 := Lib.hid (Nat.le_trans S_g0.out hb.size)
  replace HB := Lib.hid (HB.out.trans hb)
  clear hb hO hG
  have lK4 : 0 ≤ K4 ∧ K4 ≤ 1099511627777 := by omega
  have dK4 : decide (K4 < 0) = false := by simp; omega
  have HK4 := Lib.hid hK4
  clear hK4 hF4
  -- ('set', 'q', '1')
  -- ('held', 'q', 'Db', 'g0', 'q')
  have k_w0 := blk_cell K_w0.out 0
  rw [one0] at k_w0
  have k_g0 := blk_cell K_g0.out 0
  rw [one0] at k_g0
  go_wp2_with fail
  clear k_w0 k_g0
  refine (heldDatabase_any (k0 := 1) O_g0.out.rd2 (Nat.le_refl _) (by omega) (by have := HK4.out; omega)).mono ?_
  rintro e w7_ ⟨he, hb⟩
  rw [← HK4.out] at he
  subst he
  replace O_w0 := Lib.hid (O_w0.out.next hb)
  replace S_w0 := Lib.hid (Nat.le_trans S_w0.out hb.size)
  replace O_g0 := Lib.hid (O_g0.out.next hb)
  replace S_g0 := Lib.hid (Nat.le_trans S_g0.out hb.size)
  replace K_w0 := Lib.hid ((hb.block (w1_.heap.size) (lt_of_block K_w0.out)).trans K_w0.out)
  replace K_g0 := Lib.hid ((hb.block (w3_.heap.size) (lt_of_block K_g0.out)).trans K_g0.out)
  replace HB := Lib.hid (HB.out.trans (hb.mono HB.out.size))
  clear hb
  -- ('call', 'impl', 'NewDatabase', [('arg', 0)], ['h0'])
  have k_w0 := blk_cell K_w0.out 0
  rw [one0] at k_w0
  have k_g0 := blk_cell K_g0.out 0
  rw [one0] at k_g0
  go_wp2_with fail
  clear k_w0 k_g0
  refine (impl_new W0.out).mono ?_
  rintro e w8_ ⟨v_h0, he, hO, hb⟩
  subst he
  obtain ⟨L_h0, hL⟩ : ∃ L, L = ((newR a0)).length := ⟨_, rfl⟩
  obtain ⟨a_h0, c_h0, hv, _⟩ := hO.open
  rw [← hL] at hv
  clear hL
  subst hv
  have D_h0 := Lib.hid HB.out.size
  have S_h0 : Hid (w8_.heap.size ≤ w8_.heap.size) := Lib.hid (Nat.le_refl _)
  replace O_w0 := Lib.hid (O_w0.out.next hb)
  replace S_w0 := Lib.hid (Nat.le_trans S_w0.out hb.size)
  replace O_g0 := Lib.hid (O_g0.out.next hb)
  replace S_g0 := Lib.hid (Nat.le_trans S_g0.out hb.size)
  replace K_w0 := Lib.hid ((hb.block (w1_.heap.size) (lt_of_block K_w0.out)).trans K_w0.out)
  replace K_g0 := Lib.hid ((hb.block (w3_.heap.size) (lt_of_block K_g0.out)).trans K_g0.out)
  replace HB := Lib.hid (HB.out.trans (hb.mono HB.out.size))
  clear hb
  have O_h0 := Lib.hid hO
  clear hO
  have hb : Below w8_.heap.size w8_ (w8_.alloc (.cells #[.slice a_h0 L_h0 c_h0] 30)) := (Below.refl _ _).alloc (Nat.le_refl _) _
  replace O_w0 := Lib.hid (O_w0.out.next hb)
  replace S_w0 := Lib.hid (Nat.le_trans S_w0.out hb.size)
  replace O_g0 := Lib.hid (O_g0.out.next hb)
  replace S_g0 := Lib.hid (Nat.le_trans S_g0.out hb.size)
  replace O_h0 := Lib.hid (O_h0.out.next hb)
  replace S_h0 := Lib.hid (Nat.le_trans S_h0.out hb.size)
  replace K_w0 := Lib.hid ((hb.block (w1_.heap.size) (lt_of_block K_w0.out)).trans K_w0.out)
  replace K_g0 := Lib.hid ((hb.block (w3_.heap.size) (lt_of_block K_g0.out)).trans K_g0.out)
  replace HB := Lib.hid (HB.out.trans (hb.mono HB.out.size))
  clear hb
  have K_h0 := Lib.hid (heap_alloc_new w8_ (.cells #[.slice a_h0 L_h0 c_h0] 30))
  have R_h0 := Lib.hid (lt_of_block K_h0.out)
  have k_w0 := blk_cell K_w0.out 0
  rw [one0] at k_w0
  have k_g0 := blk_cell K_g0.out 0
  rw [one0] at k_g0
  have k_h0 := blk_cell K_h0.out 0
  rw [one0] at k_h0
  go_wp2_with fail
  clear k_w0 k_g0 k_h0
  obtain ⟨w9_, hw⟩ : ∃ x, x = w8_.alloc (.cells #[.slice a_h0 L_h0 c_h0] 30) := ⟨_, rfl⟩
  rw [← hw] at HB  O_w0 S_w0 O_g0 S_g0 O_h0 S_h0 K_w0 K_g0 K_h0 R_h0 ⊢
  clear hw
  -- ('eq', 'Db', ('own', 'h0'), ('own', 'w0'))
  refine (eqDatabase_same O_h0.out.rd2 O_w0.out.rd2 (Nat.le_refl _) (Nat.le_refl _)).mono ?_
  rintro e w10_ ⟨he, hb⟩
  subst he
  replace O_w0 := Lib.hid (O_w0.out.next hb)
  replace S_w0 := Lib.hid (Nat.le_trans S_w0.out hb.size)
  replace O_g0 := Lib.hid (O_g0.out.next hb)
  replace S_g0 := Lib.hid (Nat.le_trans S_g0.out hb.size)
  replace O_h0 := Lib.hid (O_h0.out.next hb)
  replace S_h0 := Lib.hid (Nat.le_trans S_h0.out hb.size)
  replace K_w0 := Lib.hid ((hb.block (w1_.heap.size) (lt_of_block K_w0.out)).trans K_w0.out)
  replace K_g0 := Lib.hid ((hb.block (w3_.heap.size) (lt_of_block K_g0.out)).trans K_g0.out)
  replace K_h0 := Lib.hid ((hb.block (w8_.heap.size) (lt_of_block K_h0.out)).trans K_h0.out)
  replace HB := Lib.hid (HB.out.trans (hb.mono HB.out.size))
  clear hb
  clear O_w0 S_w0 D_w0
  clear P_w0_g0
  clear K_w0 R_w0
  clear O_h0 S_h0 D_h0
  clear K_h0 R_h0
  -- ('set', 'q', '1')
  -- ('held', 'q', 'Db', 'g0', 'q')
  have k_g0 := blk_cell K_g0.out 0
  rw [one0] at k_g0
  go_wp2_with fail
  clear k_g0
  refine (heldDatabase_any (k0 := 1) O_g0.out.rd2 (Nat.le_refl _) (by omega) (by have := HK4.out; omega)).mono ?_
  rintro e w11_ ⟨he, hb⟩
  rw [← HK4.out] at he
  subst he
  replace O_g0 := Lib.hid (O_g0.out.next hb)
  replace S_g0 := Lib.hid (Nat.le_trans S_g0.out hb.size)
  replace K_g0 := Lib.hid ((hb.block (w3_.heap.size) (lt_of_block K_g0.out)).trans K_g0.out)
  replace HB := Lib.hid (HB.out.trans (hb.mono HB.out.size))
  clear hb
  clear O_g0 S_g0 D_g0
  clear K_g0 R_g0
  go_wp2_with fail
  go_ret
  exact ⟨rfl, HB.out⟩

end Go.Proofs.Ytdeahjinnnhfkaa
