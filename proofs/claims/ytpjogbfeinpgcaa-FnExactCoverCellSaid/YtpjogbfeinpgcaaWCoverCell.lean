/- FnExactCoverCell: the walk. No conditions. -/
import Derived.Test.YtpjogbfeinpgcaaClW
import Derived.Test.YtpjogbfeinpgcaaCells
import Derived.Deep.RegionHeld3
import Derived.Deep.DeepCutAuto
namespace Go.Proofs.Ytpjogbfeinpgcaa
open Go Go.RowKit
set_option linter.unusedVariables false
attribute [local irreducible] kh

set_option maxHeartbeats 4000000 in
set_option maxRecDepth 100000 in
theorem fnExactCoverCell_walk (a0 : Int) (w : World) (w0 : (Lit.int .i64 a0).wf = true) :
    Calls Try.prog 4 #[.int .i64 a0] w fun e w' => e = .returned (.bool true) ∧ Below w.heap.size w w' := by
  have W0 := Lib.hid w0
  have w0b := wf_i64 w0
  clear w0
  go_enter Try.func4, Try.ntmps4
  have HB := Lib.hid (Below.refl w.heap.size w)
  -- ('call', 'spec', 'CoverCell', [('arg', 0)], ['w0'])
  go_wp2_with fail
  refine (spec_cov_t W0.out).mono ?_
  obtain ⟨Y0, hY0⟩ : ∃ y : List Int, y = strm (kh a0 [73]) 24 := ⟨_, rfl⟩
  rintro e w1_ ⟨v_w0, F_w0, he, hO_w0, hF_w0, hb⟩
  replace hO_w0 : (sliceT 5 u8T).own F_w0 w1_ [v_w0] (strm (kh a0 [73]) 24) := hO_w0
  rw [← hY0] at hO_w0
  have HY0 := Lib.hid hY0
  clear hY0
  subst he
  have D_w0 : Hid (∀ b, F_w0 b → w.heap.size ≤ b) := Lib.hid (fun b h => Nat.le_trans HB.out.size (hF_w0 b h).1)
  replace HB := Lib.hid (HB.out.trans (hb.mono HB.out.size))
  clear hb
  have O_w0 := Lib.hid hO_w0
  have E_w0 : Hid (∀ b, F_w0 b → b < w1_.heap.size) := Lib.hid (fun b h => (hF_w0 b h).2)
  clear hO_w0 hF_w0
  -- ('call', 'impl', 'CoverCell', [('arg', 0)], ['g0'])
  go_wp2_with fail
  refine (impl_cov_t W0.out).mono ?_
  rintro e w2_ ⟨v_g0, F_g0, he, hO_g0, hF_g0, hb⟩
  replace hO_g0 : (sliceT 5 u8T).own F_g0 w2_ [v_g0] (strm (kh a0 [73]) 24) := hO_g0
  rw [← HY0.out] at hO_g0
  subst he
  have X_w0_g0 : Hid (∀ b, F_w0 b → ¬ F_g0 b) := Lib.hid (fun b h1 h2 => by have := E_w0.out b h1; have := (hF_g0 b h2).1; omega)
  have D_g0 : Hid (∀ b, F_g0 b → w.heap.size ≤ b) := Lib.hid (fun b h => Nat.le_trans HB.out.size (hF_g0 b h).1)
  replace O_w0 := Lib.hid ((sliceT 5 u8T).onext O_w0.out hb)
  replace E_w0 : Hid (∀ b, F_w0 b → b < w2_.heap.size) := Lib.hid (fun b h => Nat.lt_of_lt_of_le (E_w0.out b h) hb.size)
  replace HB := Lib.hid (HB.out.trans (hb.mono HB.out.size))
  clear hb
  have O_g0 := Lib.hid hO_g0
  have E_g0 : Hid (∀ b, F_g0 b → b < w2_.heap.size) := Lib.hid (fun b h => (hF_g0 b h).2)
  clear hO_g0 hF_g0
  -- ('eq', '[]byte', ('own', 'g0'), ('own', 'w0'))
  go_wp2_with fail
  refine (eqByteS_same_t ((sliceT 5 u8T).ord O_g0.out) ((sliceT 5 u8T).ord O_w0.out) (Nat.le_refl _) (Nat.le_refl _)).mono ?_
  rintro e w3_ ⟨he, hb⟩
  subst he
  replace O_w0 := Lib.hid ((sliceT 5 u8T).onext O_w0.out hb)
  replace E_w0 : Hid (∀ b, F_w0 b → b < w3_.heap.size) := Lib.hid (fun b h => Nat.lt_of_lt_of_le (E_w0.out b h) hb.size)
  replace O_g0 := Lib.hid ((sliceT 5 u8T).onext O_g0.out hb)
  replace E_g0 : Hid (∀ b, F_g0 b → b < w3_.heap.size) := Lib.hid (fun b h => Nat.lt_of_lt_of_le (E_g0.out b h) hb.size)
  replace HB := Lib.hid (HB.out.trans (hb.mono HB.out.size))
  clear hb
  -- ('set', 'm', '1')
  -- ('mark', 'm', '[]byte', 'g0', 'm')
  have hF4 : (sliceT 5 u8T).vcnt Y0 ≤ 1099511627776 := by rw [HY0.out]; exact vb_cov _ _
  obtain ⟨K4, hK4⟩ : ∃ K : Int, K = 1 + (((sliceT 5 u8T).vcnt Y0 : Nat) : Int) := ⟨_, rfl⟩
  have hB4 : 0 ≤ K4 ∧ K4 ≤ 1099511627786 := by omega
  have G4 := Lib.hid hK4
  clear hK4
  go_wp2_with fail
  refine (markByteS_t (k0 := 1) O_g0.out (by omega) (by omega)).mono ?_
  rintro e w4_ ⟨he, hO, hk⟩
  rw [← G4.out] at he
  subst he
  have hb := hk.below (B := w.heap.size) D_g0.out HB.out.size
  replace O_w0 := Lib.hid ((sliceT 5 u8T).okept O_w0.out hk X_w0_g0.out)
  replace E_w0 : Hid (∀ b, F_w0 b → b < w4_.heap.size) := Lib.hid (fun b h => Nat.lt_of_lt_of_le (E_w0.out b h) hk.size)
  replace E_g0 : Hid (∀ b, F_g0 b → b < w4_.heap.size) := Lib.hid (fun b h => Nat.lt_of_lt_of_le (E_g0.out b h) hk.size)
  replace HB := Lib.hid (HB.out.trans hb)
  replace O_g0 := Lib.hid hO
  clear hO hk hb
  -- ('set', 'q', '1')
  -- ('held', 'q', '[]byte', 'g0', 'q')
  go_wp2_with fail
  refine (heldByteS_t (x := Y0) (k0 := 1) ((sliceT 5 u8T).ord O_g0.out) (Nat.le_refl _) (by omega) (by omega)).mono ?_
  rintro e w5_ ⟨he, hb⟩
  rw [← G4.out] at he
  subst he
  replace O_w0 := Lib.hid ((sliceT 5 u8T).onext O_w0.out hb)
  replace E_w0 : Hid (∀ b, F_w0 b → b < w5_.heap.size) := Lib.hid (fun b h => Nat.lt_of_lt_of_le (E_w0.out b h) hb.size)
  replace O_g0 := Lib.hid ((sliceT 5 u8T).onext O_g0.out hb)
  replace E_g0 : Hid (∀ b, F_g0 b → b < w5_.heap.size) := Lib.hid (fun b h => Nat.lt_of_lt_of_le (E_g0.out b h) hb.size)
  replace HB := Lib.hid (HB.out.trans (hb.mono HB.out.size))
  clear hb
  have dd6 : decide (K4 < 0) = false := by simp; omega
  -- ('call', 'impl', 'CoverCell', [('arg', 0)], ['h0'])
  go_wp2_with fail
  refine (impl_cov_t W0.out).mono ?_
  rintro e w6_ ⟨v_h0, F_h0, he, hO_h0, hF_h0, hb⟩
  replace hO_h0 : (sliceT 5 u8T).own F_h0 w6_ [v_h0] (strm (kh a0 [73]) 24) := hO_h0
  rw [← HY0.out] at hO_h0
  subst he
  have D_h0 : Hid (∀ b, F_h0 b → w.heap.size ≤ b) := Lib.hid (fun b h => Nat.le_trans HB.out.size (hF_h0 b h).1)
  replace O_w0 := Lib.hid ((sliceT 5 u8T).onext O_w0.out hb)
  replace E_w0 : Hid (∀ b, F_w0 b → b < w6_.heap.size) := Lib.hid (fun b h => Nat.lt_of_lt_of_le (E_w0.out b h) hb.size)
  replace O_g0 := Lib.hid ((sliceT 5 u8T).onext O_g0.out hb)
  replace E_g0 : Hid (∀ b, F_g0 b → b < w6_.heap.size) := Lib.hid (fun b h => Nat.lt_of_lt_of_le (E_g0.out b h) hb.size)
  replace HB := Lib.hid (HB.out.trans (hb.mono HB.out.size))
  clear hb
  have O_h0 := Lib.hid hO_h0
  have E_h0 : Hid (∀ b, F_h0 b → b < w6_.heap.size) := Lib.hid (fun b h => (hF_h0 b h).2)
  clear hO_h0 hF_h0
  -- ('eq', '[]byte', ('own', 'h0'), ('own', 'w0'))
  go_wp2_with fail
  refine (eqByteS_same_t ((sliceT 5 u8T).ord O_h0.out) ((sliceT 5 u8T).ord O_w0.out) (Nat.le_refl _) (Nat.le_refl _)).mono ?_
  rintro e w7_ ⟨he, hb⟩
  subst he
  replace O_w0 := Lib.hid ((sliceT 5 u8T).onext O_w0.out hb)
  replace E_w0 : Hid (∀ b, F_w0 b → b < w7_.heap.size) := Lib.hid (fun b h => Nat.lt_of_lt_of_le (E_w0.out b h) hb.size)
  replace O_g0 := Lib.hid ((sliceT 5 u8T).onext O_g0.out hb)
  replace E_g0 : Hid (∀ b, F_g0 b → b < w7_.heap.size) := Lib.hid (fun b h => Nat.lt_of_lt_of_le (E_g0.out b h) hb.size)
  replace O_h0 := Lib.hid ((sliceT 5 u8T).onext O_h0.out hb)
  replace E_h0 : Hid (∀ b, F_h0 b → b < w7_.heap.size) := Lib.hid (fun b h => Nat.lt_of_lt_of_le (E_h0.out b h) hb.size)
  replace HB := Lib.hid (HB.out.trans (hb.mono HB.out.size))
  clear hb
  clear O_w0 E_w0 D_w0
  clear X_w0_g0
  clear O_h0 E_h0 D_h0
  -- ('set', 'q', '1')
  -- ('held', 'q', '[]byte', 'g0', 'q')
  go_wp2_with fail
  refine (heldByteS_t (x := Y0) (k0 := 1) ((sliceT 5 u8T).ord O_g0.out) (Nat.le_refl _) (by omega) (by omega)).mono ?_
  rintro e w8_ ⟨he, hb⟩
  rw [← G4.out] at he
  subst he
  replace O_g0 := Lib.hid ((sliceT 5 u8T).onext O_g0.out hb)
  replace E_g0 : Hid (∀ b, F_g0 b → b < w8_.heap.size) := Lib.hid (fun b h => Nat.lt_of_lt_of_le (E_g0.out b h) hb.size)
  replace HB := Lib.hid (HB.out.trans (hb.mono HB.out.size))
  clear hb
  have dd10 : decide (K4 < 0) = false := by simp; omega
  clear O_g0 E_g0 D_g0
  go_wp2_with fail
  go_ret
  exact ⟨rfl, HB.out⟩
  
end Go.Proofs.Ytpjogbfeinpgcaa
