/- FnMailboxes: the walk. Conditions: the package variable errors.errorType holds the handle of the type 'error', as the row lists it. -/
import Derived.Test.YtbimihljaalllaaDoorMbP
import Derived.Test.YtbimihljaalllaaDoorMbX
import Derived.Test.YtbimihljaalllaaDoorMb2
import Derived.Test.YtbimihljaalllaaDoorMb5
import Derived.Test.YtbimihljaalllaaDoorMb6
import Derived.Test.YtbimihljaalllaaDoorBa4
import Derived.Test.YtbimihljaalllaaDoorBaD
namespace Go.Proofs.YtbimihljaalllaaDoor
open Go Go.RowKit
set_option linter.unusedVariables false
attribute [local irreducible] kh kid

theorem wrapU8s {x : Int} (h : 0 ≤ x ∧ x ≤ 255) : IntKind.u8.wrap x = x := by
  have : IntKind.u8.wrap x = x % 256 := by unfold IntKind.wrap; rfl
  rw [this]
  omega
theorem lits4m {B : Nat} {w : World} {x y z u : Int} (k : IntKind) (e : TypeId) (hB : B ≤ w.heap.size) (hx : (Lit.int k x).wf = true) (hy : (Lit.int k y).wf = true) (hz : (Lit.int k z).wf = true) (hu : (Lit.int k u).wf = true) : Own e k B (w.alloc (.cells #[.int k x, .int k y, .int k z, .int k u] e)) (.slice (some ⟨w.heap.size, 0, none⟩) 4 4) [x, y, z, u] :=
  ⟨by intro t ht; simp at ht; rcases ht with rfl | rfl | rfl | rfl; exact hx; exact hy; exact hz; exact hu, by simp; omega, World.ownsRow_lit w #[.int k x, .int k y, .int k z, .int k u] 4 hB (by unfold maxLen; omega) rfl⟩

set_option maxHeartbeats 8000000 in
set_option maxRecDepth 20000 in
theorem fnMailboxes_walk (a : Option Addr) (len cap : Nat) (zs : List Int) (w : World) (hrow : IsRow .u8 w a len cap zs) (hL : laidMetH Tryd.prog Rows.fnMailboxesRow.laid w) :
    Calls Tryd.prog 6 #[.slice a len cap] w fun e w' => e = .returned (.bool true) ∧ Below w.heap.size w w' := by
  have HL := Lib.hid (gv_of_laid hL)
  obtain ⟨hr, hl⟩ := row_own hrow
  obtain ⟨s, A, l⟩ : ∃ s, Rd w.heap.size .u8 w (.slice a len cap) s ∧ len = s.length := ⟨zs.take len, hrow.rd, hrow.rd.len_eq⟩
  subst l
  have HA := Lib.hid A
  have HA0 := Lib.hid A
  have hl' : s.length ≤ 9223372036854775807 := by unfold maxLen at hl; omega
  have HB := Lib.hid (Below.refl w.heap.size w)
  clear hr hrow hl A hL
  by_cases hbig : 1048576 < s.length
  · have e0 : decide ((1048576 : Int) < (s.length : Int)) = true := by simp; omega
    go_enter Tryd.func6, Tryd.ntmps6
    go_wp2_with fail
    refine (big_is a s.length cap _ hl').mono ?_
    rw [e0]
    rintro e w0 ⟨rfl, rfl⟩
    go_wp2_with fail
    go_ret
    exact ⟨rfl, Below.refl _ _⟩
  have e0 : decide ((1048576 : Int) < (s.length : Int)) = false := by simp; omega
  have HS := Lib.hid (show s.length ≤ 1048576 by omega)
  clear hbig
  go_enter Tryd.func6, Tryd.ntmps6
  go_wp2_with fail
  refine (big_is a s.length cap _ hl').mono ?_
  rw [e0]
  rintro e w0 ⟨rfl, hw⟩
  obtain rfl : w = w0 := hw.symm
  go_wp2_with fail
  refine (at_any HA.out 0 (by omega) HS.out).mono ?_
  obtain ⟨x0, hx0⟩ : ∃ x, x = atv s 0 := ⟨_, rfl⟩
  rw [← hx0]
  rintro e w1 ⟨⟨rfl, x00, x01⟩, hw⟩
  obtain rfl : w = w1 := hw.symm
  obtain ⟨key, hkey⟩ : ∃ x, x = 1 + x0 * 7 := ⟨_, rfl⟩
  have hkr : 1 + x0 * 7 = key := hkey.symm
  have hkb : 1 ≤ key ∧ key ≤ 1786 := by omega
  have HAp : Hid (dkey key 0 ≠ dkey key 1) := Lib.hid (by rw [hkey]; exact dk_apart x00 x01)
  have HKv : Hid (1 ≤ key ∧ key ≤ 2147483646) := Lib.hid (by omega)
  have HKW : Hid ((Lit.int .i64 key).wf = true) := Lib.hid (wf_i64_of (by omega) (by omega))
  have HW0 : Hid ((Lit.int .i64 0).wf = true) := Lib.hid (by decide)
  obtain ⟨c1, z1, hb⟩ := two_newr w (.cells #[.int .i64 key, .int .i64 0, .int .i64 0] 44) (.cells #[.int .i64 key, .int .i64 0, .int .i64 0] 44)
  clear hx0 hw hkey
  go_wp2_with fail
  obtain ⟨w2, hW⟩ : ∃ W, W = (w.alloc (.cells #[.int .i64 key, .int .i64 0, .int .i64 0] 44)).alloc (.cells #[.int .i64 key, .int .i64 0, .int .i64 0] 44) := ⟨_, rfl⟩
  rw [← hW] at c1 z1 hb ⊢
  have K4 := Lib.hid c1
  have K5 := Lib.hid z1
  replace HB := Lib.hid hb
  clear c1 z1 hb hW HA
  go_loopw [6] (fun i wr => ∃ j : Nat, i = .int .i64 j ∧ j ≤ 5 ∧ wr.heap[w.heap.size]? = some (.cells #[.int .i64 key, .int .i64 j, .int .i64 0] 44) ∧ wr.heap[w.heap.size + 1]? = some (.cells #[.int .i64 key, .int .i64 0, .int .i64 j] 44) ∧ Below w.heap.size w wr) (fun i _ => 5 - (intOf i).toNat)
  case atStart => exact ⟨0, rfl, by omega, K4.out, K5.out, HB.out⟩
  case round =>
    obtain ⟨j, rfl, hj, hk4, hk5, hB⟩ := hrel
    replace K4 := Lib.hid hk4
    replace K5 := Lib.hid hk5
    have HA := Lib.hid (HA0.out.behind hB)
    replace HB := Lib.hid hB
    clear hk4 hk5 hB
    by_cases hlt : j < 5
    · have e1 : decide ((j : Int) < 5) = true := by simp; omega
      have hji : (j : Int) < 5 := by omega
      have hat := at_any HA.out (j + 1) (by omega) HS.out
      obtain ⟨x1, hx1⟩ : ∃ x, x = atv s (j + 1) := ⟨_, rfl⟩
      rw [← hx1, show (((j + 1 : Nat)) : Int) = (j : Int) + 1 by push_cast; rfl] at hat
      have hcj : IntKind.u8.wrap (j : Int) = (j : Int) := wrapU8s (by omega)
      go_wp2_with fail
      refine hat.mono ?_
      clear hat
      rintro e w3 ⟨⟨rfl, x10, x11⟩, hw⟩
      obtain rfl : wr = w3 := hw.symm
      have hcx : IntKind.u8.wrap x1 = x1 := wrapU8s ⟨x10, x11⟩
      have HJW : Hid ((Lit.int .i64 (j : Int)).wf = true) := Lib.hid (wf_i64_of (by omega) (by omega))
      have HJW1 : Hid ((Lit.int .i64 ((j : Int) + 1)).wf = true) := Lib.hid (wf_i64_of (by omega) (by omega))
      have OB := Lib.hid (Own.lits2 (B := wr.heap.size) (w := wr) (x := (j : Int)) (y := x1) .u8 5 (Nat.le_refl _) (wf_u8_of (by omega) (by omega)) (wf_u8_of x10 x11))
      have HJ : Hid (j ≤ 1000) := Lib.hid (by omega)
      have HU : Hid (U8s [(j : Int), x1]) := Lib.hid OB.out.u8s
      have HBl : Hid ([(j : Int), x1].length ≤ 14) := Lib.hid (by simp)
      obtain ⟨cl, hcl⟩ : ∃ l, l = sealL (dkey key 0) (j : Int) 1 [(j : Int), x1] := ⟨_, rfl⟩
      have HCl := Lib.hid hcl
      have HCL : Hid (cl.length = 24) := Lib.hid (by rw [hcl]; exact sealL_len24 (sok_mb HJ.out HBl.out 0))
      have HT1 := Lib.hid (sd_mb HKv.out HJ.out HBl.out)
      have HT2 := Lib.hid (sdS_yes HT1.out)
      have HT3 := Lib.hid (sdL_yes HT1.out)
      have HR1 := Lib.hid (rv_mb HKv.out HJ.out HBl.out HU.out)
      have HR3a := Lib.hid (ocB_seal (sok_mb (k := key) HJ.out HBl.out 0) HU.out)
      rw [← hcl] at HT3 HR1 HR3a
      have HR2 := Lib.hid (rvR_yes HR1.out)
      have HR3 := Lib.hid ((rvL_yes HR1.out).trans HR3a.out)
      have HG1 : Hid (rvok key 0 ((j : Int) + 1) 0 cl = false) := Lib.hid (by rw [hcl]; exact rv_again HKv.out HJ.out HBl.out)
      have HG2 := Lib.hid (rvR_no HG1.out)
      have HG3 := Lib.hid (rvL_no HG1.out)
      have HF1 : Hid (rvok key 0 (j : Int) 1 cl = false) := Lib.hid (by rw [hcl]; exact rv_wrong HAp.out HJ.out HBl.out)
      have HF2 := Lib.hid (rvR_no HF1.out)
      have HF3 := Lib.hid (rvL_no HF1.out)
      clear hx1 hw hcl x10 x11
      have hb := (Below.refl wr.heap.size wr).alloc (Nat.le_refl _) (.cells #[.int .u8 (j : Int), .int .u8 x1] 5)
      obtain ⟨l1a, l1b, l1c, l1d⟩ := ptc ((heap_alloc_old wr (.cells #[.int .u8 (j : Int), .int .u8 x1] 5) (lt_of_block K4.out)).trans K4.out)
      go_wp2_with fail
      clear l1a l1b l1c l1d
      obtain ⟨w3, hW⟩ : ∃ W, W = wr.alloc (.cells #[.int .u8 (j : Int), .int .u8 x1] 5) := ⟨_, rfl⟩
      rw [← hW] at hb OB ⊢
      clear hW hcj hcx
      replace HA := Lib.hid (HA.out.behind (hb.mono HB.out.size))
      replace K4 := Lib.hid ((hb.block _ (lt_of_block K4.out)).trans K4.out)
      replace K5 := Lib.hid ((hb.block _ (lt_of_block K5.out)).trans K5.out)
      replace HB := Lib.hid (HB.out.trans (hb.mono HB.out.size))
      clear hb
      have hse := impl_sd (b := [(j : Int), x1]) (d := 0) OB.out.rd (Nat.le_refl _) HKW.out HJW.out HW0.out HW0.out
      rw [HT1.out, HT2.out, HT3.out] at hse
      refine hse.mono ?_
      clear hse
      rintro e w4 ⟨v6, rfl, h6, hb⟩
      obtain ⟨a6, c6, hv6, _⟩ := h6.open
      rw [HCL.out] at hv6
      subst hv6
      replace HA := Lib.hid (HA.out.behind (hb.mono HB.out.size))
      replace K4 := Lib.hid ((hb.block _ (lt_of_block K4.out)).trans K4.out)
      replace K5 := Lib.hid ((hb.block _ (lt_of_block K5.out)).trans K5.out)
      replace OB := Lib.hid (OB.out.next hb)
      replace HB := Lib.hid (HB.out.trans (hb.mono HB.out.size))
      clear hb
      have HQX : Hid (w.heap.size + 1 < w4.heap.size) := Lib.hid (lt_of_block K5.out)
      have OC := Lib.hid h6
      clear h6
      have hb := (Below.refl w4.heap.size w4).alloc (Nat.le_refl _) (.cells #[.int .i64 key, .int .i64 ((j : Int) + 1), .int .i64 0] 44)
      have KX := Lib.hid (heap_alloc_new w4 (.cells #[.int .i64 key, .int .i64 ((j : Int) + 1), .int .i64 0] 44))
      obtain ⟨l2a, l2b, l2c, l2d⟩ := ptc ((heap_alloc_old w4 (.cells #[.int .i64 key, .int .i64 ((j : Int) + 1), .int .i64 0] 44) (lt_of_block K5.out)).trans K5.out)
      go_wp2_with fail
      clear l2a l2b l2c l2d
      obtain ⟨w5, hW⟩ : ∃ W, W = w4.alloc (.cells #[.int .i64 key, .int .i64 ((j : Int) + 1), .int .i64 0] 44) := ⟨_, rfl⟩
      rw [← hW] at hb KX ⊢
      clear hW
      replace HA := Lib.hid (HA.out.behind (hb.mono HB.out.size))
      replace K4 := Lib.hid ((hb.block _ (lt_of_block K4.out)).trans K4.out)
      replace K5 := Lib.hid ((hb.block _ (lt_of_block K5.out)).trans K5.out)
      replace OB := Lib.hid (OB.out.next hb)
      replace OC := Lib.hid (OC.out.next hb)
      replace HB := Lib.hid (HB.out.trans (hb.mono HB.out.size))
      clear hb
      have hrv := impl_rv (c := cl) (d := 0) OC.out.rd (Nat.le_refl _) HKW.out HW0.out HJW.out HW0.out (HL.out.next HB.out)
      rw [HR1.out, HR2.out, HR3.out] at hrv
      refine hrv.mono ?_
      clear hrv
      rintro e w6 ⟨v8, rfl, h8, hb⟩
      obtain ⟨a8, c8, hv8, _⟩ := h8.open
      rw [show [(j : Int), x1].length = 2 from rfl] at hv8
      subst hv8
      replace HA := Lib.hid (HA.out.behind (hb.mono HB.out.size))
      replace K4 := Lib.hid ((hb.block _ (lt_of_block K4.out)).trans K4.out)
      replace K5 := Lib.hid ((hb.block _ (lt_of_block K5.out)).trans K5.out)
      replace OB := Lib.hid (OB.out.next hb)
      replace OC := Lib.hid (OC.out.next hb)
      replace KX := Lib.hid ((hb.block _ (lt_of_block KX.out)).trans KX.out)
      replace HB := Lib.hid (HB.out.trans (hb.mono HB.out.size))
      clear hb
      have HQY : Hid (w.heap.size + 1 < w6.heap.size) := Lib.hid (lt_of_block K5.out)
      have OG := Lib.hid h8
      clear h8
      have hb := (Below.refl w6.heap.size w6).alloc (Nat.le_refl _) (.cells #[.int .i64 key, .int .i64 0, .int .i64 ((j : Int) + 1)] 44)
      have KY := Lib.hid (heap_alloc_new w6 (.cells #[.int .i64 key, .int .i64 0, .int .i64 ((j : Int) + 1)] 44))
      go_wp2_with fail
      obtain ⟨w7, hW⟩ : ∃ W, W = w6.alloc (.cells #[.int .i64 key, .int .i64 0, .int .i64 ((j : Int) + 1)] 44) := ⟨_, rfl⟩
      rw [← hW] at hb KY ⊢
      clear hW
      replace HA := Lib.hid (HA.out.behind (hb.mono HB.out.size))
      replace K4 := Lib.hid ((hb.block _ (lt_of_block K4.out)).trans K4.out)
      replace K5 := Lib.hid ((hb.block _ (lt_of_block K5.out)).trans K5.out)
      replace OB := Lib.hid (OB.out.next hb)
      replace OC := Lib.hid (OC.out.next hb)
      replace KX := Lib.hid ((hb.block _ (lt_of_block KX.out)).trans KX.out)
      replace OG := Lib.hid (OG.out.next hb)
      replace HB := Lib.hid (HB.out.trans (hb.mono HB.out.size))
      clear hb
      refine (sameBytes_same OG.out.rd OB.out.rd (Nat.le_refl _) (Nat.le_refl _)).mono ?_
      rintro e w8 ⟨rfl, hb⟩
      replace HA := Lib.hid (HA.out.behind (hb.mono HB.out.size))
      replace K4 := Lib.hid ((hb.block _ (lt_of_block K4.out)).trans K4.out)
      replace K5 := Lib.hid ((hb.block _ (lt_of_block K5.out)).trans K5.out)
      replace OB := Lib.hid (OB.out.next hb)
      replace OC := Lib.hid (OC.out.next hb)
      replace KX := Lib.hid ((hb.block _ (lt_of_block KX.out)).trans KX.out)
      replace OG := Lib.hid (OG.out.next hb)
      replace KY := Lib.hid ((hb.block _ (lt_of_block KY.out)).trans KY.out)
      replace HB := Lib.hid (HB.out.trans (hb.mono HB.out.size))
      clear hb
      clear OG OB
      obtain ⟨l3a, l3b, l3c, l3d⟩ := ptc KY.out
      go_wp2_with fail
      clear l3a l3b l3c l3d
      have hrv := impl_rv (c := cl) (d := 0) OC.out.rd (Nat.le_refl _) HKW.out HW0.out HJW1.out HW0.out (HL.out.next HB.out)
      rw [HG1.out, HG2.out, HG3.out] at hrv
      refine hrv.mono ?_
      clear hrv
      rintro e w9 ⟨v9, rfl, h9, hb⟩
      clear h9
      replace HA := Lib.hid (HA.out.behind (hb.mono HB.out.size))
      replace K4 := Lib.hid ((hb.block _ (lt_of_block K4.out)).trans K4.out)
      replace K5 := Lib.hid ((hb.block _ (lt_of_block K5.out)).trans K5.out)
      replace OC := Lib.hid (OC.out.next hb)
      replace KX := Lib.hid ((hb.block _ (lt_of_block KX.out)).trans KX.out)
      replace KY := Lib.hid ((hb.block _ (lt_of_block KY.out)).trans KY.out)
      replace HB := Lib.hid (HB.out.trans (hb.mono HB.out.size))
      clear hb
      have hb := (Below.refl w9.heap.size w9).alloc (Nat.le_refl _) (.cells #[.int .i64 key, .int .i64 0, .int .i64 ((j : Int) + 1)] 44)
      have KZ := Lib.hid (heap_alloc_new w9 (.cells #[.int .i64 key, .int .i64 0, .int .i64 ((j : Int) + 1)] 44))
      obtain ⟨l4a, l4b, l4c, l4d⟩ := ptc ((heap_alloc_old w9 (.cells #[.int .i64 key, .int .i64 0, .int .i64 ((j : Int) + 1)] 44) (lt_of_block K5.out)).trans K5.out)
      go_wp2_with fail
      clear l4a l4b l4c l4d
      obtain ⟨w10, hW⟩ : ∃ W, W = w9.alloc (.cells #[.int .i64 key, .int .i64 0, .int .i64 ((j : Int) + 1)] 44) := ⟨_, rfl⟩
      rw [← hW] at hb KZ ⊢
      clear hW
      replace HA := Lib.hid (HA.out.behind (hb.mono HB.out.size))
      replace K4 := Lib.hid ((hb.block _ (lt_of_block K4.out)).trans K4.out)
      replace K5 := Lib.hid ((hb.block _ (lt_of_block K5.out)).trans K5.out)
      replace OC := Lib.hid (OC.out.next hb)
      replace KX := Lib.hid ((hb.block _ (lt_of_block KX.out)).trans KX.out)
      replace KY := Lib.hid ((hb.block _ (lt_of_block KY.out)).trans KY.out)
      replace HB := Lib.hid (HB.out.trans (hb.mono HB.out.size))
      clear hb
      have hrv := impl_rv (c := cl) (d := 1) OC.out.rd (Nat.le_refl _) HKW.out HW0.out HJW.out (by decide) (HL.out.next HB.out)
      rw [HF1.out, HF2.out, HF3.out] at hrv
      refine hrv.mono ?_
      clear hrv
      rintro e w11 ⟨va, rfl, ha, hb⟩
      clear ha
      replace HA := Lib.hid (HA.out.behind (hb.mono HB.out.size))
      replace K4 := Lib.hid ((hb.block _ (lt_of_block K4.out)).trans K4.out)
      replace K5 := Lib.hid ((hb.block _ (lt_of_block K5.out)).trans K5.out)
      replace OC := Lib.hid (OC.out.next hb)
      replace KX := Lib.hid ((hb.block _ (lt_of_block KX.out)).trans KX.out)
      replace KY := Lib.hid ((hb.block _ (lt_of_block KY.out)).trans KY.out)
      replace KZ := Lib.hid ((hb.block _ (lt_of_block KZ.out)).trans KZ.out)
      replace HB := Lib.hid (HB.out.trans (hb.mono HB.out.size))
      clear hb
      have b12 := HB.out.alloc HB.out.size (.cells #[.int .i64 key, .int .i64 0, .int .i64 (j : Int)] 44)
      have x4 := (heap_alloc_old w11 (.cells #[.int .i64 key, .int .i64 0, .int .i64 (j : Int)] 44) (lt_of_block K4.out)).trans K4.out
      have x5 := (heap_alloc_old w11 (.cells #[.int .i64 key, .int .i64 0, .int .i64 (j : Int)] 44) (lt_of_block K5.out)).trans K5.out
      have xX := (heap_alloc_old w11 (.cells #[.int .i64 key, .int .i64 0, .int .i64 (j : Int)] 44) (lt_of_block KX.out)).trans KX.out
      have xY := (heap_alloc_old w11 (.cells #[.int .i64 key, .int .i64 0, .int .i64 (j : Int)] 44) (lt_of_block KY.out)).trans KY.out
      have q5 : w4.heap.size ≠ w.heap.size := by have := HQX.out; omega
      have q6 : w6.heap.size ≠ w.heap.size := by have := HQY.out; omega
      obtain ⟨y4, g4⟩ := pst3 x4 (.int .i64 key) (.int .i64 ((j : Int) + 1)) (.int .i64 0)
      have y5 := (g4.block _ (lt_of_block x5) (by intro hk; have := Option.some.inj hk; omega)).trans x5
      have yY := (g4.block _ (lt_of_block xY) (by intro hk; have := Option.some.inj hk; exact q6 this)).trans xY
      obtain ⟨z5, g5⟩ := pst3 y5 (.int .i64 key) (.int .i64 0) (.int .i64 ((j : Int) + 1))
      have z4 := (g5.block _ (lt_of_block y4) (by intro hk; have := Option.some.inj hk; omega)).trans y4
      have b13 := b12.grown g4 b12.size (fun k hk => by injection hk with hk; omega)
      have b14 := b13.grown g5 b13.size (fun k hk => by injection hk with hk; omega)
      have Z4 := Lib.hid z4
      have Z5 := Lib.hid z5
      have B14 := Lib.hid b14
      obtain ⟨ra0, ra1, ra2, rf0, rf1, rf2⟩ := ptc x4
      obtain ⟨rx0, rx1, rx2, _⟩ := ptc xX
      obtain ⟨rb0, rb1, rb2, rg0, rg1, rg2⟩ := ptc y5
      obtain ⟨ry0, ry1, ry2, _⟩ := ptc yY
      clear b12 x4 x5 xX xY y4 g4 y5 yY z5 g5 z4 b13 b14
      go_wp2_with fail
      go_roundw
      case rel => exact ⟨j + 1, by simp, hlt, by push_cast; exact Z4.out, by push_cast; exact Z5.out, B14.out⟩
      case measure => simp [intOf]; omega
    · have e1 : decide ((j : Int) < 5) = false := by simp; omega
      obtain rfl : j = 5 := by omega
      have k4 : wr.heap[w.heap.size]? = some (.cells #[.int .i64 key, .int .i64 5, .int .i64 0] 44) := K4.out
      have k5 : wr.heap[w.heap.size + 1]? = some (.cells #[.int .i64 key, .int .i64 0, .int .i64 5] 44) := K5.out
      replace K4 := Lib.hid k4
      replace K5 := Lib.hid k5
      clear k4 k5
      go_wp2_with fail
      refine (at_any HA.out 7 (by omega) HS.out).mono ?_
      obtain ⟨y7, hy7⟩ : ∃ x, x = atv s 7 := ⟨_, rfl⟩
      rw [← hy7]
      have Hy7 := Lib.hid hy7
      clear hy7
      rintro e wt ⟨⟨rfl, y70, y71⟩, hw⟩
      obtain rfl : wr = wt := hw.symm
      clear hw
      go_wp2_with fail
      refine (at_any HA.out 8 (by omega) HS.out).mono ?_
      obtain ⟨y8, hy8⟩ : ∃ x, x = atv s 8 := ⟨_, rfl⟩
      rw [← hy8]
      have Hy8 := Lib.hid hy8
      clear hy8
      rintro e wt ⟨⟨rfl, y80, y81⟩, hw⟩
      obtain rfl : wr = wt := hw.symm
      clear hw
      obtain ⟨m8, hm8⟩ : ∃ m, m = y8 % 40 := ⟨_, rfl⟩
      have hmr : y8 % 40 = m8 := hm8.symm
      have hmb : 0 ≤ m8 ∧ m8 ≤ 39 := by omega
      have H7W : Hid ((Lit.int .i64 y7).wf = true) := Lib.hid (wf_i64_of (by omega) (by omega))
      have H8W : Hid ((Lit.int .i64 (1 + m8)).wf = true) := Lib.hid (wf_i64_of (by omega) (by omega))
      obtain ⟨rr, hrr⟩ : ∃ r, r = mrow key y7 1 (1 + m8) := ⟨_, rfl⟩
      have hrb : 0 ≤ rr ∧ rr < 1 + m8 := by rw [hrr]; exact mrow_in (rowq_iff.2 ⟨by omega, by omega⟩)
      have HRr := Lib.hid hrr
      clear hm8 hrr
      go_wp2_with fail
      refine (impl_mrow HKW.out H7W.out (by decide) H8W.out).mono ?_
      rw [← HRr.out]
      rintro e w3 ⟨rfl, hb⟩
      replace HA := Lib.hid (HA.out.behind (hb.mono HB.out.size))
      replace K4 := Lib.hid ((hb.block _ (lt_of_block K4.out)).trans K4.out)
      replace K5 := Lib.hid ((hb.block _ (lt_of_block K5.out)).trans K5.out)
      replace HB := Lib.hid (HB.out.trans (hb.mono HB.out.size))
      clear hb
      have HK1 : Hid ((Lit.int .i64 (key + 1)).wf = true) := Lib.hid (wf_i64_of (by omega) (by omega))
      have OK := Lib.hid (Own.lits2 (B := w3.heap.size) (w := w3) (x := key) (y := key + 1) .i64 3 (Nat.le_refl _) HKW.out HK1.out)
      have hb := (Below.refl w3.heap.size w3).alloc (Nat.le_refl _) (.cells #[.int .i64 key, .int .i64 (key + 1)] 3)
      go_wp2_with fail
      obtain ⟨w4, hW⟩ : ∃ W, W = w3.alloc (.cells #[.int .i64 key, .int .i64 (key + 1)] 3) := ⟨_, rfl⟩
      rw [← hW] at hb OK ⊢
      clear hW
      replace HA := Lib.hid (HA.out.behind (hb.mono HB.out.size))
      replace K4 := Lib.hid ((hb.block _ (lt_of_block K4.out)).trans K4.out)
      replace K5 := Lib.hid ((hb.block _ (lt_of_block K5.out)).trans K5.out)
      replace HB := Lib.hid (HB.out.trans (hb.mono HB.out.size))
      clear hb
      refine (at_any HA.out 9 (by omega) HS.out).mono ?_
      obtain ⟨y9, hy9⟩ : ∃ x, x = atv s 9 := ⟨_, rfl⟩
      rw [← hy9]
      have Hy9 := Lib.hid hy9
      clear hy9
      rintro e wt ⟨⟨rfl, y90, y91⟩, hw⟩
      obtain rfl : w4 = wt := hw.symm
      clear hw
      have H9W : Hid ((Lit.int .i64 y9).wf = true) := Lib.hid (wf_i64_of (by omega) (by omega))
      obtain ⟨ff, hff⟩ : ∃ f, f = fr [key, key + 1] y9 16 := ⟨_, rfl⟩
      have HFF := Lib.hid (fr_two (x := key) (y := key + 1) (r := y9) (frq_iff.2 ⟨by omega, by omega⟩))
      rw [← hff] at HFF
      have HFe := Lib.hid hff
      have HOk := Lib.hid OK.out.rd
      clear hff OK
      go_wp2_with fail
      refine (impl_fr (ks := [key, key + 1]) HOk.out (Nat.le_refl _) H9W.out (by decide)).mono ?_
      rw [← HFe.out]
      rintro e w5 ⟨rfl, hb⟩
      clear HOk
      replace HA := Lib.hid (HA.out.behind (hb.mono HB.out.size))
      replace K4 := Lib.hid ((hb.block _ (lt_of_block K4.out)).trans K4.out)
      replace K5 := Lib.hid ((hb.block _ (lt_of_block K5.out)).trans K5.out)
      replace HB := Lib.hid (HB.out.trans (hb.mono HB.out.size))
      clear hb
      have HV : Hid (okM key 0 5 = true) := Lib.hid (okM_ok HKv.out (by omega) (by omega))
      obtain ⟨l5a, l5b, l5c, l5d⟩ := ptc K4.out
      obtain ⟨l6a, l6b, l6c, l6d⟩ := ptc K5.out
      go_wp2_with fail
      clear l5a l5b l5c l5d l6a l6b l6c l6d
      refine (impl_vm HKW.out HW0.out (by decide)).mono ?_
      rw [HV.out]
      rintro e w6 ⟨rfl, hb⟩
      replace HA := Lib.hid (HA.out.behind (hb.mono HB.out.size))
      replace K4 := Lib.hid ((hb.block _ (lt_of_block K4.out)).trans K4.out)
      replace K5 := Lib.hid ((hb.block _ (lt_of_block K5.out)).trans K5.out)
      replace HB := Lib.hid (HB.out.trans (hb.mono HB.out.size))
      clear hb
      go_wp2_with fail
      refine (at_any HA.out 8 (by omega) HS.out).mono ?_
      rw [← Hy8.out]
      rintro e wt ⟨⟨rfl, _, _⟩, hw⟩
      obtain rfl : w6 = wt := hw.symm
      clear hw
      by_cases hf : ff = -1
      · have ef : (ff == -1) = true := beq_iff_eq.2 hf
        clear hf HFF
        have OL := Lib.hid (lits4m (B := w6.heap.size) (w := w6) (x := 3) (y := 1) (z := 3) (u := 3) .i64 3 (Nat.le_refl _) (by decide) (by decide) (by decide) (by decide))
        have hb := (Below.refl w6.heap.size w6).alloc (Nat.le_refl _) (.cells #[.int .i64 3, .int .i64 1, .int .i64 3, .int .i64 3] 3)
        go_wp2_with fail
        obtain ⟨wl, hW⟩ : ∃ W, W = w6.alloc (.cells #[.int .i64 3, .int .i64 1, .int .i64 3, .int .i64 3] 3) := ⟨_, rfl⟩
        rw [← hW] at hb OL ⊢
        clear hW
        replace HB := Lib.hid (HB.out.trans (hb.mono HB.out.size))
        have HOl := Lib.hid OL.out.rd
        clear hb OL
        refine (impl_col (zs := [3, 1, 3, 3]) HOl.out (Nat.le_refl _)).mono ?_
        rw [col_lit]
        rintro e wm ⟨he, hb⟩
        rw [show ((2 : Nat) : Int) = 2 from rfl] at he
        subst he
        replace HB := Lib.hid (HB.out.trans (hb.mono HB.out.size))
        clear hb HOl
        obtain ⟨d0, hd0⟩ : ∃ d, d = dkey key 0 := ⟨_, rfl⟩
        obtain ⟨d1, hd1⟩ : ∃ d, d = dkey key 1 := ⟨_, rfl⟩
        have HD0 := Lib.hid hd0
        have HD1 := Lib.hid hd1
        have hdd : (d0 != d1) = true := bne_iff_ne.2 (by rw [hd0, hd1]; exact HAp.out)
        clear hd0 hd1
        go_wp2_with fail
        refine (impl_dk HKW.out (by decide)).mono ?_
        rw [← HD0.out]
        rintro e wn ⟨rfl, hb⟩
        replace HB := Lib.hid (HB.out.trans (hb.mono HB.out.size))
        clear hb
        go_wp2_with fail
        refine (impl_dk HKW.out (by decide)).mono ?_
        rw [← HD1.out]
        rintro e wo ⟨rfl, hb⟩
        replace HB := Lib.hid (HB.out.trans (hb.mono HB.out.size))
        clear hb
        go_wp2_with fail
        go_ret
        exact ⟨rfl, HB.out⟩
      · have ef : (ff == -1) = false := beq_eq_false_iff_ne.2 hf
        obtain ⟨f1, f2, f3⟩ := HFF.out.resolve_left hf
        have HFW : Hid ((Lit.int .i64 ff).wf = true) := Lib.hid (wf_i64_of (by omega) (by omega))
        obtain ⟨pp, hpp⟩ : ∃ p, p = mrow key ff 0 16 := ⟨_, rfl⟩
        obtain ⟨qq, hqq⟩ : ∃ p, p = mrow (key + 1) ff 0 16 := ⟨_, rfl⟩
        have HP := Lib.hid hpp
        have HQ := Lib.hid hqq
        have hpq : (pp != qq) = true := bne_iff_ne.2 (by rw [hpp, hqq]; exact f3)
        clear hf hpp hqq f3 HFF
        go_wp2_with fail
        refine (at_any HA.out 9 (by omega) HS.out).mono ?_
        rw [← Hy9.out]
        rintro e wt ⟨⟨rfl, _, _⟩, hw⟩
        obtain rfl : w6 = wt := hw.symm
        clear hw
        go_wp2_with fail
        refine (impl_mrow HKW.out HFW.out (by decide) (by decide)).mono ?_
        rw [← HP.out]
        rintro e w7 ⟨rfl, hb⟩
        replace HA := Lib.hid (HA.out.behind (hb.mono HB.out.size))
        replace K4 := Lib.hid ((hb.block _ (lt_of_block K4.out)).trans K4.out)
        replace K5 := Lib.hid ((hb.block _ (lt_of_block K5.out)).trans K5.out)
        replace HB := Lib.hid (HB.out.trans (hb.mono HB.out.size))
        clear hb
        go_wp2_with fail
        refine (impl_mrow HK1.out HFW.out (by decide) (by decide)).mono ?_
        rw [← HQ.out]
        rintro e w8 ⟨rfl, hb⟩
        replace HA := Lib.hid (HA.out.behind (hb.mono HB.out.size))
        replace K4 := Lib.hid ((hb.block _ (lt_of_block K4.out)).trans K4.out)
        replace K5 := Lib.hid ((hb.block _ (lt_of_block K5.out)).trans K5.out)
        replace HB := Lib.hid (HB.out.trans (hb.mono HB.out.size))
        clear hb
        have OL := Lib.hid (lits4m (B := w8.heap.size) (w := w8) (x := 3) (y := 1) (z := 3) (u := 3) .i64 3 (Nat.le_refl _) (by decide) (by decide) (by decide) (by decide))
        have hb := (Below.refl w8.heap.size w8).alloc (Nat.le_refl _) (.cells #[.int .i64 3, .int .i64 1, .int .i64 3, .int .i64 3] 3)
        go_wp2_with fail
        obtain ⟨wl, hW⟩ : ∃ W, W = w8.alloc (.cells #[.int .i64 3, .int .i64 1, .int .i64 3, .int .i64 3] 3) := ⟨_, rfl⟩
        rw [← hW] at hb OL ⊢
        clear hW
        replace HB := Lib.hid (HB.out.trans (hb.mono HB.out.size))
        have HOl := Lib.hid OL.out.rd
        clear hb OL
        refine (impl_col (zs := [3, 1, 3, 3]) HOl.out (Nat.le_refl _)).mono ?_
        rw [col_lit]
        rintro e wm ⟨he, hb⟩
        rw [show ((2 : Nat) : Int) = 2 from rfl] at he
        subst he
        replace HB := Lib.hid (HB.out.trans (hb.mono HB.out.size))
        clear hb HOl
        obtain ⟨d0, hd0⟩ : ∃ d, d = dkey key 0 := ⟨_, rfl⟩
        obtain ⟨d1, hd1⟩ : ∃ d, d = dkey key 1 := ⟨_, rfl⟩
        have HD0 := Lib.hid hd0
        have HD1 := Lib.hid hd1
        have hdd : (d0 != d1) = true := bne_iff_ne.2 (by rw [hd0, hd1]; exact HAp.out)
        clear hd0 hd1
        go_wp2_with fail
        refine (impl_dk HKW.out (by decide)).mono ?_
        rw [← HD0.out]
        rintro e wn ⟨rfl, hb⟩
        replace HB := Lib.hid (HB.out.trans (hb.mono HB.out.size))
        clear hb
        go_wp2_with fail
        refine (impl_dk HKW.out (by decide)).mono ?_
        rw [← HD1.out]
        rintro e wo ⟨rfl, hb⟩
        replace HB := Lib.hid (HB.out.trans (hb.mono HB.out.size))
        clear hb
        go_wp2_with fail
        go_ret
        exact ⟨rfl, HB.out⟩

end Go.Proofs.YtbimihljaalllaaDoor
