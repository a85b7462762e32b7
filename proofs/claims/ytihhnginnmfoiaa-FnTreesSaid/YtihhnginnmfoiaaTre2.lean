/- Trees of seeds: descend, LeafSeed, the program's and the document's. No conditions but numbers that a machine holds. -/
import Derived.Test.YtihhnginnmfoiaaTre1
namespace Go.Proofs.Ytihhnginnmfoiaa
open Go Go.RowKit
set_option linter.unusedVariables false
attribute [local irreducible] kh

theorem nat_wf {n : Nat} (h : n ≤ 1000) : (Lit.int .i64 (n : Int)).wf = true := wf_i64_of (by omega) (by omega)

set_option maxHeartbeats 1000000 in
/-- impl.descend. -/
theorem impl_desc {w : World} {s : Int} (L I : Nat) (hs : (Lit.int .i64 s).wf = true) (hI : I ≤ 63) (hL : L ≤ 6) :
    Calls Try.prog 36 #[.int .i64 s, .int .i64 (L : Int), .int .i64 (I : Int)] w fun e w' => e = .returned (.int .i64 (dsc s L I)) ∧ Below w.heap.size w w' := by
  obtain ⟨q, hq⟩ : ∃ q, q = dsc s L I := ⟨_, rfl⟩
  rw [← hq]
  have HQ := Lib.hid hq
  have HS := Lib.hid hs
  clear hq hs
  go_enter Try.func36, Try.ntmps36
  go_wp2_with fail
  go_loopw [0, 7] (fun v i wr => ∃ (b : Nat) (x u : Int), i = .int .i64 x ∧ v = .int .i64 u ∧ x + 1 = b ∧ b ≤ 6 ∧ (Lit.int .i64 u).wf = true ∧ dsc u b I = q ∧ Below w.heap.size w wr) (fun _ i _ => (intOf i + 1).toNat)
  case atStart => exact ⟨L, _, s, rfl, rfl, by omega, hL, HS.out, HQ.out.symm, Below.refl _ _⟩
  case round =>
    obtain ⟨b, x, u, rfl, rfl, hx, hb, hu, hd, hB⟩ := hrel
    have HU := Lib.hid hu
    have HD := Lib.hid hd
    have HB := Lib.hid hB
    clear hu hd hB
    cases b with
    | zero =>
      obtain rfl : x = -1 := by omega
      have HD' : Hid (u = q) := Lib.hid HD.out
      clear hx HD
      go_wp2_with fail
      go_ret
      exact ⟨rint HD'.out, HB.out⟩
    | succ b =>
      obtain rfl : x = (b : Int) := by omega
      have e1 : decide ((0 : Int) ≤ (b : Int)) = true := by simp
      have hb' : b ≤ 6 := by omega
      have HD' : Hid (dsc (kid u (bt I b)) b I = q) := Lib.hid HD.out
      clear hx HD
      go_wp2_with fail
      refine (impl_side _ I b hI hb').mono ?_
      rintro e w1 ⟨rfl, hw1⟩
      subst hw1
      go_wp2_with fail
      refine (impl_cs HU.out (bt_wf I b)).mono ?_
      rintro e w2 ⟨rfl, hb2⟩
      have HB2 := Lib.hid (HB.out.trans (hb2.mono HB.out.size))
      have HU2 := Lib.hid (kid_wf u (bt I b))
      clear hb2
      go_wp2_with fail
      go_roundw
      case rel => exact ⟨b, (b : Int) - 1, kid u (bt I b), by simp, rfl, by omega, hb', HU2.out, HD'.out, HB2.out⟩
      case measure => simp [intOf]

set_option maxHeartbeats 1000000 in
/-- impl.LeafSeed. -/
theorem impl_ls {w : World} {r d i : Int} (hr : (Lit.int .i64 r).wf = true) (hd : (Lit.int .i64 d).wf = true) (hi : (Lit.int .i64 i).wf = true) :
    Calls Try.prog 16 #[.int .i64 r, .int .i64 d, .int .i64 i] w fun e w' => e = .returned (.int .i64 (lseed r d i)) ∧ Below w.heap.size w w' := by
  have HR := Lib.hid hr
  have HD := Lib.hid hd
  have HI := Lib.hid hi
  clear hr hd hi
  by_cases h : leafOk d i = true
  · have HT := Lib.hid h
    obtain ⟨D, I, rfl, rfl, h1, h2⟩ := leafOk_iff.1 h
    have HE : Hid (lseed r (D : Int) (I : Int) = dsc r D I) := Lib.hid (by unfold lseed; rw [if_pos h, Int.toNat_natCast, Int.toNat_natCast])
    have h3 := (pow_le6 h1).2
    have h4 : I ≤ 63 := by omega
    clear h h2 h3
    go_enter Try.func16, Try.ntmps16
    go_wp2_with fail
    refine (impl_leaf _ HD.out HI.out).mono ?_
    rw [HT.out]
    rintro e w1 ⟨rfl, hw1⟩
    subst hw1
    go_wp2_with fail
    refine (impl_desc D I HR.out h4 h1).mono ?_
    rintro e w2 ⟨rfl, hb⟩
    have HB := Lib.hid hb
    clear hb
    go_wp2_with fail
    go_ret
    exact ⟨rint HE.out.symm, HB.out⟩
  · have hf : leafOk d i = false := by simpa using h
    have HT := Lib.hid hf
    have HE : Hid (lseed r d i = 0) := Lib.hid (by unfold lseed; rw [if_neg h])
    clear h hf
    go_enter Try.func16, Try.ntmps16
    go_wp2_with fail
    refine (impl_leaf _ HD.out HI.out).mono ?_
    rw [HT.out]
    rintro e w1 ⟨rfl, hw1⟩
    subst hw1
    go_wp2_with fail
    go_ret
    exact ⟨rint HE.out.symm, Below.refl _ _⟩

set_option maxHeartbeats 1000000 in
/-- spec.LeafSeed. -/
theorem spec_ls {w : World} {r d i : Int} (hr : (Lit.int .i64 r).wf = true) (hd : (Lit.int .i64 d).wf = true) (hi : (Lit.int .i64 i).wf = true) :
    Calls Try.prog 23 #[.int .i64 r, .int .i64 d, .int .i64 i] w fun e w' => e = .returned (.int .i64 (lseed r d i)) ∧ Below w.heap.size w w' := by
  have HR := Lib.hid hr
  have HD := Lib.hid hd
  have HI := Lib.hid hi
  clear hr hd hi
  by_cases h : leafOk d i = true
  · have HT := Lib.hid h
    obtain ⟨D, I, rfl, rfl, h1, h2⟩ := leafOk_iff.1 h
    have he : lseed r (D : Int) (I : Int) = dsc r D I := by unfold lseed; rw [if_pos h, Int.toNat_natCast, Int.toNat_natCast]
    obtain ⟨q, hq⟩ : ∃ q, q = lseed r (D : Int) (I : Int) := ⟨_, rfl⟩
    rw [← hq] at he ⊢
    have HE := Lib.hid he
    have h3 := (pow_le6 h1).2
    have h4 : I ≤ 63 := by omega
    clear h h2 h3 he hq
    go_enter Try.func23, Try.ntmps23
    go_wp2_with fail
    refine (spec_leaf _ HD.out HI.out).mono ?_
    rw [HT.out]
    rintro e w1 ⟨rfl, hw1⟩
    subst hw1
    go_wp2_with fail
    go_loopw [7, 8] (fun v i wr => ∃ (b : Nat) (x u : Int), i = .int .i64 x ∧ v = .int .i64 u ∧ x + 1 = b ∧ b ≤ 6 ∧ (Lit.int .i64 u).wf = true ∧ dsc u b I = q ∧ Below w1.heap.size w1 wr) (fun _ i _ => (intOf i + 1).toNat)
    case atStart => exact ⟨D, _, r, rfl, rfl, by omega, h1, HR.out, HE.out.symm, Below.refl _ _⟩
    case round =>
      obtain ⟨b, x, u, rfl, rfl, hx, hb, hu, hd, hB⟩ := hrel
      have HU := Lib.hid hu
      have HD := Lib.hid hd
      have HB := Lib.hid hB
      clear hu hd hB
      cases b with
      | zero =>
        obtain rfl : x = -1 := by omega
        have HD' : Hid (u = q) := Lib.hid HD.out
        clear hx HD
        go_wp2_with fail
        go_ret
        exact ⟨rint HD'.out, HB.out⟩
      | succ b =>
        obtain rfl : x = (b : Int) := by omega
        have e1 : decide ((0 : Int) ≤ (b : Int)) = true := by simp
        have hb' : b ≤ 6 := by omega
        have HD' : Hid (dsc (kid u (bt I b)) b I = q) := Lib.hid HD.out
        have HV : Hid (bits .and .i64 ((I : Int) / 2 ^ b) 1 = bt I b) := Lib.hid (by rw [i64_and1, bt_of_mod]; simp)
        clear hx HD
        go_wp2_with fail
        rw [HV.out]
        refine (spec_cs HU.out (bt_wf I b)).mono ?_
        rintro e w2 ⟨rfl, hb2⟩
        have HB2 := Lib.hid (HB.out.trans (hb2.mono HB.out.size))
        have HU2 := Lib.hid (kid_wf u (bt I b))
        clear hb2
        go_wp2_with fail
        go_roundw
        case rel => exact ⟨b, (b : Int) - 1, kid u (bt I b), by simp, rfl, by omega, hb', HU2.out, HD'.out, HB2.out⟩
        case measure => simp [intOf]
  · have hf : leafOk d i = false := by simpa using h
    have HT := Lib.hid hf
    have HE : Hid (lseed r d i = 0) := Lib.hid (by unfold lseed; rw [if_neg h])
    clear h hf
    go_enter Try.func23, Try.ntmps23
    go_wp2_with fail
    refine (spec_leaf _ HD.out HI.out).mono ?_
    rw [HT.out]
    rintro e w1 ⟨rfl, hw1⟩
    subst hw1
    go_wp2_with fail
    go_ret
    exact ⟨rint HE.out.symm, Below.refl _ _⟩

end Go.Proofs.Ytihhnginnmfoiaa
