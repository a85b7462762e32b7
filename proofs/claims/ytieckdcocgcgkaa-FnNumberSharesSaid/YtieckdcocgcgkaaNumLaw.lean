/- FnNumberShares: the walk. No conditions. -/
import Derived.Test.YtieckdcocgcgkaaDraw7
import Derived.Test.YtieckdcocgcgkaaBaD
import Derived.Test.YtieckdcocgcgkaaSh4
import Derived.Test.YtieckdcocgcgkaaShP
namespace Go.Proofs.Ytieckdcocgcgkaa
open Go Go.RowKit
set_option linter.unusedVariables false
attribute [local irreducible] kh

set_option maxHeartbeats 4000000 in
set_option maxRecDepth 20000 in
theorem fnNumberShares_walk (a : Option Addr) (len cap : Nat) (zs : List Int) (w : World) (hrow : IsRow .u8 w a len cap zs) :
    Calls Try.prog 4 #[.slice a len cap] w fun e w' => e = .returned (.bool true) ∧ Below w.heap.size w w' := by
  obtain ⟨hr, hl⟩ := row_own hrow
  obtain ⟨s, A, l⟩ : ∃ s, Rd w.heap.size .u8 w (.slice a len cap) s ∧ len = s.length := ⟨zs.take len, hrow.rd, hrow.rd.len_eq⟩
  subst l
  have HR := Lib.hid hr
  have HL := Lib.hid hl
  have hl' : s.length ≤ 9223372036854775807 := by unfold maxLen at hl; omega
  clear hr hrow hl A
  by_cases hbig : 1048576 < s.length
  · have e0 : decide ((1048576 : Int) < (s.length : Int)) = true := by simp; omega
    go_enter Try.func4, Try.ntmps4
    go_wp2_with fail
    refine (big_is a s.length cap _ hl').mono ?_
    rw [e0]
    rintro e w0 ⟨rfl, rfl⟩
    go_wp2_with fail
    go_ret
    exact ⟨rfl, Below.refl _ _⟩
  have e0 : decide ((1048576 : Int) < (s.length : Int)) = false := by simp; omega
  clear hbig
  go_enter Try.func4, Try.ntmps4
  go_wp2_with fail
  refine (big_is a s.length cap _ hl').mono ?_
  rw [e0]
  rintro e w0 ⟨rfl, hw0⟩
  obtain rfl : w = w0 := hw0.symm
  clear hw0
  go_wp2_with fail
  refine (draw_shN w.heap.size a s.length cap zs _ (Nat.le_refl _) HR.out HL.out).mono ?_
  rintro e w1 ⟨x, u, ss, rfl, x0, x1, hU, hsl, hb⟩
  have HU := Lib.hid hU
  have HB := Lib.hid hb
  have hXw : (Lit.int .i64 x).wf = true := wf_i64_of (by omega) (by omega)
  have HXw := Lib.hid hXw
  obtain ⟨au, cu, rfl, _⟩ := HU.out.open
  clear hU hb hXw
  go_wp2_with fail
  refine (impl_shN HU.out.rd (Nat.le_refl _) HXw.out (by omega)).mono ?_
  rintro e w2 ⟨vl, rfl, hO, hb⟩
  obtain ⟨R, hR⟩ : ∃ R, R = shN x ss := ⟨_, rfl⟩
  have hRl : R.length ≤ 4 := by rw [hR]; exact shN_len x ss
  have HRb : Hid (∀ j, j < R.length → 0 ≤ R.getD j 0 ∧ R.getD j 0 ≤ 1018) := Lib.hid (fun j hj => by rw [hR] at hj ⊢; exact shN_bound hj)
  rw [← hR] at hO
  have HRe := Lib.hid hR
  have HO := Lib.hid (hO.mono HB.out.size)
  replace HB := Lib.hid (HB.out.trans (hb.mono HB.out.size))
  obtain ⟨al, cl, rfl, hg⟩ := HO.out.open
  have Hg := Lib.hid hg
  clear hO hb hR hg HU
  by_cases hin : 1 ≤ ss.length ∧ ss.length ≤ 3
  · have e1 : decide ((ss.length : Int) < 1) = false := by simp; omega
    have e2 : decide ((3 : Int) < (ss.length : Int)) = false := by simp; omega
    have HE : Hid (R.length = ss.length + 1) := Lib.hid (by rw [HRe.out]; exact shN_len_yes hin)
    have HJ : Hid (jn R = x % 1019) := Lib.hid (by rw [HRe.out]; exact shN_join hin)
    go_wp2_with fail
    go_loopw [6] (fun i wr => ∃ j : Nat, i = .int .i64 j ∧ j ≤ R.length ∧ wr = w2) (fun i _ => R.length - (intOf i).toNat)
    case atStart => exact ⟨0, rfl, Nat.zero_le _, rfl⟩
    case round =>
      obtain ⟨j, rfl, hj, rfl⟩ := hrel
      by_cases hlt : j < R.length
      · have e3 : decide ((j : Int) < (R.length : Int)) = true := by simp; omega
        obtain ⟨g, rfl⟩ := Hg.out (by omega)
        have c1 := HO.out.cellAt rfl hlt
        have hbz := HRb.out j hlt
        obtain ⟨z, hz⟩ : ∃ z, z = R.getD j 0 := ⟨_, rfl⟩
        rw [← hz] at c1 hbz
        have e4 : decide (z < 0) = false := decide_eq_false (by omega)
        have e5 : decide ((1019 : Int) ≤ z) = false := decide_eq_false (by omega)
        clear hz
        go_wp2_with fail
        go_roundw
        case rel => exact ⟨j + 1, by simp, hlt, by first | rfl | trivial⟩
        case measure => simp [intOf]; omega
      · have e3 : decide ((j : Int) < (R.length : Int)) = false := by simp; omega
        have e4 : ((R.length : Int) == (ss.length : Int) + 1) = true := by have := HE.out; simp; omega
        have hb2 := jn_bound R
        have HM : Hid (modV x 1019 = jn R) := Lib.hid (by rw [HJ.out, modV_1019])
        obtain ⟨q, hq⟩ : ∃ q, q = jn R := ⟨_, rfl⟩
        rw [← hq] at HM hb2
        have HQ := Lib.hid hq
        clear hq
        go_wp2_with fail
        refine (impl_jn HO.out.rd).mono ?_
        rw [← HQ.out]
        rintro e w3 ⟨rfl, hw3⟩
        subst hw3
        go_wp2_with fail
        refine (spec_mod x 1019 _ (by omega) (by omega)).mono ?_
        rw [HM.out]
        rintro e w3 ⟨rfl, hw3⟩
        subst hw3
        go_wp2_with fail
        go_ret
        exact ⟨rfl, HB.out⟩
  · have HE : Hid (R = []) := Lib.hid (by rw [HRe.out]; exact shN_no hin)
    have h0 : R.length = 0 := by rw [HE.out]; rfl
    have e3 : ((R.length : Int) == 0) = true := by simp [HE.out]
    by_cases h1 : 1 ≤ ss.length
    · have e1 : decide ((ss.length : Int) < 1) = false := by simp; omega
      have e2 : decide ((3 : Int) < (ss.length : Int)) = true := by simp; omega
      go_wp2_with fail
      go_ret
      exact ⟨rfl, HB.out⟩
    · have e1 : decide ((ss.length : Int) < 1) = true := by simp; omega
      go_wp2_with fail
      go_ret
      exact ⟨rfl, HB.out⟩

end Go.Proofs.Ytieckdcocgcgkaa
