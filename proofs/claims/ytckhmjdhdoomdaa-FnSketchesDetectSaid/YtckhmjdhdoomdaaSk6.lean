/- Checks of writes: how many seeds accept; the program's and the document's. No conditions but numbers that a machine holds. -/
import Derived.Test.YtckhmjdhdoomdaaSk5
import Derived.Test.YtckhmjdhdoomdaaXor
namespace Go.Proofs.Ytckhmjdhdoomdaa
open Go Go.RowKit
set_option linter.unusedVariables false
attribute [local irreducible] kh kid chl

theorem cnA_yes {v : List Int} {f : Int} {j : Nat} (h : acc (kA (wrap64 (f + (j : Int))) v) (kB (wrap64 (f + (j : Int))) v) (kM v) = true) : cnA v f (j + 1) = cnA v f j + 1 := by rw [cnA, if_pos h]
theorem cnA_no {v : List Int} {f : Int} {j : Nat} (h : acc (kA (wrap64 (f + (j : Int))) v) (kB (wrap64 (f + (j : Int))) v) (kM v) = false) : cnA v f (j + 1) = cnA v f j := by rw [cnA, if_neg (by rw [h]; exact Bool.false_ne_true)]; rfl

set_option maxHeartbeats 2000000 in
/-- impl.CountAccepting. -/
theorem impl_cn {lim : Nat} {w : World} {v : Value} {zs : List Int} {f c : Int} (h : Rd lim .i64 w v zs) (hlim : lim ≤ w.heap.size) (hf : (Lit.int .i64 f).wf = true) (hc : (Lit.int .i64 c).wf = true) :
    Calls Try.prog 20 #[v, .int .i64 f, .int .i64 c] w fun e w' => e = .returned (.int .i64 (cntA zs f c)) ∧ Below w.heap.size w w' := by
  obtain ⟨T, hT⟩ : ∃ T, T = mn c 200 := ⟨_, rfl⟩
  obtain ⟨n, hn⟩ : ∃ n, n = tries c := ⟨_, rfl⟩
  have hTn : ∀ j : Nat, ((j : Int) < T ↔ j < n) := fun j => by
    rw [hT, hn]; unfold mn tries
    split <;> split <;> omega
  have hn200 : n ≤ 200 := by rw [hn]; exact tries_le c
  have hQ : cntA zs f c = (cnA zs f n : Int) := by rw [hn]; rfl
  have HQ := Lib.hid hQ
  have HT : Hid (mn c 200 = T) := Lib.hid hT.symm
  have HTn := Lib.hid hTn
  have HV := Lib.hid h
  have HL := Lib.hid hlim
  have Hf := Lib.hid hf
  have Hc := Lib.hid hc
  clear h hlim hf hc hT hn hTn hQ
  go_enter Try.func20, Try.ntmps20
  go_wp2_with fail
  refine (impl_mn _ _ _ Hc.out (wf_i64_of (by omega) (by omega))).mono ?_
  rw [HT.out]
  rintro e w0 ⟨rfl, hb0⟩
  have HB0 := Lib.hid hb0
  clear hb0
  go_wp2_with fail
  go_loopw [7, 11] (fun x i wr => ∃ j : Nat, i = .int .i64 j ∧ x = .int .i64 ((cnA zs f j : Nat) : Int) ∧ j ≤ n ∧ Below w.heap.size w wr) (fun _ i _ => n - (intOf i).toNat)
  case atStart => exact ⟨0, rfl, rfl, Nat.zero_le _, HB0.out⟩
  case round =>
    obtain ⟨j, rfl, rfl, hj, hB⟩ := hrel
    have HB := Lib.hid hB
    clear hB
    by_cases hlt : j < n
    · have e1 : decide ((j : Int) < T) = true := decide_eq_true ((HTn.out j).2 hlt)
      have hcl := cnA_le zs f j
      have HCL := Lib.hid (impl_sk (HV.out.behind (HB.out.mono HL.out)) (Nat.le_trans HL.out HB.out.size) (wrap64_wf (f + (j : Int))))
      have HA := Lib.hid (w1018 (kA_bound (wrap64 (f + (j : Int))) zs))
      have HBb := Lib.hid (w1018 (kB_bound (wrap64 (f + (j : Int))) zs))
      have HM := Lib.hid (w1018 (kM_bound zs))
      have HY := Lib.hid (cnA_yes (v := zs) (f := f) (j := j))
      have HN := Lib.hid (cnA_no (v := zs) (f := f) (j := j))
      obtain ⟨A, hA⟩ : ∃ A, A = kA (wrap64 (f + (j : Int))) zs := ⟨_, rfl⟩
      obtain ⟨B, hB⟩ : ∃ B, B = kB (wrap64 (f + (j : Int))) zs := ⟨_, rfl⟩
      obtain ⟨M, hM⟩ : ∃ M, M = kM zs := ⟨_, rfl⟩
      rw [← hA, ← hB, ← hM] at HCL HY HN
      rw [← hA] at HA
      rw [← hB] at HBb
      rw [← hM] at HM
      obtain ⟨k, hk⟩ : ∃ k, k = cnA zs f j := ⟨_, rfl⟩
      rw [← hk] at hcl HY HN
      rw [← hk]
      clear hA hB hM hk
      go_wp2_with fail
      refine HCL.out.mono ?_
      rintro e w3 ⟨rfl, hb⟩
      have HB3 := Lib.hid (HB.out.trans (hb.mono HB.out.size))
      clear hb
      go_wp2_with fail
      refine (impl_acc HA.out HBb.out HM.out).mono ?_
      cases hq : acc A B M with
      | false =>
        have HE := Lib.hid (HN.out hq)
        clear hq
        rintro e w4 ⟨rfl, hw⟩
        subst hw
        go_wp2_with fail
        go_roundw
        case rel => exact ⟨j + 1, by simp, by rw [HE.out], hlt, HB3.out⟩
        case measure => simp [intOf]; omega
      | true =>
        have HE := Lib.hid (HY.out hq)
        clear hq
        rintro e w4 ⟨rfl, hw⟩
        subst hw
        go_wp2_with fail
        go_roundw
        case rel => exact ⟨j + 1, by simp, by rw [HE.out]; simp, hlt, HB3.out⟩
        case measure => simp [intOf]; omega
    · have e1 : decide ((j : Int) < T) = false := decide_eq_false (fun h => hlt ((HTn.out j).1 h))
      obtain rfl : j = n := by omega
      go_wp2_with fail
      go_ret
      exact ⟨by rw [HQ.out]; rfl, HB.out⟩

set_option maxHeartbeats 2000000 in
/-- spec.CountAccepting. -/
theorem spec_cn {lim : Nat} {w : World} {v : Value} {zs : List Int} {f c : Int} (h : Rd lim .i64 w v zs) (hlim : lim ≤ w.heap.size) (hf : (Lit.int .i64 f).wf = true) (hc : (Lit.int .i64 c).wf = true) :
    Calls Try.prog 22 #[v, .int .i64 f, .int .i64 c] w fun e w' => e = .returned (.int .i64 (cntA zs f c)) ∧ Below w.heap.size w w' := by
  obtain ⟨n, hn⟩ : ∃ n, n = tries c := ⟨_, rfl⟩
  have hTn : ∀ j : Nat, (j < n ↔ (j : Int) < c ∧ j < 200) := fun j => by
    rw [hn]; unfold tries
    split <;> omega
  have hn200 : n ≤ 200 := by rw [hn]; exact tries_le c
  have hQ : cntA zs f c = (cnA zs f n : Int) := by rw [hn]; rfl
  have HQ := Lib.hid hQ
  have HTn := Lib.hid hTn
  have HV := Lib.hid h
  have HL := Lib.hid hlim
  have Hf := Lib.hid hf
  have Hc := Lib.hid hc
  clear h hlim hf hc hn hTn hQ
  go_enter Try.func22, Try.ntmps22
  go_wp2_with fail
  go_loopw [7, 8] (fun x i wr => ∃ j : Nat, i = .int .i64 j ∧ x = .int .i64 ((cnA zs f j : Nat) : Int) ∧ j ≤ n ∧ Below w.heap.size w wr) (fun _ i _ => n - (intOf i).toNat)
  case atStart => exact ⟨0, rfl, rfl, Nat.zero_le _, Below.refl _ _⟩
  case round =>
    obtain ⟨j, rfl, rfl, hj, hB⟩ := hrel
    have HB := Lib.hid hB
    clear hB
    by_cases hlt : j < n
    · have hjc := (HTn.out j).1 hlt
      have e1 : decide ((j : Int) < c) = true := decide_eq_true hjc.1
      have e2 : decide ((j : Int) < 200) = true := decide_eq_true (by omega)
      have hcl := cnA_le zs f j
      have HCL := Lib.hid (spec_sk (HV.out.behind (HB.out.mono HL.out)) (Nat.le_trans HL.out HB.out.size) (wrap64_wf (f + (j : Int))))
      have HA := Lib.hid (w1018 (kA_bound (wrap64 (f + (j : Int))) zs))
      have HBb := Lib.hid (w1018 (kB_bound (wrap64 (f + (j : Int))) zs))
      have HM := Lib.hid (w1018 (kM_bound zs))
      have HY := Lib.hid (cnA_yes (v := zs) (f := f) (j := j))
      have HN := Lib.hid (cnA_no (v := zs) (f := f) (j := j))
      obtain ⟨A, hA⟩ : ∃ A, A = kA (wrap64 (f + (j : Int))) zs := ⟨_, rfl⟩
      obtain ⟨B, hB⟩ : ∃ B, B = kB (wrap64 (f + (j : Int))) zs := ⟨_, rfl⟩
      obtain ⟨M, hM⟩ : ∃ M, M = kM zs := ⟨_, rfl⟩
      rw [← hA, ← hB, ← hM] at HCL HY HN
      rw [← hA] at HA
      rw [← hB] at HBb
      rw [← hM] at HM
      obtain ⟨k, hk⟩ : ∃ k, k = cnA zs f j := ⟨_, rfl⟩
      rw [← hk] at hcl HY HN
      rw [← hk]
      clear hA hB hM hk hjc
      go_wp2_with fail
      refine HCL.out.mono ?_
      rintro e w3 ⟨rfl, hb⟩
      have HB3 := Lib.hid (HB.out.trans (hb.mono HB.out.size))
      clear hb
      go_wp2_with fail
      refine (spec_acc HA.out HBb.out HM.out).mono ?_
      cases hq : acc A B M with
      | false =>
        have HE := Lib.hid (HN.out hq)
        clear hq
        rintro e w4 ⟨rfl, hw⟩
        subst hw
        go_wp2_with fail
        go_roundw
        case rel => exact ⟨j + 1, by simp, by rw [HE.out], hlt, HB3.out⟩
        case measure => simp [intOf]; omega
      | true =>
        have HE := Lib.hid (HY.out hq)
        clear hq
        rintro e w4 ⟨rfl, hw⟩
        subst hw
        go_wp2_with fail
        go_roundw
        case rel => exact ⟨j + 1, by simp, by rw [HE.out]; simp, hlt, HB3.out⟩
        case measure => simp [intOf]; omega
    · obtain rfl : j = n := by omega
      have hno : ¬ ((j : Int) < c ∧ j < 200) := fun h => hlt ((HTn.out j).2 h)
      by_cases hjc : (j : Int) < c
      · have e1 : decide ((j : Int) < c) = true := decide_eq_true hjc
        have e2 : decide ((j : Int) < 200) = false := decide_eq_false (by omega)
        clear hno
        go_wp2_with fail
        go_ret
        exact ⟨by rw [HQ.out]; rfl, HB.out⟩
      · have e1 : decide ((j : Int) < c) = false := decide_eq_false hjc
        clear hno
        go_wp2_with fail
        go_ret
        exact ⟨by rw [HQ.out]; rfl, HB.out⟩

end Go.Proofs.Ytckhmjdhdoomdaa
