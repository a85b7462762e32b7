/- Checks of writes: shares that pass, seeds that accept; the program's and the document's. No conditions but numbers that a machine holds. -/
import Derived.Test.YtckhmjdhdoomdaaSk3
import Derived.Test.YtckhmjdhdoomdaaSk4
namespace Go.Proofs.Ytckhmjdhdoomdaa
open Go Go.RowKit
set_option linter.unusedVariables false
attribute [local irreducible] kh kid chl

theorem w1018 {x : Int} (h : 0 ≤ x ∧ x ≤ 1018) : (Lit.int .i64 x).wf = true := wf_i64_of (by omega) (by omega)

set_option maxHeartbeats 2000000 in
/-- impl.CheckShares. -/
theorem impl_chk {lim : Nat} {w : World} {v : Value} {zss : List (List Int)} {s : Int} (h : Rd2 lim .i64 w v zss) (hlim : lim ≤ w.heap.size) (hs : (Lit.int .i64 s).wf = true) :
    Calls Try.prog 15 #[v, .int .i64 s] w fun e w' => e = .returned (.bool (chk zss s)) ∧ Below w.heap.size w w' := by
  obtain ⟨q, hq⟩ : ∃ q, q = chk zss s := ⟨_, rfl⟩
  rw [← hq]
  unfold chk at hq
  have HO := Lib.hid (holI_any h hlim)
  have HJ := Lib.hid (impl_jsk h hlim hs)
  obtain ⟨a, cap, rfl, h1, h2, hc⟩ := h.open
  have Hc := Lib.hid hc
  unfold maxLen at h2
  have HL := Lib.hid hlim
  have HFs := Lib.hid (fitS_any (w := w) (a := a) (n := zss.length) (cap := cap) (by omega))
  clear h hc hlim hs
  cases hI : inR (zss.length : Int) 2 4 with
  | false =>
    rw [hI] at HFs hq
    rw [Bool.false_and, Bool.false_and] at hq
    subst hq
    clear hI
    go_enter Try.func15, Try.ntmps15
    go_wp2_with fail
    refine HFs.out.mono ?_
    rintro e w1 ⟨rfl, hw⟩
    subst hw
    go_wp2_with fail
    go_ret
    exact ⟨rfl, Below.refl _ _⟩
  | true =>
    rw [hI] at HFs hq
    clear hI
    cases hS : same zss with
    | false =>
      rw [hS] at HO hq
      rw [Bool.and_false, Bool.false_and] at hq
      subst hq
      clear hS
      go_enter Try.func15, Try.ntmps15
      go_wp2_with fail
      refine HFs.out.mono ?_
      rintro e w1 ⟨rfl, hw⟩
      subst hw
      go_wp2_with fail
      refine HO.out.mono ?_
      rintro e w1 ⟨rfl, hw⟩
      subst hw
      go_wp2_with fail
      go_ret
      exact ⟨rfl, Below.refl _ _⟩
    | true =>
      rw [hS] at HO hq
      rw [Bool.true_and, Bool.true_and] at hq
      have Hq := Lib.hid hq
      clear hS hq
      go_enter Try.func15, Try.ntmps15
      go_wp2_with fail
      refine HFs.out.mono ?_
      rintro e w1 ⟨rfl, hw⟩
      subst hw
      go_wp2_with fail
      refine HO.out.mono ?_
      rintro e w2 ⟨rfl, hw⟩
      subst hw
      go_wp2_with fail
      go_loopw [17] (fun i wr => ∃ j : Nat, i = .int .i64 j ∧ j ≤ zss.length ∧ (∀ i, i < j → fvec (zss.getD i []) = true) ∧ wr = w2) (fun i _ => zss.length - (intOf i).toNat)
      case atStart => exact ⟨0, rfl, Nat.zero_le _, fun i hi => by omega, rfl⟩
      case round =>
        obtain ⟨j, rfl, hj, hs, rfl⟩ := hrel
        have HS := Lib.hid hs
        clear hs
        by_cases hlt : j < zss.length
        · have e1 : decide ((j : Int) < (zss.length : Int)) = true := by simp; omega
          obtain ⟨zs, hzs⟩ : ∃ zs, zss[j]? = some zs := ⟨_, List.getElem?_eq_getElem hlt⟩
          obtain ⟨bb, o, rfl, hbb, hcell⟩ := Hc.out (by omega)
          obtain ⟨u, c1, hr⟩ := hcell wr (Below.refl _ _) j zs hzs
          have HCL := Lib.hid (ifv_any hr)
          obtain ⟨a1, k1, rfl, _⟩ := hr.open
          have HG := Lib.hid (getD_of hzs)
          clear hcell hr hzs
          go_wp2_with fail
          refine HCL.out.mono ?_
          cases hf : fvec zs with
          | false =>
            have HF := Lib.hid hf
            clear hf
            rintro e w1 ⟨rfl, hw⟩
            subst hw
            go_wp2_with fail
            go_ret
            refine ⟨?_, Below.refl _ _⟩
            have e : q = false := by
              have e2 : allF zss = false := by
                rw [Bool.eq_false_iff]
                intro ht
                have := allF_iff.1 ht j hlt
                rw [HG.out, HF.out] at this
                cases this
              rw [Hq.out, e2]; rfl
            rw [e]; rfl
          | true =>
            have HF := Lib.hid hf
            clear hf
            rintro e w1 ⟨rfl, hw⟩
            subst hw
            go_wp2_with fail
            go_roundw
            case rel =>
              refine ⟨j + 1, by simp, hlt, fun i hi => ?_, by first | rfl | trivial⟩
              by_cases hij : i = j
              · subst hij; rw [HG.out]; exact HF.out
              · exact HS.out i (by omega)
            case measure => simp [intOf]; omega
        · have e1 : decide ((j : Int) < (zss.length : Int)) = false := by simp; omega
          have HQ : Hid (acc (tA s zss) (tB s zss) (tM zss) = q) := Lib.hid (by
            have : allF zss = true := allF_iff.2 fun i hi => HS.out i (by omega)
            rw [Hq.out, this, Bool.true_and])
          have HA := Lib.hid (w1018 (tA_bound s zss))
          have HB := Lib.hid (w1018 (tB_bound s zss))
          have HM := Lib.hid (w1018 (tM_bound zss))
          obtain ⟨A, hA⟩ : ∃ A, A = tA s zss := ⟨_, rfl⟩
          obtain ⟨B, hB⟩ : ∃ B, B = tB s zss := ⟨_, rfl⟩
          obtain ⟨M, hM⟩ : ∃ M, M = tM zss := ⟨_, rfl⟩
          rw [← hA, ← hB, ← hM] at HJ HQ
          rw [← hA] at HA
          rw [← hB] at HB
          rw [← hM] at HM
          clear hA hB hM
          go_wp2_with fail
          refine HJ.out.mono ?_
          rintro e w3 ⟨rfl, hb⟩
          have HBl := Lib.hid hb
          clear hb
          go_wp2_with fail
          refine (impl_acc HA.out HB.out HM.out).mono ?_
          rw [HQ.out]
          rintro e w4 ⟨rfl, hw⟩
          subst hw
          go_wp2_with fail
          go_ret
          exact ⟨rfl, HBl.out⟩

theorem ok12_drew {lim : Nat} {w : World} {v : Value} {zs : List Int} (h : Rd lim .i64 w v zs) :
    Calls Try.prog 50 #[v] w fun e w' => e = .returned (.bool (fvec zs)) ∧ ∃ m, w' = w.drewN m :=
  (ok12_any h).mono fun e w' ⟨he, hw'⟩ => ⟨he, 0, hw'⟩

set_option maxHeartbeats 2000000 in
/-- spec.CheckShares. -/
theorem spec_chk {lim : Nat} {w : World} {v : Value} {zss : List (List Int)} {s : Int} (h : Rd2 lim .i64 w v zss) (hlim : lim ≤ w.heap.size) (hs : (Lit.int .i64 s).wf = true) :
    Calls Try.prog 21 #[v, .int .i64 s] w fun e w' => e = .returned (.bool (chk zss s)) ∧ Below w.heap.size w w' := by
  obtain ⟨q, hq⟩ : ∃ q, q = chk zss s := ⟨_, rfl⟩
  rw [← hq]
  unfold chk at hq
  have HRd := Lib.hid h
  obtain ⟨a, cap, rfl, h1, h2, hc⟩ := h.open
  have Hc := Lib.hid hc
  unfold maxLen at h2
  have HL := Lib.hid hlim
  have Hq := Lib.hid hq
  have HSw := Lib.hid hs
  clear h hc hlim hs hq
  go_enter Try.func21, Try.ntmps21
  go_wp2_with fail
  go_loopw [5] (fun i wr => ∃ j : Nat, i = .int .i64 j ∧ j ≤ zss.length ∧ (∀ i, i < j → fvec (zss.getD i []) = true ∧ (zss.getD i []).length = (zss.getD 0 []).length) ∧ ∃ m, wr = w.drewN m) (fun i _ => zss.length - (intOf i).toNat)
  case atStart => exact ⟨0, rfl, Nat.zero_le _, fun i hi => by omega, 0, rfl⟩
  case round =>
    obtain ⟨j, rfl, hj, hs, hB⟩ := hrel
    have HB := Lib.hid (below_drewN (B := w.heap.size) hB)
    have HD := Lib.hid hB
    have HS := Lib.hid hs
    clear hs hB
    by_cases hlt : j < zss.length
    · have e1 : decide ((j : Int) < (zss.length : Int)) = true := by simp; omega
      have hpos : 0 < zss.length := by omega
      have hposi : (0 : Int) < (zss.length : Int) := by omega
      obtain ⟨b, o, rfl, hbl, hcell⟩ := Hc.out hpos
      obtain ⟨z0, hz0⟩ : ∃ zs, zss[0]? = some zs := ⟨_, List.getElem?_eq_getElem hpos⟩
      obtain ⟨u0, c0, hr0⟩ := hcell wr (HB.out.mono HL.out) 0 z0 hz0
      obtain ⟨a0, k0, rfl, _⟩ := hr0.open
      obtain ⟨zs, hzs⟩ : ∃ zs, zss[j]? = some zs := ⟨_, List.getElem?_eq_getElem hlt⟩
      obtain ⟨u, c1, hr⟩ := hcell wr (HB.out.mono HL.out) j zs hzs
      have Hr := Lib.hid hr
      obtain ⟨a1, k1, rfl, _⟩ := hr.open
      have hlz := hr.len
      have hlz0 := hr0.len
      unfold maxLen at hlz hlz0
      have HG : Hid (zss.getD j [] = zs ∧ zss.getD 0 [] = z0) := Lib.hid ⟨by rw [getD_of hzs], by rw [getD_of hz0]⟩
      rw [Nat.add_zero] at c0
      clear hcell hr hr0
      cases hk : fvec zs with
      | false =>
        have HK := Lib.hid hk
        have hjz : Hid (j = 0 → z0 = zs) := Lib.hid (fun e => by rw [e] at hzs; rw [hzs] at hz0; injection hz0 with h; exact h.symm)
        clear hzs hz0
        go_wp2_with fail
        go_quiet ((go_at_call 50
                   exact Calls.quiet_of (ok12_drew (Hr.out.drewN _))))
        go_wp2_with fail
        clear hk
        go_ret
        refine ⟨?_, HB.out.trans (below_drewN ⟨_, rfl⟩)⟩
        have e : q = false := by
          have e2 : allF zss = false := by
            rw [Bool.eq_false_iff]
            intro ht
            have := allF_iff.1 ht j hlt
            rw [HG.out.1, HK.out] at this
            cases this
          rw [Hq.out, e2, Bool.false_and, Bool.and_false]
        rw [e]; rfl
      | true =>
        have HK := Lib.hid hk
        rcases Nat.eq_zero_or_pos j with hj0 | hp
        · subst hj0
          rw [hz0] at hzs
          injection hzs with hzs
          subst hzs
          rw [Nat.add_zero, c0] at c1
          injection c1 with c1
          injection c1 with q1 q2 q3
          subst q1
          subst q3
          clear hz0 q2
          go_wp2_with fail
          go_quiet ((go_at_call 50
                     exact Calls.quiet_of (ok12_drew (Hr.out.drewN _))))
          go_wp2_with fail
          go_roundw
          case rel =>
            refine ⟨0 + 1, by simp, hlt, fun i hi => ?_, drewN_more HD.out _⟩
            obtain rfl : i = 0 := by omega
            exact ⟨by rw [HG.out.2]; exact HK.out, rfl⟩
          case measure => simp [intOf]; omega
        · clear hz0 hzs
          by_cases he : zs.length = z0.length
          · have e2 : ((zs.length : Int) != (z0.length : Int)) = false := by simp [he]
            have HE := Lib.hid he
            clear he
            go_wp2_with fail
            go_quiet ((go_at_call 50
                       exact Calls.quiet_of (ok12_drew (Hr.out.drewN _))))
            go_wp2_with fail
            go_roundw
            case rel =>
              refine ⟨j + 1, by simp, hlt, fun i hi => ?_, drewN_more HD.out _⟩
              by_cases hij : i = j
              · subst hij; rw [HG.out.1, HG.out.2]; exact ⟨HK.out, HE.out⟩
              · exact HS.out i (by omega)
            case measure => simp [intOf]; omega
          · have e2 : ((zs.length : Int) != (z0.length : Int)) = true := by simp; omega
            have HE := Lib.hid he
            clear he
            go_wp2_with fail
            go_quiet ((go_at_call 50
                       exact Calls.quiet_of (ok12_drew (Hr.out.drewN _))))
            go_wp2_with fail
            clear hk
            go_ret
            refine ⟨?_, HB.out.trans (below_drewN ⟨_, rfl⟩)⟩
            have e : q = false := by
              have : same zss = false := decide_eq_false fun h => HE.out (by have := h j hlt; rwa [HG.out.1, HG.out.2] at this)
              rw [Hq.out, this, Bool.and_false, Bool.false_and]
            rw [e]; rfl
    · have e1 : decide ((j : Int) < (zss.length : Int)) = false := by simp; omega
      have HQ : Hid (q = (inR (zss.length : Int) 2 4 && acc (tA s zss) (tB s zss) (tM zss))) := Lib.hid (by
        have t1 : allF zss = true := allF_iff.2 fun i hi => (HS.out i (by omega)).1
        have t2 : same zss = true := decide_eq_true fun i hi => (HS.out i (by omega)).2
        rw [Hq.out, t1, t2, Bool.and_true, Bool.true_and])
      have HJ := Lib.hid (spec_jsk (HRd.out.behind (HB.out.mono HL.out)) (Nat.le_trans HL.out HB.out.size) HSw.out)
      have HA := Lib.hid (w1018 (tA_bound s zss))
      have HBb := Lib.hid (w1018 (tB_bound s zss))
      have HM := Lib.hid (w1018 (tM_bound zss))
      obtain ⟨A, hA⟩ : ∃ A, A = tA s zss := ⟨_, rfl⟩
      obtain ⟨B, hB⟩ : ∃ B, B = tB s zss := ⟨_, rfl⟩
      obtain ⟨M, hM⟩ : ∃ M, M = tM zss := ⟨_, rfl⟩
      rw [← hA, ← hB, ← hM] at HJ HQ
      rw [← hA] at HA
      rw [← hB] at HBb
      rw [← hM] at HM
      have HCt := Lib.hid (fun w1 => count_any (w := w1) (n := (zss.length : Int)) (wf_i64_of (by omega) (by omega)))
      clear hA hB hM
      go_wp2_with fail
      refine HJ.out.mono ?_
      rintro e w3 ⟨rfl, hb⟩
      have HB3 := Lib.hid (HB.out.trans (hb.mono HB.out.size))
      clear hb
      go_wp2_with fail
      refine (HCt.out w3).mono ?_
      cases hI : inR (zss.length : Int) 2 4 with
      | false =>
        rw [hI, Bool.false_and] at HQ
        clear hI
        rintro e w4 ⟨rfl, hw⟩
        subst hw
        go_wp2_with fail
        go_ret
        exact ⟨by rw [HQ.out]; rfl, HB3.out⟩
      | true =>
        rw [hI, Bool.true_and] at HQ
        clear hI
        rintro e w4 ⟨rfl, hw⟩
        subst hw
        go_wp2_with fail
        refine (spec_acc HA.out HBb.out HM.out).mono ?_
        rw [← HQ.out]
        rintro e w5 ⟨rfl, hw⟩
        subst hw
        go_wp2_with fail
        go_ret
        exact ⟨rfl, HB3.out⟩

end Go.Proofs.Ytckhmjdhdoomdaa
