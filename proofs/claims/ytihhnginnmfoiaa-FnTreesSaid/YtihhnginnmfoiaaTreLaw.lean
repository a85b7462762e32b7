/- FnTrees: the walk. No conditions. -/
import Derived.Test.YtihhnginnmfoiaaTreL
import Derived.Test.YtihhnginnmfoiaaLawAt
import Derived.Test.YtihhnginnmfoiaaSameByte
import Derived.Test.YtihhnginnmfoiaaQuietC
import Derived.Test.YtihhnginnmfoiaaRdStep
import Derived.Deep.RegionHeld3
import Derived.RegionTactic
import Derived.Deep.RegionWith
import Derived.Deep.QuietTactic
import Derived.BigQuiet
namespace Go.Proofs.Ytihhnginnmfoiaa
open Go Go.RowKit
set_option linter.unusedVariables false
attribute [local irreducible] kh

theorem bel_dn' {B : Nat} {a w : World} (h : Below B a w) (n : Nat) : Below B a (w.drewN n) := h.trans ⟨rfl, rfl, rfl, Nat.le_refl _, fun _ _ => rfl⟩

/-- The worlds in which the two lists stand. -/
def TreeW (w : World) (gl N cl : Nat) (ap : Option Addr) (D cp : Nat) (ls ps : List Int) (w' : World) : Prop :=
  Below w.heap.size w w' ∧ Own 3 .i64 w.heap.size w' (.slice (some ⟨gl, 0, none⟩) N cl) ls ∧ Own 3 .i64 w.heap.size w' (.slice ap D cp) ps

set_option maxHeartbeats 4000000 in
set_option maxRecDepth 20000 in
theorem trees_walk (a : Option Addr) (len cap : Nat) (zs : List Int) (w : World) (hrow : IsRow .u8 w a len cap zs) :
    Calls Try.prog 3 #[.slice a len cap] w fun e w' => e = .returned (.bool true) ∧ Below w.heap.size w w' := by
  obtain ⟨s, A, l⟩ : ∃ s, Rd w.heap.size .u8 w (.slice a len cap) s ∧ len = s.length := ⟨zs.take len, hrow.rd, hrow.rd.len_eq⟩
  subst l
  have HA := Lib.hid A
  have hl' : s.length ≤ 9223372036854775807 := by have := A.len; unfold maxLen at this; omega
  clear hrow A
  by_cases hbig : 1048576 < s.length
  · have e0 : decide ((1048576 : Int) < (s.length : Int)) = true := by simp; omega
    go_enter Try.func3, Try.ntmps3
    go_wp2_with fail
    refine (big_is a s.length cap _ hl').mono ?_
    rw [e0]
    rintro e w0 ⟨rfl, rfl⟩
    go_wp2_with fail
    go_ret
    exact ⟨rfl, Below.refl _ _⟩
  have e0 : decide ((1048576 : Int) < (s.length : Int)) = false := by simp; omega
  have hs : s.length ≤ 1048576 := by omega
  have HAb := Lib.hid (fun i => atv_bound (s := s) (fun i hi => HA.out.wf hi) i)
  obtain ⟨t0, ht0⟩ : ∃ t, t = atv s 0 := ⟨_, rfl⟩
  have hA0 := HAb.out 0
  rw [← ht0] at hA0
  have HT0 := Lib.hid ht0
  obtain ⟨t1, ht1⟩ : ∃ t, t = atv s 1 := ⟨_, rfl⟩
  have hA1 := HAb.out 1
  rw [← ht1] at hA1
  have HT1 := Lib.hid ht1
  obtain ⟨t2, ht2⟩ : ∃ t, t = atv s 2 := ⟨_, rfl⟩
  have hA2 := HAb.out 2
  rw [← ht2] at hA2
  have HT2 := Lib.hid ht2
  obtain ⟨t3, ht3⟩ : ∃ t, t = atv s 3 := ⟨_, rfl⟩
  have hA3 := HAb.out 3
  rw [← ht3] at hA3
  have HT3 := Lib.hid ht3
  obtain ⟨D, hD⟩ : ∃ D : Nat, 1 + t0 % 5 = (D : Int) := ⟨(1 + t0 % 5).toNat, by omega⟩
  have hD0 : 1 ≤ D := by omega
  have hD5 : D ≤ 5 := by omega
  obtain ⟨N, hN⟩ : ∃ N, N = 2 ^ D := ⟨_, rfl⟩
  have hN6 := pow_le6 (show D ≤ 6 by omega)
  rw [← hN] at hN6
  have ep := pow_nat hN
  have HN := Lib.hid hN
  obtain ⟨I, hI⟩ : ∃ I : Nat, t1 % (N : Int) = (I : Int) := ⟨(t1 % (N : Int)).toNat, by have := Int.emod_nonneg t1 (show (N : Int) ≠ 0 by omega); omega⟩
  have hIN : I < N := by have := Int.emod_lt_of_pos t1 (show (0 : Int) < (N : Int) by omega); omega
  obtain ⟨R, hR⟩ : ∃ R : Nat, t2 * 256 + t3 = (R : Int) := ⟨(t2 * 256 + t3).toNat, by omega⟩
  have hR6 : R < 65536 := by omega
  have HI2 : Hid (I < 2 ^ D) := Lib.hid (by rw [← hN]; exact hIN)
  have HInj := Lib.hid (roots_inj hR6 hD5)
  have HDw : Hid ((Lit.int .i64 (D : Int)).wf = true) := Lib.hid (nat_wf (by omega))
  have HIw : Hid ((Lit.int .i64 (I : Int)).wf = true) := Lib.hid (nat_wf (by omega))
  have HRw : Hid ((Lit.int .i64 (R : Int)).wf = true) := Lib.hid (wf_i64_of (by omega) (by omega))
  have HLl : Hid ((lseeds (R : Int) (D : Int)).length = N) := Lib.hid (by rw [leaf_len (by omega), hN])
  have HLg : Hid (∀ j, j < N → (lseeds (R : Int) (D : Int)).getD j 0 = dsc R D j) := Lib.hid (fun j hj => leaf_get (by omega) (by omega))
  have HPl : Hid ((pun (R : Int) (D : Int) (I : Int)).length = D) := Lib.hid (pun_length (by omega) HI2.out)
  have hD2 : 1 + t0.tmod 5 = (D : Int) := by rw [Int.tmod_eq_emod_of_nonneg hA0.1]; exact hD
  have hI2 : t1.tmod (N : Int) = (I : Int) := by rw [Int.tmod_eq_emod_of_nonneg hA1.1]; exact hI
  have hNz : ¬ N = 0 := by omega
  have hN0 : ((N : Int) == 0) = false := by simp; omega
  have hNw : IntKind.i64.wrap (N : Int) = (N : Int) := by rw [IntKind.wrap_i64]; omega
  clear hbig ht0 ht1 ht2 ht3 HAb hN
  have HZw : Hid ((Lit.int .i64 (0 : Int)).wf = true) := Lib.hid (by decide)
  have H9w : Hid ((Lit.int .i64 (9 : Int)).wf = true) := Lib.hid (by decide)
  have H5w : Hid ((Lit.int .i64 (5 : Int)).wf = true) := Lib.hid (by decide)
  have HS9 := Lib.hid (strm_len9 (R : Int))
  have HS5 := Lib.hid (strm_take (R : Int))
  have HL0 := Lib.hid (lseed_root (R : Int))
  have HC := Lib.hid (ctl_01 (R : Int) 0)
  have HPy : Hid (∀ O : Nat, O < N → I ≠ O → pok (pun (R : Int) (D : Int) (I : Int)) (I : Int) (O : Int) = true ∧ pleaf (pun (R : Int) (D : Int) (I : Int)) (I : Int) (O : Int) = dsc R D O) := Lib.hid (fun O hO h => ⟨pok_yes (by omega) HI2.out (by rw [← HN.out]; exact hO) h, pleaf_yes (by omega) HI2.out (by rw [← HN.out]; exact hO) h⟩)
  have HLs : Hid (∀ O : Nat, O < N → lseed (R : Int) (D : Int) (O : Int) = dsc R D O) := Lib.hid (fun O hO => lseed_yes (leafOk_iff.2 ⟨D, O, rfl, rfl, by omega, by rw [← HN.out]; exact hO⟩))
  have HDb : Hid (∀ O : Nat, 0 ≤ dsc (R : Int) D O ∧ dsc (R : Int) D O ≤ 2147483646) := Lib.hid (fun O => dsc_bound hD0)
  have HIj : Hid (∀ i k, i < N → k < N → dsc (R : Int) D i = dsc (R : Int) D k → i = k) := Lib.hid (by rw [HN.out]; exact HInj.out)
  obtain ⟨ls, hls⟩ : ∃ ls, ls = lseeds (R : Int) (D : Int) := ⟨_, rfl⟩
  rw [← hls] at HLl HLg
  have Hls := Lib.hid hls
  obtain ⟨ps, hps⟩ : ∃ ps, ps = pun (R : Int) (D : Int) (I : Int) := ⟨_, rfl⟩
  rw [← hps] at HPl HPy
  have Hps := Lib.hid hps
  clear hls hps HInj HI2
  have HB := Lib.hid (Below.refl w.heap.size w)
  go_enter Try.func3, Try.ntmps3
  go_wp2_with fail
  refine (big_is a s.length cap _ hl').mono ?_
  rw [e0]
  rintro e w0 ⟨rfl, hw0⟩
  obtain rfl : w = w0 := hw0.symm
  clear hw0
  go_wp2_with fail
  refine (at_any HA.out 0 (by omega) hs).mono ?_
  rintro e w1 ⟨⟨he, _, _⟩, hw⟩
  rw [← HT0.out] at he
  subst he
  obtain rfl : w = w1 := hw.symm
  clear hw
  go_wp2_with fail
  go_region_held3 (fun w' => True) (first | trivial | go_keep) ((first
    | (go_at_call 12
       go_loud (refine (at_any HA.out.drew 1 (by omega) hs).mono ?_
                rintro e' w2 ⟨⟨he, _, _⟩, hw⟩
                rw [← HT1.out] at he
                subst he
                subst hw))))
  replace HA := Lib.hid HA.out.drew
  replace HB := Lib.hid HB.out.drew
  obtain ⟨w1, hw1⟩ : ∃ w1, w1 = w.drew := ⟨_, rfl⟩
  rw [← hw1] at HA HB ⊢
  clear hw1
  go_wp2_with fail
  refine (at_any HA.out 2 (by omega) hs).mono ?_
  rintro e w2 ⟨⟨he, _, _⟩, hw⟩
  rw [← HT2.out] at he
  subst he
  obtain rfl : w1 = w2 := hw.symm
  clear hw
  go_wp2_with fail
  refine (at_any HA.out 3 (by omega) hs).mono ?_
  rintro e w2 ⟨⟨he, _, _⟩, hw⟩
  rw [← HT3.out] at he
  subst he
  obtain rfl : w1 = w2 := hw.symm
  clear hw
  go_wp2_with fail
  refine (impl_lss HRw.out HDw.out).mono ?_
  rw [← Hls.out]
  rintro e w3 ⟨vl, he, hO, hb⟩
  obtain ⟨al, cl, hv, hg⟩ := hO.open
  obtain ⟨gl, rfl⟩ := hg (by rw [HLl.out]; omega)
  rw [HLl.out] at hv
  subst hv
  subst he
  have HO := Lib.hid (hO.mono HB.out.size)
  replace HB := Lib.hid (HB.out.trans (hb.mono HB.out.size))
  clear hb hO hg HA
  go_wp2_with fail
  refine (impl_pt HRw.out HDw.out HIw.out).mono ?_
  rw [← Hps.out]
  rintro e w4 ⟨vp, he, hP, hb⟩
  obtain ⟨ap, cp, hv, _⟩ := hP.open
  rw [HPl.out] at hv
  subst hv
  subst he
  replace HO := Lib.hid (HO.out.next hb)
  have HP := Lib.hid (hP.mono HB.out.size)
  replace HB := Lib.hid (HB.out.trans (hb.mono HB.out.size))
  clear hb hP
  go_wp2_with fail
  have HN1 : Hid (1 ≤ N ∧ N ≤ 64) := Lib.hid hN6
  clear hD hD2 hI hI2 hR hR6 hNw hN0 hNz hA0 hA1 hA2 hA3 e0 hs hl' ep hD0 hD5 hIN hN6
  clear HT0 HT1 HT2 HT3
  go_loopw [8] (fun x wr => ∃ j : Nat, x = .int .i64 j ∧ j ≤ N ∧ Own 3 .i64 w.heap.size wr (.slice (some ⟨gl, 0, none⟩) N cl) ls ∧ Own 3 .i64 w.heap.size wr (.slice ap D cp) ps ∧ Below w.heap.size w wr) (fun x _ => N - (intOf x).toNat)
  case atStart => exact ⟨0, rfl, Nat.zero_le _, HO.out, HP.out, HB.out⟩
  case round =>
    obtain ⟨j, rfl, hj, hO, hP, hB⟩ := hrel
    replace HO := Lib.hid hO
    replace HP := Lib.hid hP
    replace HB := Lib.hid hB
    clear hO hP hB
    have hN64 := HN1.out.2
    by_cases hlt : j < N
    · have e1 : decide ((j : Int) < (N : Int)) = true := by simp; omega
      have hjN : (j : Int) < (N : Int) := by omega
      have hj0 : (0 : Int) ≤ (j : Int) := by omega
      have Hjw : Hid ((Lit.int .i64 (j : Int)).wf = true) := Lib.hid (nat_wf (by omega))
      obtain ⟨z, hz⟩ : ∃ z, z = ls.getD j 0 := ⟨_, rfl⟩
      have hzb := HDb.out j
      rw [← HLg.out j hlt, ← hz] at hzb
      have z0 : decide (z < 0) = false := by simp; omega
      have z1 : decide (2147483647 ≤ z) = false := by simp; omega
      have HLz : Hid (lseed (R : Int) (D : Int) (j : Int) = z) := Lib.hid (by rw [HLs.out j hlt, ← HLg.out j hlt, hz])
      have Hz := Lib.hid hz
      by_cases hij : I = j
      · subst hij
        clear hz
        go_wp2_with fail
        refine (impl_pl HP.out.rd (Nat.le_refl _) HIw.out Hjw.out).mono ?_
        rw [pok_no]
        obtain ⟨q, hq⟩ : ∃ q, q = pleaf ps (I : Int) (I : Int) := ⟨_, rfl⟩
        rw [← hq]
        clear hq
        rintro e w5 ⟨rfl, hb⟩
        have O5 := Lib.hid (HO.out.next hb)
        have P5 := Lib.hid (HP.out.next hb)
        have B5 := Lib.hid (HB.out.trans (hb.mono HB.out.size))
        have d5 := O5.out.cellAt HLl.out hlt
        rw [← Hz.out] at d5
        clear hb
        go_wp2_with fail
        refine region_quiet_c (C := TreeW w gl N cl ap D cp ls ps) (by kernel_rfl) (by kernel_rfl) ⟨B5.out.drew, O5.out.drew, P5.out.drew⟩ ?_
        repeat (first
          | (refine quiet_off (by rfl) ?_
             simp only [Act.put, List.setIfInBounds_toArray, List.set_cons_zero, List.set_cons_succ])
          | (apply quiet_on
             · rfl
             · intro wq hq
               have dq := hq.2.1.cellAt HLl.out hlt
               rw [← Hz.out] at dq
               go_simp
               first
                 | done
                 | (go_at_call 16
                    refine (impl_ls HRw.out HDw.out Hjw.out).mono ?_
                    rintro e' w7 ⟨he, hb7⟩
                    rw [HLz.out] at he
                    exact ⟨he, hq.1.trans (hb7.mono hq.1.size), hq.2.1.next hb7, hq.2.2.next hb7⟩)
                 | rfl
                 | exact ⟨rfl, rfl⟩
             simp only [Act.put, List.setIfInBounds_toArray, List.set_cons_zero, List.set_cons_succ]))
        refine wpQuiet_nil ?_
        intro w7 hq
        have O7 := Lib.hid hq.2.1
        have P7 := Lib.hid hq.2.2
        have B7 := Lib.hid hq.1
        clear hq
        go_wp2_with fail
        go_loopw [11] (fun y wr2 => ∃ m : Nat, y = .int .i64 m ∧ m ≤ I ∧ Own 3 .i64 w.heap.size wr2 (.slice (some ⟨gl, 0, none⟩) N cl) ls ∧ Own 3 .i64 w.heap.size wr2 (.slice ap D cp) ps ∧ Below w.heap.size w wr2) (fun y _ => I - (intOf y).toNat)
        case atStart => exact ⟨0, rfl, Nat.zero_le _, O7.out, P7.out, B7.out⟩
        case round =>
          obtain ⟨m, rfl, hmj, hO, hP, hB⟩ := hrel
          have O8 := Lib.hid hO
          have P8 := Lib.hid hP
          have B8 := Lib.hid hB
          clear hO hP hB
          by_cases hml : m < I
          · have e2 : decide ((m : Int) < (I : Int)) = true := by simp; omega
            have hmN : (m : Int) < (N : Int) := by omega
            have d1 := O8.out.cellAt HLl.out hlt
            have d2 := O8.out.cellAt HLl.out (show m < N by omega)
            rw [← Hz.out] at d1
            have hne : (ls.getD m 0 == z) = false := by
              rw [beq_eq_false_iff_ne, Hz.out, HLg.out I hlt, HLg.out m (by omega)]
              intro h
              have := HIj.out m I (by omega) hlt h
              omega
            obtain ⟨y, hy⟩ : ∃ y, y = ls.getD m 0 := ⟨_, rfl⟩
            rw [← hy] at d2 hne
            clear hy
            go_wp2_with fail
            go_quiet (fail)
            go_wp2_with fail
            go_roundw
            case rel => exact ⟨m + 1, by simp, hml, O8.out.next (bel_dn' (Below.refl _ _) _), P8.out.next (bel_dn' (Below.refl _ _) _), bel_dn' B8.out _⟩
            case measure => simp [intOf]; omega
          · have e2 : decide ((m : Int) < (I : Int)) = false := by simp; omega
            go_wp2_with fail
            go_roundw
            case rel => exact ⟨I + 1, by simp, hlt, O8.out, P8.out, B8.out⟩
            case measure => simp [intOf]; omega
      · have hne2 : ((j : Int) != (I : Int)) = true := by simp; omega
        have HK1 : Hid (pok ps (I : Int) (j : Int) = true) := Lib.hid (HPy.out j hlt hij).1
        have HK2 : Hid (pleaf ps (I : Int) (j : Int) = z) := Lib.hid (by rw [(HPy.out j hlt hij).2, hz, HLg.out j hlt])
        clear hz
        go_wp2_with fail
        refine (impl_pl HP.out.rd (Nat.le_refl _) HIw.out Hjw.out).mono ?_
        rw [HK1.out, HK2.out]
        rintro e w5 ⟨rfl, hb⟩
        have O5 := Lib.hid (HO.out.next hb)
        have P5 := Lib.hid (HP.out.next hb)
        have B5 := Lib.hid (HB.out.trans (hb.mono HB.out.size))
        have d5 := O5.out.cellAt HLl.out hlt
        rw [← Hz.out] at d5
        clear hb
        go_wp2_with fail
        refine region_quiet_c (C := TreeW w gl N cl ap D cp ls ps) (by kernel_rfl) (by kernel_rfl) ⟨B5.out.drew, O5.out.drew, P5.out.drew⟩ ?_
        repeat (first
          | (refine quiet_off (by rfl) ?_
             simp only [Act.put, List.setIfInBounds_toArray, List.set_cons_zero, List.set_cons_succ])
          | (apply quiet_on
             · rfl
             · intro wq hq
               have dq := hq.2.1.cellAt HLl.out hlt
               rw [← Hz.out] at dq
               go_simp
               first
                 | done
                 | (go_at_call 16
                    refine (impl_ls HRw.out HDw.out Hjw.out).mono ?_
                    rintro e' w7 ⟨he, hb7⟩
                    rw [HLz.out] at he
                    exact ⟨he, hq.1.trans (hb7.mono hq.1.size), hq.2.1.next hb7, hq.2.2.next hb7⟩)
                 | rfl
                 | exact ⟨rfl, rfl⟩
             simp only [Act.put, List.setIfInBounds_toArray, List.set_cons_zero, List.set_cons_succ]))
        refine wpQuiet_nil ?_
        intro w7 hq
        have O7 := Lib.hid hq.2.1
        have P7 := Lib.hid hq.2.2
        have B7 := Lib.hid hq.1
        clear hq
        go_wp2_with fail
        go_loopw [11] (fun y wr2 => ∃ m : Nat, y = .int .i64 m ∧ m ≤ j ∧ Own 3 .i64 w.heap.size wr2 (.slice (some ⟨gl, 0, none⟩) N cl) ls ∧ Own 3 .i64 w.heap.size wr2 (.slice ap D cp) ps ∧ Below w.heap.size w wr2) (fun y _ => j - (intOf y).toNat)
        case atStart => exact ⟨0, rfl, Nat.zero_le _, O7.out, P7.out, B7.out⟩
        case round =>
          obtain ⟨m, rfl, hmj, hO, hP, hB⟩ := hrel
          have O8 := Lib.hid hO
          have P8 := Lib.hid hP
          have B8 := Lib.hid hB
          clear hO hP hB
          by_cases hml : m < j
          · have e2 : decide ((m : Int) < (j : Int)) = true := by simp; omega
            have hmN : (m : Int) < (N : Int) := by omega
            have d1 := O8.out.cellAt HLl.out hlt
            have d2 := O8.out.cellAt HLl.out (show m < N by omega)
            rw [← Hz.out] at d1
            have hne : (ls.getD m 0 == z) = false := by
              rw [beq_eq_false_iff_ne, Hz.out, HLg.out j hlt, HLg.out m (by omega)]
              intro h
              have := HIj.out m j (by omega) hlt h
              omega
            obtain ⟨y, hy⟩ : ∃ y, y = ls.getD m 0 := ⟨_, rfl⟩
            rw [← hy] at d2 hne
            clear hy
            go_wp2_with fail
            go_quiet (fail)
            go_wp2_with fail
            go_roundw
            case rel => exact ⟨m + 1, by simp, hml, O8.out.next (bel_dn' (Below.refl _ _) _), P8.out.next (bel_dn' (Below.refl _ _) _), bel_dn' B8.out _⟩
            case measure => simp [intOf]; omega
          · have e2 : decide ((m : Int) < (j : Int)) = false := by simp; omega
            go_wp2_with fail
            go_roundw
            case rel => exact ⟨j + 1, by simp, hlt, O8.out, P8.out, B8.out⟩
            case measure => simp [intOf]; omega
    · have e1 : decide ((j : Int) < (N : Int)) = false := by simp; omega
      clear HO HP
      have hc := HC.out
      rcases hc with hc | hc
      · go_wp2_with fail
        refine (impl_cb HRw.out HZw.out).mono ?_
        rw [hc]
        rintro e w8 ⟨rfl, hb⟩
        replace HB := Lib.hid (HB.out.trans (hb.mono HB.out.size))
        clear hb hc HDw HIw HLl HLg HPl HPy HLs HDb HIj Hls Hps HN HN1 HC hN64 hlt hj e1
        go_wp2_with fail
        replace HB := Lib.hid HB.out.drew
        refine wp_region_held_drew (S := fun _ => True) (by kernel_rfl) trivial (fun _ => ?_)
        generalize w8.drew = w8d at HB ⊢
        apply wpAnyH_take (i := 0)
        · simp only [List.getElem?_toArray, List.getElem?_cons_succ, List.getElem?_cons_zero]
          rfl
        · kernel_rfl
        · kernel_rfl
        · kernel_rfl
        · exact fun _ _ _ h => h
        · first
            | exact Or.inr ⟨by rfl, rfl⟩
            | (refine Or.inl ⟨by rfl, fun _ _ => ?_⟩
               go_simp
               first
                 | done
                 | rfl)
        · trivial
        simp only [Act.put, List.setIfInBounds_toArray, List.set_cons_zero, List.set_cons_succ]
        apply wpAnyH_take (i := 1)
        · simp only [List.getElem?_toArray, List.getElem?_cons_succ, List.getElem?_cons_zero]
          rfl
        · kernel_rfl
        · kernel_rfl
        · kernel_rfl
        · exact fun _ _ _ h => h
        · first
            | exact Or.inr ⟨by rfl, rfl⟩
            | (refine Or.inl ⟨by rfl, fun _ _ => ?_⟩
               go_simp
               first
                 | done
                 | rfl)
        · trivial
        simp only [Act.put, List.setIfInBounds_toArray, List.set_cons_zero, List.set_cons_succ]
        apply wpAnyH_take (i := 2)
        · simp only [List.getElem?_toArray, List.getElem?_cons_succ, List.getElem?_cons_zero]
          rfl
        · kernel_rfl
        · kernel_rfl
        · kernel_rfl
        · exact fun _ _ _ h => h
        · first
            | exact Or.inr ⟨by rfl, rfl⟩
            | (refine Or.inl ⟨by rfl, fun _ _ => ?_⟩
               go_simp
               first
                 | done
                 | rfl)
        · trivial
        simp only [Act.put, List.setIfInBounds_toArray, List.set_cons_zero, List.set_cons_succ]
        apply wpAnyH_take (i := 3)
        · simp only [List.getElem?_toArray, List.getElem?_cons_succ, List.getElem?_cons_zero]
          rfl
        · kernel_rfl
        · kernel_rfl
        · kernel_rfl
        · exact fun _ _ _ h => h
        · first
            | exact Or.inr ⟨by rfl, rfl⟩
            | (refine Or.inl ⟨by rfl, fun _ _ => ?_⟩
               go_simp
               first
                 | done
                 | rfl)
        · trivial
        simp only [Act.put, List.setIfInBounds_toArray, List.set_cons_zero, List.set_cons_succ]
        apply wpAnyH_take (i := 4)
        · simp only [List.getElem?_toArray, List.getElem?_cons_succ, List.getElem?_cons_zero]
          rfl
        · kernel_rfl
        · kernel_rfl
        · kernel_rfl
        · exact fun _ _ _ h => h
        · first
            | exact Or.inr ⟨by rfl, rfl⟩
            | (refine Or.inl ⟨by rfl, fun _ _ => ?_⟩
               go_simp
               first
                 | done
                 | rfl)
        · trivial
        simp only [Act.put, List.setIfInBounds_toArray, List.set_cons_zero, List.set_cons_succ]
        apply wpAnyH_take (i := 5)
        · simp only [List.getElem?_toArray, List.getElem?_cons_succ, List.getElem?_cons_zero]
          rfl
        · kernel_rfl
        · kernel_rfl
        · kernel_rfl
        · exact fun _ _ _ h => h
        · first
            | exact Or.inr ⟨by rfl, rfl⟩
            | (refine Or.inl ⟨by rfl, fun _ _ => ?_⟩
               go_simp
               first
                 | done
                 | rfl)
        · trivial
        simp only [Act.put, List.setIfInBounds_toArray, List.set_cons_zero, List.set_cons_succ]
        apply wpAnyH_take (i := 6)
        · simp only [List.getElem?_toArray, List.getElem?_cons_succ, List.getElem?_cons_zero]
          rfl
        · kernel_rfl
        · kernel_rfl
        · kernel_rfl
        · exact fun _ _ _ h => h
        · first
            | exact Or.inr ⟨by rfl, rfl⟩
            | (refine Or.inl ⟨by rfl, fun _ _ => ?_⟩
               go_simp
               first
                 | done
                 | rfl)
        · trivial
        simp only [Act.put, List.setIfInBounds_toArray, List.set_cons_zero, List.set_cons_succ]
        apply wpAnyH_take (i := 7)
        · simp only [List.getElem?_toArray, List.getElem?_cons_succ, List.getElem?_cons_zero]
          rfl
        · kernel_rfl
        · kernel_rfl
        · kernel_rfl
        · exact fun _ _ _ h => h
        · first
            | exact Or.inr ⟨by rfl, rfl⟩
            | (refine Or.inl ⟨by rfl, fun _ _ => ?_⟩
               go_simp
               first
                 | done
                 | rfl)
        · trivial
        simp only [Act.put, List.setIfInBounds_toArray, List.set_cons_zero, List.set_cons_succ]
        refine wpAnyH_ready (rs := [8]) (by kernel_rfl) (by simp) ?_
        apply AllReadyH.cons
        · simp only [List.getElem?_toArray, List.getElem?_cons_succ, List.getElem?_cons_zero]
          rfl
        rotate_left
        · exact AllReadyH.nil
        intro K hK
        go_simp
        refine (impl_sb (n := 9) HRw.out H9w.out).mono ?_
        rintro e' w9 ⟨v9, he, hO, hb⟩
        obtain ⟨a9, c9, hv, hg⟩ := hO.open
        obtain ⟨g9, rfl⟩ := hg (by rw [HS9.out]; omega)
        rw [HS9.out] at hv
        subst hv
        subst he
        have B9 := Lib.hid (HB.out.trans (hb.mono HB.out.size))
        clear hO hb hg
        refine hK.out _ _ trivial (fun _ => ?_)
        clear hK K
        try simp only [Act.put, List.setIfInBounds_toArray, List.set_cons_zero, List.set_cons_succ]
        apply wpAnyH_take (i := 9)
        · simp only [List.getElem?_toArray, List.getElem?_cons_succ, List.getElem?_cons_zero]
          rfl
        · kernel_rfl
        · kernel_rfl
        · kernel_rfl
        · exact fun _ _ _ h => h
        · first
            | exact Or.inr ⟨by rfl, rfl⟩
            | (refine Or.inl ⟨by rfl, fun _ _ => ?_⟩
               go_simp
               first
                 | done
                 | rfl)
        · trivial
        simp only [Act.put, List.setIfInBounds_toArray, List.set_cons_zero, List.set_cons_succ]
        apply wpAnyH_take (i := 10)
        · simp only [List.getElem?_toArray, List.getElem?_cons_succ, List.getElem?_cons_zero]
          rfl
        · kernel_rfl
        · kernel_rfl
        · kernel_rfl
        · exact fun _ _ _ h => h
        · first
            | exact Or.inr ⟨by rfl, rfl⟩
            | (refine Or.inl ⟨by rfl, fun _ _ => ?_⟩
               go_simp
               first
                 | done
                 | rfl)
        · trivial
        simp only [Act.put, List.setIfInBounds_toArray, List.set_cons_zero, List.set_cons_succ]
        apply wpAnyH_take (i := 11)
        · simp only [List.getElem?_toArray, List.getElem?_cons_succ, List.getElem?_cons_zero]
          rfl
        · kernel_rfl
        · kernel_rfl
        · kernel_rfl
        · exact fun _ _ _ h => h
        · first
            | exact Or.inr ⟨by rfl, rfl⟩
            | (refine Or.inl ⟨by rfl, fun _ _ => ?_⟩
               go_simp
               first
                 | done
                 | rfl)
        · trivial
        simp only [Act.put, List.setIfInBounds_toArray, List.set_cons_zero, List.set_cons_succ]
        apply wpAnyH_take (i := 12)
        · simp only [List.getElem?_toArray, List.getElem?_cons_succ, List.getElem?_cons_zero]
          rfl
        · kernel_rfl
        · kernel_rfl
        · kernel_rfl
        · exact fun _ _ _ h => h
        · first
            | exact Or.inr ⟨by rfl, rfl⟩
            | (refine Or.inl ⟨by rfl, fun _ _ => ?_⟩
               go_simp
               first
                 | done
                 | rfl)
        · trivial
        simp only [Act.put, List.setIfInBounds_toArray, List.set_cons_zero, List.set_cons_succ]
        apply wpAnyH_take (i := 13)
        · simp only [List.getElem?_toArray, List.getElem?_cons_succ, List.getElem?_cons_zero]
          rfl
        · kernel_rfl
        · kernel_rfl
        · kernel_rfl
        · exact fun _ _ _ h => h
        · first
            | exact Or.inr ⟨by rfl, rfl⟩
            | (refine Or.inl ⟨by rfl, fun _ _ => ?_⟩
               go_simp
               first
                 | done
                 | rfl)
        · trivial
        simp only [Act.put, List.setIfInBounds_toArray, List.set_cons_zero, List.set_cons_succ]
        apply wpAnyH_take (i := 16)
        · simp only [List.getElem?_toArray, List.getElem?_cons_succ, List.getElem?_cons_zero]
          rfl
        · kernel_rfl
        · kernel_rfl
        · kernel_rfl
        · exact fun _ _ _ h => h
        · first
            | exact Or.inr ⟨by rfl, rfl⟩
            | (refine Or.inl ⟨by rfl, fun _ _ => ?_⟩
               go_simp
               first
                 | done
                 | rfl)
        · trivial
        simp only [Act.put, List.setIfInBounds_toArray, List.set_cons_zero, List.set_cons_succ]
        refine wpAnyH_ready (rs := [14]) (by kernel_rfl) (by simp) ?_
        apply AllReadyH.cons
        · simp only [List.getElem?_toArray, List.getElem?_cons_succ, List.getElem?_cons_zero]
          rfl
        rotate_left
        · exact AllReadyH.nil
        intro K hK
        go_simp
        refine (impl_sb (n := 9) HRw.out H9w.out).mono ?_
        rintro e' w10 ⟨v10, he, hO, hb⟩
        obtain ⟨a10, c10, hv, hg⟩ := hO.open
        obtain ⟨g10, rfl⟩ := hg (by rw [HS9.out]; omega)
        rw [HS9.out] at hv
        subst hv
        subst he
        have hcap := rd_cap hO.rd
        have hcap5 : (5 : Int) ≤ (c10 : Int) := by omega
        have O10 := Lib.hid hO
        have B10 := Lib.hid (B9.out.trans (hb.mono B9.out.size))
        clear hO hb hg hcap
        refine hK.out _ _ trivial (fun _ => ?_)
        clear hK K
        try simp only [Act.put, List.setIfInBounds_toArray, List.set_cons_zero, List.set_cons_succ]
        apply wpAnyH_take (i := 15)
        · simp only [List.getElem?_toArray, List.getElem?_cons_succ, List.getElem?_cons_zero]
          rfl
        · kernel_rfl
        · kernel_rfl
        · kernel_rfl
        · exact fun _ _ _ h => h
        · first
            | exact Or.inr ⟨by rfl, rfl⟩
            | (refine Or.inl ⟨by rfl, fun _ _ => ?_⟩
               go_simp
               first
                 | done
                 | rfl)
        · trivial
        simp only [Act.put, List.setIfInBounds_toArray, List.set_cons_zero, List.set_cons_succ]
        refine wpAnyH_ready (rs := [17]) (by kernel_rfl) (by simp) ?_
        apply AllReadyH.cons
        · simp only [List.getElem?_toArray, List.getElem?_cons_succ, List.getElem?_cons_zero]
          rfl
        rotate_left
        · exact AllReadyH.nil
        intro K hK
        go_simp
        refine (impl_sb (n := 5) HRw.out H5w.out).mono ?_
        rintro e' w11 ⟨v11, he, hO, hb⟩
        subst he
        have r10 := rd_upto (n := 5) (O10.out.next hb).rd (by omega)
        rw [HS5.out] at r10
        have R10 := Lib.hid r10
        have R11 := Lib.hid hO.rd
        have B11 := Lib.hid (B10.out.trans (hb.mono B10.out.size))
        clear hO hb r10
        refine hK.out _ _ trivial (fun _ => ?_)
        clear hK K
        try simp only [Act.put, List.setIfInBounds_toArray, List.set_cons_zero, List.set_cons_succ]
        refine wpAnyH_ready (rs := [18]) (by kernel_rfl) (by simp) ?_
        apply AllReadyH.cons
        · simp only [List.getElem?_toArray, List.getElem?_cons_succ, List.getElem?_cons_zero]
          rfl
        rotate_left
        · exact AllReadyH.nil
        intro K hK
        go_simp
        refine (sameBytes_same R10.out R11.out (Nat.le_refl _) (Nat.le_refl _)).mono ?_
        rintro e' w12 ⟨he, hb⟩
        subst he
        have B12 := Lib.hid (B11.out.trans (hb.mono B11.out.size))
        clear hb
        refine hK.out _ _ trivial (fun _ => ?_)
        clear hK K
        try simp only [Act.put, List.setIfInBounds_toArray, List.set_cons_zero, List.set_cons_succ]
        apply wpAnyH_take (i := 19)
        · simp only [List.getElem?_toArray, List.getElem?_cons_succ, List.getElem?_cons_zero]
          rfl
        · kernel_rfl
        · kernel_rfl
        · kernel_rfl
        · exact fun _ _ _ h => h
        · first
            | exact Or.inr ⟨by rfl, rfl⟩
            | (refine Or.inl ⟨by rfl, fun _ _ => ?_⟩
               go_simp
               first
                 | done
                 | rfl)
        · trivial
        simp only [Act.put, List.setIfInBounds_toArray, List.set_cons_zero, List.set_cons_succ]
        apply wpAnyH_take (i := 20)
        · simp only [List.getElem?_toArray, List.getElem?_cons_succ, List.getElem?_cons_zero]
          rfl
        · kernel_rfl
        · kernel_rfl
        · kernel_rfl
        · exact fun _ _ _ h => h
        · first
            | exact Or.inr ⟨by rfl, rfl⟩
            | (refine Or.inl ⟨by rfl, fun _ _ => ?_⟩
               go_simp
               first
                 | done
                 | rfl)
        · trivial
        simp only [Act.put, List.setIfInBounds_toArray, List.set_cons_zero, List.set_cons_succ]
        apply wpAnyH_take (i := 21)
        · simp only [List.getElem?_toArray, List.getElem?_cons_succ, List.getElem?_cons_zero]
          rfl
        · kernel_rfl
        · kernel_rfl
        · kernel_rfl
        · exact fun _ _ _ h => h
        · first
            | exact Or.inr ⟨by rfl, rfl⟩
            | (refine Or.inl ⟨by rfl, fun _ _ => ?_⟩
               go_simp
               first
                 | done
                 | rfl)
        · trivial
        simp only [Act.put, List.setIfInBounds_toArray, List.set_cons_zero, List.set_cons_succ]
        apply wpAnyH_take (i := 23)
        · simp only [List.getElem?_toArray, List.getElem?_cons_succ, List.getElem?_cons_zero]
          rfl
        · kernel_rfl
        · kernel_rfl
        · kernel_rfl
        · exact fun _ _ _ h => h
        · first
            | exact Or.inr ⟨by rfl, rfl⟩
            | (refine Or.inl ⟨by rfl, fun _ _ => ?_⟩
               go_simp
               first
                 | done
                 | rfl)
        · trivial
        simp only [Act.put, List.setIfInBounds_toArray, List.set_cons_zero, List.set_cons_succ]
        refine wpAnyH_ready (rs := [22]) (by kernel_rfl) (by simp) ?_
        apply AllReadyH.cons
        · simp only [List.getElem?_toArray, List.getElem?_cons_succ, List.getElem?_cons_zero]
          rfl
        rotate_left
        · exact AllReadyH.nil
        intro K hK
        go_simp
        refine (impl_ls HRw.out HZw.out HZw.out).mono ?_
        rw [HL0.out]
        rintro e' w13 ⟨he, hb⟩
        subst he
        have B13 := Lib.hid (B12.out.trans (hb.mono B12.out.size))
        clear hb
        refine hK.out _ _ trivial (fun _ => ?_)
        clear hK K
        try simp only [Act.put, List.setIfInBounds_toArray, List.set_cons_zero, List.set_cons_succ]
        apply wpAnyH_take (i := 24)
        · simp only [List.getElem?_toArray, List.getElem?_cons_succ, List.getElem?_cons_zero]
          rfl
        · kernel_rfl
        · kernel_rfl
        · kernel_rfl
        · exact fun _ _ _ h => h
        · first
            | exact Or.inr ⟨by rfl, rfl⟩
            | (refine Or.inl ⟨by rfl, fun _ _ => ?_⟩
               go_simp
               first
                 | done
                 | rfl)
        · trivial
        simp only [Act.put, List.setIfInBounds_toArray, List.set_cons_zero, List.set_cons_succ]
        apply wpAnyH_take (i := 25)
        · simp only [List.getElem?_toArray, List.getElem?_cons_succ, List.getElem?_cons_zero]
          rfl
        · kernel_rfl
        · kernel_rfl
        · kernel_rfl
        · exact fun _ _ _ h => h
        · first
            | exact Or.inr ⟨by rfl, rfl⟩
            | (refine Or.inl ⟨by rfl, fun _ _ => ?_⟩
               go_simp
               first
                 | done
                 | rfl)
        · trivial
        simp only [Act.put, List.setIfInBounds_toArray, List.set_cons_zero, List.set_cons_succ]
        apply wpAnyH_take (i := 26)
        · simp only [List.getElem?_toArray, List.getElem?_cons_succ, List.getElem?_cons_zero]
          rfl
        · kernel_rfl
        · kernel_rfl
        · kernel_rfl
        · exact fun _ _ _ h => h
        · first
            | exact Or.inr ⟨by rfl, rfl⟩
            | (refine Or.inl ⟨by rfl, fun _ _ => ?_⟩
               go_simp
               first
                 | done
                 | rfl)
        · trivial
        simp only [Act.put, List.setIfInBounds_toArray, List.set_cons_zero, List.set_cons_succ]
        refine wpAnyH_done (by kernel_rfl) ?_ _
        go_wp2_with fail
        go_ret
        exact ⟨rfl, B13.out⟩
      · go_wp2_with fail
        refine (impl_cb HRw.out HZw.out).mono ?_
        rw [hc]
        rintro e w8 ⟨rfl, hb⟩
        replace HB := Lib.hid (HB.out.trans (hb.mono HB.out.size))
        clear hb hc HDw HIw HLl HLg HPl HPy HLs HDb HIj Hls Hps HN HN1 HC hN64 hlt hj e1
        go_wp2_with fail
        replace HB := Lib.hid HB.out.drew
        refine wp_region_held_drew (S := fun _ => True) (by kernel_rfl) trivial (fun _ => ?_)
        generalize w8.drew = w8d at HB ⊢
        apply wpAnyH_take (i := 0)
        · simp only [List.getElem?_toArray, List.getElem?_cons_succ, List.getElem?_cons_zero]
          rfl
        · kernel_rfl
        · kernel_rfl
        · kernel_rfl
        · exact fun _ _ _ h => h
        · first
            | exact Or.inr ⟨by rfl, rfl⟩
            | (refine Or.inl ⟨by rfl, fun _ _ => ?_⟩
               go_simp
               first
                 | done
                 | rfl)
        · trivial
        simp only [Act.put, List.setIfInBounds_toArray, List.set_cons_zero, List.set_cons_succ]
        apply wpAnyH_take (i := 1)
        · simp only [List.getElem?_toArray, List.getElem?_cons_succ, List.getElem?_cons_zero]
          rfl
        · kernel_rfl
        · kernel_rfl
        · kernel_rfl
        · exact fun _ _ _ h => h
        · first
            | exact Or.inr ⟨by rfl, rfl⟩
            | (refine Or.inl ⟨by rfl, fun _ _ => ?_⟩
               go_simp
               first
                 | done
                 | rfl)
        · trivial
        simp only [Act.put, List.setIfInBounds_toArray, List.set_cons_zero, List.set_cons_succ]
        apply wpAnyH_take (i := 2)
        · simp only [List.getElem?_toArray, List.getElem?_cons_succ, List.getElem?_cons_zero]
          rfl
        · kernel_rfl
        · kernel_rfl
        · kernel_rfl
        · exact fun _ _ _ h => h
        · first
            | exact Or.inr ⟨by rfl, rfl⟩
            | (refine Or.inl ⟨by rfl, fun _ _ => ?_⟩
               go_simp
               first
                 | done
                 | rfl)
        · trivial
        simp only [Act.put, List.setIfInBounds_toArray, List.set_cons_zero, List.set_cons_succ]
        apply wpAnyH_take (i := 3)
        · simp only [List.getElem?_toArray, List.getElem?_cons_succ, List.getElem?_cons_zero]
          rfl
        · kernel_rfl
        · kernel_rfl
        · kernel_rfl
        · exact fun _ _ _ h => h
        · first
            | exact Or.inr ⟨by rfl, rfl⟩
            | (refine Or.inl ⟨by rfl, fun _ _ => ?_⟩
               go_simp
               first
                 | done
                 | rfl)
        · trivial
        simp only [Act.put, List.setIfInBounds_toArray, List.set_cons_zero, List.set_cons_succ]
        apply wpAnyH_take (i := 4)
        · simp only [List.getElem?_toArray, List.getElem?_cons_succ, List.getElem?_cons_zero]
          rfl
        · kernel_rfl
        · kernel_rfl
        · kernel_rfl
        · exact fun _ _ _ h => h
        · first
            | exact Or.inr ⟨by rfl, rfl⟩
            | (refine Or.inl ⟨by rfl, fun _ _ => ?_⟩
               go_simp
               first
                 | done
                 | rfl)
        · trivial
        simp only [Act.put, List.setIfInBounds_toArray, List.set_cons_zero, List.set_cons_succ]
        apply wpAnyH_take (i := 5)
        · simp only [List.getElem?_toArray, List.getElem?_cons_succ, List.getElem?_cons_zero]
          rfl
        · kernel_rfl
        · kernel_rfl
        · kernel_rfl
        · exact fun _ _ _ h => h
        · first
            | exact Or.inr ⟨by rfl, rfl⟩
            | (refine Or.inl ⟨by rfl, fun _ _ => ?_⟩
               go_simp
               first
                 | done
                 | rfl)
        · trivial
        simp only [Act.put, List.setIfInBounds_toArray, List.set_cons_zero, List.set_cons_succ]
        apply wpAnyH_take (i := 6)
        · simp only [List.getElem?_toArray, List.getElem?_cons_succ, List.getElem?_cons_zero]
          rfl
        · kernel_rfl
        · kernel_rfl
        · kernel_rfl
        · exact fun _ _ _ h => h
        · first
            | exact Or.inr ⟨by rfl, rfl⟩
            | (refine Or.inl ⟨by rfl, fun _ _ => ?_⟩
               go_simp
               first
                 | done
                 | rfl)
        · trivial
        simp only [Act.put, List.setIfInBounds_toArray, List.set_cons_zero, List.set_cons_succ]
        apply wpAnyH_take (i := 7)
        · simp only [List.getElem?_toArray, List.getElem?_cons_succ, List.getElem?_cons_zero]
          rfl
        · kernel_rfl
        · kernel_rfl
        · kernel_rfl
        · exact fun _ _ _ h => h
        · first
            | exact Or.inr ⟨by rfl, rfl⟩
            | (refine Or.inl ⟨by rfl, fun _ _ => ?_⟩
               go_simp
               first
                 | done
                 | rfl)
        · trivial
        simp only [Act.put, List.setIfInBounds_toArray, List.set_cons_zero, List.set_cons_succ]
        refine wpAnyH_ready (rs := [8]) (by kernel_rfl) (by simp) ?_
        apply AllReadyH.cons
        · simp only [List.getElem?_toArray, List.getElem?_cons_succ, List.getElem?_cons_zero]
          rfl
        rotate_left
        · exact AllReadyH.nil
        intro K hK
        go_simp
        refine (impl_sb (n := 9) HRw.out H9w.out).mono ?_
        rintro e' w9 ⟨v9, he, hO, hb⟩
        obtain ⟨a9, c9, hv, hg⟩ := hO.open
        obtain ⟨g9, rfl⟩ := hg (by rw [HS9.out]; omega)
        rw [HS9.out] at hv
        subst hv
        subst he
        have B9 := Lib.hid (HB.out.trans (hb.mono HB.out.size))
        clear hO hb hg
        refine hK.out _ _ trivial (fun _ => ?_)
        clear hK K
        try simp only [Act.put, List.setIfInBounds_toArray, List.set_cons_zero, List.set_cons_succ]
        apply wpAnyH_take (i := 9)
        · simp only [List.getElem?_toArray, List.getElem?_cons_succ, List.getElem?_cons_zero]
          rfl
        · kernel_rfl
        · kernel_rfl
        · kernel_rfl
        · exact fun _ _ _ h => h
        · first
            | exact Or.inr ⟨by rfl, rfl⟩
            | (refine Or.inl ⟨by rfl, fun _ _ => ?_⟩
               go_simp
               first
                 | done
                 | rfl)
        · trivial
        simp only [Act.put, List.setIfInBounds_toArray, List.set_cons_zero, List.set_cons_succ]
        apply wpAnyH_take (i := 10)
        · simp only [List.getElem?_toArray, List.getElem?_cons_succ, List.getElem?_cons_zero]
          rfl
        · kernel_rfl
        · kernel_rfl
        · kernel_rfl
        · exact fun _ _ _ h => h
        · first
            | exact Or.inr ⟨by rfl, rfl⟩
            | (refine Or.inl ⟨by rfl, fun _ _ => ?_⟩
               go_simp
               first
                 | done
                 | rfl)
        · trivial
        simp only [Act.put, List.setIfInBounds_toArray, List.set_cons_zero, List.set_cons_succ]
        apply wpAnyH_take (i := 11)
        · simp only [List.getElem?_toArray, List.getElem?_cons_succ, List.getElem?_cons_zero]
          rfl
        · kernel_rfl
        · kernel_rfl
        · kernel_rfl
        · exact fun _ _ _ h => h
        · first
            | exact Or.inr ⟨by rfl, rfl⟩
            | (refine Or.inl ⟨by rfl, fun _ _ => ?_⟩
               go_simp
               first
                 | done
                 | rfl)
        · trivial
        simp only [Act.put, List.setIfInBounds_toArray, List.set_cons_zero, List.set_cons_succ]
        apply wpAnyH_take (i := 12)
        · simp only [List.getElem?_toArray, List.getElem?_cons_succ, List.getElem?_cons_zero]
          rfl
        · kernel_rfl
        · kernel_rfl
        · kernel_rfl
        · exact fun _ _ _ h => h
        · first
            | exact Or.inr ⟨by rfl, rfl⟩
            | (refine Or.inl ⟨by rfl, fun _ _ => ?_⟩
               go_simp
               first
                 | done
                 | rfl)
        · trivial
        simp only [Act.put, List.setIfInBounds_toArray, List.set_cons_zero, List.set_cons_succ]
        apply wpAnyH_take (i := 13)
        · simp only [List.getElem?_toArray, List.getElem?_cons_succ, List.getElem?_cons_zero]
          rfl
        · kernel_rfl
        · kernel_rfl
        · kernel_rfl
        · exact fun _ _ _ h => h
        · first
            | exact Or.inr ⟨by rfl, rfl⟩
            | (refine Or.inl ⟨by rfl, fun _ _ => ?_⟩
               go_simp
               first
                 | done
                 | rfl)
        · trivial
        simp only [Act.put, List.setIfInBounds_toArray, List.set_cons_zero, List.set_cons_succ]
        apply wpAnyH_take (i := 16)
        · simp only [List.getElem?_toArray, List.getElem?_cons_succ, List.getElem?_cons_zero]
          rfl
        · kernel_rfl
        · kernel_rfl
        · kernel_rfl
        · exact fun _ _ _ h => h
        · first
            | exact Or.inr ⟨by rfl, rfl⟩
            | (refine Or.inl ⟨by rfl, fun _ _ => ?_⟩
               go_simp
               first
                 | done
                 | rfl)
        · trivial
        simp only [Act.put, List.setIfInBounds_toArray, List.set_cons_zero, List.set_cons_succ]
        refine wpAnyH_ready (rs := [14]) (by kernel_rfl) (by simp) ?_
        apply AllReadyH.cons
        · simp only [List.getElem?_toArray, List.getElem?_cons_succ, List.getElem?_cons_zero]
          rfl
        rotate_left
        · exact AllReadyH.nil
        intro K hK
        go_simp
        refine (impl_sb (n := 9) HRw.out H9w.out).mono ?_
        rintro e' w10 ⟨v10, he, hO, hb⟩
        obtain ⟨a10, c10, hv, hg⟩ := hO.open
        obtain ⟨g10, rfl⟩ := hg (by rw [HS9.out]; omega)
        rw [HS9.out] at hv
        subst hv
        subst he
        have hcap := rd_cap hO.rd
        have hcap5 : (5 : Int) ≤ (c10 : Int) := by omega
        have O10 := Lib.hid hO
        have B10 := Lib.hid (B9.out.trans (hb.mono B9.out.size))
        clear hO hb hg hcap
        refine hK.out _ _ trivial (fun _ => ?_)
        clear hK K
        try simp only [Act.put, List.setIfInBounds_toArray, List.set_cons_zero, List.set_cons_succ]
        apply wpAnyH_take (i := 15)
        · simp only [List.getElem?_toArray, List.getElem?_cons_succ, List.getElem?_cons_zero]
          rfl
        · kernel_rfl
        · kernel_rfl
        · kernel_rfl
        · exact fun _ _ _ h => h
        · first
            | exact Or.inr ⟨by rfl, rfl⟩
            | (refine Or.inl ⟨by rfl, fun _ _ => ?_⟩
               go_simp
               first
                 | done
                 | rfl)
        · trivial
        simp only [Act.put, List.setIfInBounds_toArray, List.set_cons_zero, List.set_cons_succ]
        refine wpAnyH_ready (rs := [17]) (by kernel_rfl) (by simp) ?_
        apply AllReadyH.cons
        · simp only [List.getElem?_toArray, List.getElem?_cons_succ, List.getElem?_cons_zero]
          rfl
        rotate_left
        · exact AllReadyH.nil
        intro K hK
        go_simp
        refine (impl_sb (n := 5) HRw.out H5w.out).mono ?_
        rintro e' w11 ⟨v11, he, hO, hb⟩
        subst he
        have r10 := rd_upto (n := 5) (O10.out.next hb).rd (by omega)
        rw [HS5.out] at r10
        have R10 := Lib.hid r10
        have R11 := Lib.hid hO.rd
        have B11 := Lib.hid (B10.out.trans (hb.mono B10.out.size))
        clear hO hb r10
        refine hK.out _ _ trivial (fun _ => ?_)
        clear hK K
        try simp only [Act.put, List.setIfInBounds_toArray, List.set_cons_zero, List.set_cons_succ]
        refine wpAnyH_ready (rs := [18]) (by kernel_rfl) (by simp) ?_
        apply AllReadyH.cons
        · simp only [List.getElem?_toArray, List.getElem?_cons_succ, List.getElem?_cons_zero]
          rfl
        rotate_left
        · exact AllReadyH.nil
        intro K hK
        go_simp
        refine (sameBytes_same R10.out R11.out (Nat.le_refl _) (Nat.le_refl _)).mono ?_
        rintro e' w12 ⟨he, hb⟩
        subst he
        have B12 := Lib.hid (B11.out.trans (hb.mono B11.out.size))
        clear hb
        refine hK.out _ _ trivial (fun _ => ?_)
        clear hK K
        try simp only [Act.put, List.setIfInBounds_toArray, List.set_cons_zero, List.set_cons_succ]
        apply wpAnyH_take (i := 19)
        · simp only [List.getElem?_toArray, List.getElem?_cons_succ, List.getElem?_cons_zero]
          rfl
        · kernel_rfl
        · kernel_rfl
        · kernel_rfl
        · exact fun _ _ _ h => h
        · first
            | exact Or.inr ⟨by rfl, rfl⟩
            | (refine Or.inl ⟨by rfl, fun _ _ => ?_⟩
               go_simp
               first
                 | done
                 | rfl)
        · trivial
        simp only [Act.put, List.setIfInBounds_toArray, List.set_cons_zero, List.set_cons_succ]
        apply wpAnyH_take (i := 20)
        · simp only [List.getElem?_toArray, List.getElem?_cons_succ, List.getElem?_cons_zero]
          rfl
        · kernel_rfl
        · kernel_rfl
        · kernel_rfl
        · exact fun _ _ _ h => h
        · first
            | exact Or.inr ⟨by rfl, rfl⟩
            | (refine Or.inl ⟨by rfl, fun _ _ => ?_⟩
               go_simp
               first
                 | done
                 | rfl)
        · trivial
        simp only [Act.put, List.setIfInBounds_toArray, List.set_cons_zero, List.set_cons_succ]
        apply wpAnyH_take (i := 21)
        · simp only [List.getElem?_toArray, List.getElem?_cons_succ, List.getElem?_cons_zero]
          rfl
        · kernel_rfl
        · kernel_rfl
        · kernel_rfl
        · exact fun _ _ _ h => h
        · first
            | exact Or.inr ⟨by rfl, rfl⟩
            | (refine Or.inl ⟨by rfl, fun _ _ => ?_⟩
               go_simp
               first
                 | done
                 | rfl)
        · trivial
        simp only [Act.put, List.setIfInBounds_toArray, List.set_cons_zero, List.set_cons_succ]
        apply wpAnyH_take (i := 23)
        · simp only [List.getElem?_toArray, List.getElem?_cons_succ, List.getElem?_cons_zero]
          rfl
        · kernel_rfl
        · kernel_rfl
        · kernel_rfl
        · exact fun _ _ _ h => h
        · first
            | exact Or.inr ⟨by rfl, rfl⟩
            | (refine Or.inl ⟨by rfl, fun _ _ => ?_⟩
               go_simp
               first
                 | done
                 | rfl)
        · trivial
        simp only [Act.put, List.setIfInBounds_toArray, List.set_cons_zero, List.set_cons_succ]
        refine wpAnyH_ready (rs := [22]) (by kernel_rfl) (by simp) ?_
        apply AllReadyH.cons
        · simp only [List.getElem?_toArray, List.getElem?_cons_succ, List.getElem?_cons_zero]
          rfl
        rotate_left
        · exact AllReadyH.nil
        intro K hK
        go_simp
        refine (impl_ls HRw.out HZw.out HZw.out).mono ?_
        rw [HL0.out]
        rintro e' w13 ⟨he, hb⟩
        subst he
        have B13 := Lib.hid (B12.out.trans (hb.mono B12.out.size))
        clear hb
        refine hK.out _ _ trivial (fun _ => ?_)
        clear hK K
        try simp only [Act.put, List.setIfInBounds_toArray, List.set_cons_zero, List.set_cons_succ]
        apply wpAnyH_take (i := 24)
        · simp only [List.getElem?_toArray, List.getElem?_cons_succ, List.getElem?_cons_zero]
          rfl
        · kernel_rfl
        · kernel_rfl
        · kernel_rfl
        · exact fun _ _ _ h => h
        · first
            | exact Or.inr ⟨by rfl, rfl⟩
            | (refine Or.inl ⟨by rfl, fun _ _ => ?_⟩
               go_simp
               first
                 | done
                 | rfl)
        · trivial
        simp only [Act.put, List.setIfInBounds_toArray, List.set_cons_zero, List.set_cons_succ]
        apply wpAnyH_take (i := 25)
        · simp only [List.getElem?_toArray, List.getElem?_cons_succ, List.getElem?_cons_zero]
          rfl
        · kernel_rfl
        · kernel_rfl
        · kernel_rfl
        · exact fun _ _ _ h => h
        · first
            | exact Or.inr ⟨by rfl, rfl⟩
            | (refine Or.inl ⟨by rfl, fun _ _ => ?_⟩
               go_simp
               first
                 | done
                 | rfl)
        · trivial
        simp only [Act.put, List.setIfInBounds_toArray, List.set_cons_zero, List.set_cons_succ]
        apply wpAnyH_take (i := 26)
        · simp only [List.getElem?_toArray, List.getElem?_cons_succ, List.getElem?_cons_zero]
          rfl
        · kernel_rfl
        · kernel_rfl
        · kernel_rfl
        · exact fun _ _ _ h => h
        · first
            | exact Or.inr ⟨by rfl, rfl⟩
            | (refine Or.inl ⟨by rfl, fun _ _ => ?_⟩
               go_simp
               first
                 | done
                 | rfl)
        · trivial
        simp only [Act.put, List.setIfInBounds_toArray, List.set_cons_zero, List.set_cons_succ]
        refine wpAnyH_done (by kernel_rfl) ?_ _
        go_wp2_with fail
        go_ret
        exact ⟨rfl, B13.out⟩

end Go.Proofs.Ytihhnginnmfoiaa
