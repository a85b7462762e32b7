/- Dialing: invitations opened by the document. No conditions but numbers that a machine holds. -/
import Derived.Test.YtlhpjfhglkngfaaDoorDl1
import Derived.Test.YtlhpjfhglkngfaaDoorCl6
import Derived.Deep.RegionHeld3
namespace Go.Proofs.YtlhpjfhglkngfaaDoor
open Go Go.RowKit
set_option linter.unusedVariables false
set_option maxRecDepth 20000
attribute [local irreducible] kh kid pwm tcm pw

theorem oqd_shut {s r c : Int} {b : List Int} (h : ook (skey s c) r b = false) : oq s r b c = false := by unfold oq; rw [h]; rfl
theorem oqd_kind {s r c : Int} {b : List Int} (h : (ocK (skey s c) r b == 2) = false) : oq s r b c = false := by unfold oq; rw [h]; simp
theorem oqd_body {s r c : Int} {b : List Int} (h1 : ook (skey s c) r b = true) (h2 : (ocK (skey s c) r b == 2) = true) : oq s r b c = (ocB (skey s c) r b == ibody c) := by unfold oq; rw [h1, h2]; rfl

set_option maxHeartbeats 16000000 in
/-- spec.OpenInvitation. -/
theorem spec_opi {l1 l2 : Nat} {w : World} {u v : Value} {cs b : List Int} {s p r : Int} (hu : Rd l1 .i64 w u cs) (hv : Rd l2 .u8 w v b) (hl1 : l1 ≤ w.heap.size) (hl2 : l2 ≤ w.heap.size) (hs : (Lit.int .i64 s).wf = true) (hp : (Lit.int .i64 p).wf = true) (hr : (Lit.int .i64 r).wf = true) :
    Calls Tryd.prog 16 #[.agg #[.int .i64 s, .int .i64 p], u, .int .i64 r, v] w fun e w' => e = .returned (.tuple #[.int .i64 (opI s p cs r b), .int .i64 (opK s p cs r b), .bool (opB s p cs r b)]) ∧ Below w.heap.size w w' := by
  obtain ⟨pu, cap, rfl, h1, h2, hc⟩ := hu.open
  have Hc := Lib.hid hc
  have HU := Lib.hid hu
  have HS := Lib.hid hs
  have HP := Lib.hid hp
  have HRw := Lib.hid hr
  have hc0 := heap_alloc_new w (.cells #[.int .i64 s, .int .i64 p] 25)
  have b1 := (Below.refl w.heap.size w).alloc (Nat.le_refl _) (.cells #[.int .i64 s, .int .i64 p] 25)
  obtain ⟨W0, hW0⟩ : ∃ W, W = w.alloc (.cells #[.int .i64 s, .int .i64 p] 25) := ⟨_, rfl⟩
  rw [← hW0] at hc0 b1
  have HW0 := Lib.hid hW0
  have HC := Lib.hid hc0
  have HB := Lib.hid b1
  have HV := Lib.hid hv
  have HLv := Lib.hid hl2
  have HLu := Lib.hid hl1
  unfold maxLen at h2
  clear hu hc hv hl1 hl2 hs hp hr hc0 b1 hW0
  cases hq : okId s p with
  | false =>
    have HQ := Lib.hid hq
    have hB := op_bad hq r cs b
    have HE := Lib.hid (op_no hB)
    have HEb := Lib.hid hB
    clear hq hB
    go_enter Tryd.func16, Tryd.ntmps16
    go_wp2_with fail
    rw [← HW0.out]
    go_loopw [11] (fun i wr => i = .int .i64 0 ∧ Below w.heap.size w wr ∧ Below W0.heap.size W0 wr) (fun i _ => 0)
    case atStart => exact ⟨rfl, HB.out, Below.refl _ _⟩
    case round =>
      obtain ⟨rfl, hB, hB2⟩ := hrel
      have HB1 := Lib.hid hB
      have HB2 := Lib.hid hB2
      clear hB hB2
      by_cases hlt : 0 < cs.length
      · have e1 : decide ((0 : Int) < (cs.length : Int)) = true := decide_eq_true (by omega)
        obtain ⟨c0, c1, _⟩ := pcs (stood HC.out HB2.out)
        go_wp2_with fail
        refine (spec_vid HS.out HP.out).mono ?_
        rw [HQ.out]
        rintro e w1 ⟨rfl, hb⟩
        replace HB1 := Lib.hid (HB1.out.trans (hb.mono HB1.out.size))
        clear hb c0 c1
        go_wp2_with fail
        exact bodyPost_ret (v := .tuple #[.int .i64 (-1), .int .i64 0, .bool false]) (by simp [results, Tryd.results16, go_sem]) rfl ⟨by rw [HE.out.1, HE.out.2, HEb.out], HB1.out⟩
      · have e1 : decide ((0 : Int) < (cs.length : Int)) = false := decide_eq_false (by omega)
        go_wp2_with fail
        exact bodyPost_ret (v := .tuple #[.int .i64 (-1), .int .i64 0, .bool false]) (by simp [results, Tryd.results16, go_sem]) rfl ⟨by rw [HE.out.1, HE.out.2, HEb.out], HB1.out⟩
  | true =>
    have HQ := Lib.hid hq
    clear hq
    go_enter Tryd.func16, Tryd.ntmps16
    go_wp2_with fail
    rw [← HW0.out]
    go_loopw [11] (fun i wr => ∃ j : Nat, i = .int .i64 j ∧ j ≤ cs.length ∧ (∀ i, i < j → oq s r b (cs.getD i 0) = false) ∧ Below w.heap.size w wr ∧ Below W0.heap.size W0 wr) (fun i _ => cs.length - (intOf i).toNat)
    case atStart => exact ⟨0, rfl, Nat.zero_le _, fun i hi => absurd hi (Nat.not_lt_zero _), HB.out, Below.refl _ _⟩
    case round =>
      obtain ⟨j, rfl, hj, hno, hB, hB2⟩ := hrel
      have HB1 := Lib.hid hB
      have HB2 := Lib.hid hB2
      have HNo := Lib.hid hno
      clear hB hB2 hno
      by_cases hlt : j < cs.length
      · have e1 : decide ((j : Int) < (cs.length : Int)) = true := by simp; omega
        have HJ := Lib.hid hlt
        obtain ⟨bu, ou, rfl, hbu, hcell⟩ := Hc.out (by omega)
        have HCell := Lib.hid hcell
        have HYw := Lib.hid (HU.out.wf hlt)
        obtain ⟨y, hy⟩ : ∃ y, y = cs.getD j 0 := ⟨_, rfl⟩
        rw [← hy] at HYw
        have HY := Lib.hid hy
        have HKw := Lib.hid (skey_wf s y)
        have hq1 := oqd_shut (s := s) (r := r) (c := y) (b := b)
        have hq2 := oqd_kind (s := s) (r := r) (c := y) (b := b)
        have hq3 := oqd_body (s := s) (r := r) (c := y) (b := b)
        obtain ⟨k, hk⟩ : ∃ k, k = skey s y := ⟨_, rfl⟩
        rw [← hk] at HKw hq1 hq2 hq3
        have HK := Lib.hid hk
        obtain ⟨t, ht⟩ : ∃ t, t = ook k r b := ⟨_, rfl⟩
        obtain ⟨kd, hkd⟩ : ∃ t, t = ocK k r b := ⟨_, rfl⟩
        obtain ⟨L, hL⟩ : ∃ L, L = (ocB k r b).length := ⟨_, rfl⟩
        obtain ⟨q, hq⟩ : ∃ q, q = (ocB k r b == ibody y) := ⟨_, rfl⟩
        have HQe : Hid (((strOfNums (ocB k r b)).toList == (strOfNums (ibody y)).toList) = q) := Lib.hid ((strEq (ocB_u8 _ _ _) (ibody_u8 _)).trans hq.symm)
        rw [← ht] at hq1 hq3
        rw [← hkd] at hq2 hq3
        rw [← hq] at hq3
        have HT := Lib.hid ht
        have HKd := Lib.hid hkd
        have HLl := Lib.hid hL
        have Hq1 := Lib.hid hq1
        have Hq2 := Lib.hid hq2
        have Hq3 := Lib.hid hq3
        clear hcell hy hk ht hkd hL hq hq1 hq2 hq3
        obtain ⟨c0, c1, _⟩ := pcs (stood HC.out HB2.out)
        go_wp2_with fail
        refine (spec_vid HS.out HP.out).mono ?_
        rw [HQ.out]
        rintro e w1 ⟨rfl, hb⟩
        clear c0 c1
        replace HB1 := Lib.hid (HB1.out.trans (hb.mono HB1.out.size))
        replace HB2 := Lib.hid (HB2.out.trans (hb.mono HB2.out.size))
        clear hb
        go_wp2_with fail
        refine region_quiet_c (C := Below w1.heap.size w1) (by kernel_rfl) (by kernel_rfl) ((Below.refl _ _).drew) ?_
        repeat (first
          | go_big_quiet_skip
          | (apply quiet_on
             · kernel_rfl
             · intro wq hq
               obtain ⟨c0, c1, _⟩ := pcs (stood HC.out (HB2.out.trans (hq.mono HB2.out.size)))
               have y1 := HCell.out _ ((HB1.out.trans (hq.mono HB1.out.size)).mono HLu.out) j HJ.out
               rw [← HY.out] at y1
               go_simp
               first
                 | done
                 | (go_at_call 40
                    refine (spec_shk HS.out HYw.out).mono ?_
                    rintro e' w7 ⟨he, hb⟩
                    rw [← HK.out] at he
                    exact ⟨he, hq.trans (hb.mono hq.size)⟩)
                 | rfl
                 | exact ⟨rfl, hq⟩
             simp only [Act.put, List.setIfInBounds_toArray, List.set_cons_zero, List.set_cons_succ]))
        refine wpQuiet_nil ?_
        intro w7 hb
        replace HB1 := Lib.hid (HB1.out.trans (hb.mono HB1.out.size))
        replace HB2 := Lib.hid (HB2.out.trans (hb.mono HB2.out.size))
        clear hb
        go_wp2_with fail
        refine (spec_oc (HV.out.behind (HB1.out.mono HLv.out)) (Nat.le_trans HLv.out HB1.out.size) HKw.out HRw.out).mono ?_
        rw [← HT.out, ← HKd.out]
        rintro e w2 ⟨v2, rfl, h2', hb⟩
        obtain ⟨a2, c2, hv2, _⟩ := h2'.open
        rw [← HLl.out] at hv2
        subst hv2
        have b3 := (Below.refl w2.heap.size w2).alloc (Nat.le_refl _) (.cells #[.int .i64 kd, .slice a2 L c2] 52)
        have k3 := heap_alloc_new w2 (.cells #[.int .i64 kd, .slice a2 L c2] 52)
        obtain ⟨W3, hW3⟩ : ∃ W, W = w2.alloc (.cells #[.int .i64 kd, .slice a2 L c2] 52) := ⟨_, rfl⟩
        rw [← hW3] at b3 k3
        have HW3 := Lib.hid hW3
        have HD := Lib.hid k3
        have HO2 := Lib.hid (show Rd W3.heap.size .u8 W3 (.slice a2 L c2) (ocB k r b) from (h2'.next b3).rd)
        replace HB1 := Lib.hid ((HB1.out.trans (hb.mono HB1.out.size)).trans (b3.mono (HB1.out.trans (hb.mono HB1.out.size)).size))
        replace HB2 := Lib.hid ((HB2.out.trans (hb.mono HB2.out.size)).trans (b3.mono (HB2.out.trans (hb.mono HB2.out.size)).size))
        clear hb h2' b3 k3 hW3
        go_wp2_with fail
        rw [← HW3.out]
        cases t with
        | false =>
          have HO := Lib.hid (Hq1.out rfl)
          refine region_quiet_c (C := Below W3.heap.size W3) (by kernel_rfl) (by kernel_rfl) ((Below.refl _ _).drew) ?_
          repeat (first
            | go_big_quiet_skip
            | (apply quiet_on
               · kernel_rfl
               · intro wq hq
                 obtain ⟨d0, d1, _⟩ := pcs (stood HD.out hq)
                 go_simp
                 first
                   | done

                   | rfl
                   | exact ⟨rfl, hq⟩
               simp only [Act.put, List.setIfInBounds_toArray, List.set_cons_zero, List.set_cons_succ]))
          refine wpQuiet_nil ?_
          intro w7 hb
          replace HB1 := Lib.hid (HB1.out.trans (hb.mono HB1.out.size))
          replace HB2 := Lib.hid (HB2.out.trans (hb.mono HB2.out.size))
          clear hb
          go_wp2_with fail
          go_roundw
          case rel =>
            refine ⟨j + 1, by simp, HJ.out, fun i hi => ?_, HB1.out, HB2.out⟩
            rcases Nat.lt_or_ge i j with h9 | h9
            · exact HNo.out i h9
            · obtain rfl : i = j := by omega
              rw [← HY.out]
              exact HO.out
          case measure => simp [intOf]; omega
        | true =>
          by_cases h2 : kd = 2
          case neg =>
            have e2 : (kd == 2) = false := beq_eq_false_iff_ne.2 h2
            have HO := Lib.hid (Hq2.out e2)
            clear h2
            refine region_quiet_c (C := Below W3.heap.size W3) (by kernel_rfl) (by kernel_rfl) ((Below.refl _ _).drew) ?_
            repeat (first
              | go_big_quiet_skip
              | (apply quiet_on
                 · kernel_rfl
                 · intro wq hq
                   obtain ⟨d0, d1, _⟩ := pcs (stood HD.out hq)
                   go_simp
                   first
                     | done

                     | rfl
                     | exact ⟨rfl, hq⟩
                 simp only [Act.put, List.setIfInBounds_toArray, List.set_cons_zero, List.set_cons_succ]))
            refine wpQuiet_nil ?_
            intro w7 hb
            replace HB1 := Lib.hid (HB1.out.trans (hb.mono HB1.out.size))
            replace HB2 := Lib.hid (HB2.out.trans (hb.mono HB2.out.size))
            clear hb
            go_wp2_with fail
            go_roundw
            case rel =>
              refine ⟨j + 1, by simp, HJ.out, fun i hi => ?_, HB1.out, HB2.out⟩
              rcases Nat.lt_or_ge i j with h9 | h9
              · exact HNo.out i h9
              · obtain rfl : i = j := by omega
                rw [← HY.out]
                exact HO.out
            case measure => simp [intOf]; omega
          have e2 : (kd == 2) = true := by rw [h2]; rfl
          have HO := Lib.hid (Hq3.out rfl e2)
          clear h2
          obtain ⟨wd, hwd⟩ : ∃ x, x = W3.drew := ⟨_, rfl⟩
          have HWd := Lib.hid hwd
          replace HD : Hid (wd.heap[w2.heap.size]? = some (.cells #[.int .i64 kd, .slice a2 L c2] 52)) := Lib.hid (by rw [hwd]; exact HD.out)
          replace HO2 : Hid (Rd wd.heap.size .u8 wd (.slice a2 L c2) (ocB k r b)) := Lib.hid (by rw [hwd]; exact HO2.out.drew)
          replace HB1 : Hid (Below w.heap.size w wd) := Lib.hid (by rw [hwd]; exact HB1.out.drew)
          replace HB2 : Hid (Below W0.heap.size W0 wd) := Lib.hid (by rw [hwd]; exact HB2.out.drew)
          clear hwd
          obtain ⟨d0, d1, _⟩ := pcs HD.out
          have y1 := HCell.out _ (HB1.out.mono HLu.out) j HJ.out
          rw [← HY.out] at y1
          rw [HWd.out] at d0 d1 y1
          cases q with
          | false =>
            go_region_with (first
              | (go_at_call 43
                 go_loud (rw [← HWd.out]
                          refine (spec_bod HYw.out).mono ?_
                          rintro e' w4 ⟨v4, rfl, h4, hb4⟩
                          have HY4 := Lib.hid h4.rd
                          replace HO2 := Lib.hid ((HO2.out.behind hb4).mono hb4.size)
                          replace HD := Lib.hid (stood HD.out hb4)
                          replace HB1 := Lib.hid (HB1.out.trans (hb4.mono HB1.out.size))
                          replace HB2 := Lib.hid (HB2.out.trans (hb4.mono HB2.out.size))
                          obtain ⟨d0, d1, _⟩ := pcs HD.out
                          have y1 := HCell.out _ (HB1.out.mono HLu.out) j HJ.out
                          rw [← HY.out] at y1
                          clear hb4 h4))
              | (go_at_call 42
                 go_loud (refine (spec_eb HO2.out HY4.out).mono ?_
                          rw [HQe.out]
                          rintro e' w5 ⟨rfl, hw5⟩
                          subst hw5)))
            all_goals (
              go_wp2_with fail
              go_roundw
              case rel =>
                refine ⟨j + 1, by simp, HJ.out, fun i hi => ?_, HB1.out, HB2.out⟩
                rcases Nat.lt_or_ge i j with h9 | h9
                · exact HNo.out i h9
                · obtain rfl : i = j := by omega
                  rw [← HY.out]
                  exact HO.out
              case measure => simp [intOf]; omega)
          | true =>
            go_region_with (first
              | (go_at_call 43
                 go_loud (rw [← HWd.out]
                          refine (spec_bod HYw.out).mono ?_
                          rintro e' w4 ⟨v4, rfl, h4, hb4⟩
                          have HY4 := Lib.hid h4.rd
                          replace HO2 := Lib.hid ((HO2.out.behind hb4).mono hb4.size)
                          replace HD := Lib.hid (stood HD.out hb4)
                          replace HB1 := Lib.hid (HB1.out.trans (hb4.mono HB1.out.size))
                          replace HB2 := Lib.hid (HB2.out.trans (hb4.mono HB2.out.size))
                          obtain ⟨d0, d1, _⟩ := pcs HD.out
                          have y1 := HCell.out _ (HB1.out.mono HLu.out) j HJ.out
                          rw [← HY.out] at y1
                          clear hb4 h4))
              | (go_at_call 42
                 go_loud (refine (spec_eb HO2.out HY4.out).mono ?_
                          rw [HQe.out]
                          rintro e' w5 ⟨rfl, hw5⟩
                          subst hw5)))
            all_goals (
              have HR := Lib.hid (op_found (r := r) HQ.out HJ.out HNo.out (by rw [← HY.out]; exact HO.out))
              go_wp2_with fail
              exact bodyPost_ret (v := .tuple #[.int .i64 (j : Int), .int .i64 k, .bool true]) (by simp [results, Tryd.results16, go_sem]) rfl ⟨by rw [HR.out.1, HR.out.2.1, HR.out.2.2, ← HY.out, HK.out], HB1.out⟩)
      · have e1 : decide ((j : Int) < (cs.length : Int)) = false := by simp; omega
        have hB := op_none (s := s) (p := p) (r := r) (b := b) (cs := cs) (fun i hi => HNo.out i (by omega))
        have HE := Lib.hid (op_no hB)
        have HEb := Lib.hid hB
        clear hB
        go_wp2_with fail
        exact bodyPost_ret (v := .tuple #[.int .i64 (-1), .int .i64 0, .bool false]) (by simp [results, Tryd.results16, go_sem]) rfl ⟨by rw [HE.out.1, HE.out.2, HEb.out], HB1.out⟩

end Go.Proofs.YtlhpjfhglkngfaaDoor
