/- Dialing: invitations opened by the program. Conditions: the package variables errors.errorType and impl.errNoInvitation as the rows list them. -/
import Derived.Test.YtlhpjfhglkngfaaDoorDl1
import Derived.Test.YtlhpjfhglkngfaaDoorCl5
import Derived.Test.YtlhpjfhglkngfaaDoorErs
import Derived.Deep.RegionHeld3
namespace Go.Proofs.YtlhpjfhglkngfaaDoor
open Go Go.RowKit
set_option linter.unusedVariables false
set_option maxRecDepth 20000
attribute [local irreducible] kh kid pwm tcm pw

theorem oq_shut {s r c : Int} {b : List Int} (h : ook (skey s c) r b = false) : oq s r b c = false := by unfold oq; rw [h]; rfl
theorem oq_kind {s r c : Int} {b : List Int} (h : (ocK (skey s c) r b == 2) = false) : oq s r b c = false := by unfold oq; rw [h]; simp
theorem oq_body {s r c : Int} {b : List Int} (h1 : ook (skey s c) r b = true) (h2 : (ocK (skey s c) r b == 2) = true) : oq s r b c = (ocB (skey s c) r b == ibody c) := by unfold oq; rw [h1, h2]; rfl

set_option maxHeartbeats 8000000 in
/-- impl.acceptInvitation. -/
theorem acc_any {lim : Nat} {w : World} {v : Value} {b : List Int} {s c r : Int} (h : Rd lim .u8 w v b) (hlim : lim ≤ w.heap.size) (hs : (Lit.int .i64 s).wf = true) (hc : (Lit.int .i64 c).wf = true) (hr : (Lit.int .i64 r).wf = true) (hg : GV w) :
    Calls Tryd.prog 31 #[.int .i64 s, .int .i64 c, .int .i64 r, v] w fun e w' => ((oq s r b c = true ∧ e = .returned (.tuple #[.int .i64 (skey s c), .nilIface])) ∨ (oq s r b c = false ∧ ∃ t : ByteArray, e = .returned (.tuple #[.int .i64 0, .iface 80 (.agg #[.string t])]))) ∧ Below w.heap.size w w' := by
  have H := Lib.hid h
  have HL := Lib.hid hlim
  have HS := Lib.hid hs
  have HCw := Lib.hid hc
  have HRw := Lib.hid hr
  have HG := Lib.hid hg
  have HKw := Lib.hid (skey_wf s c)
  have hq1 := oq_shut (s := s) (r := r) (c := c) (b := b)
  have hq2 := oq_kind (s := s) (r := r) (c := c) (b := b)
  have hq3 := oq_body (s := s) (r := r) (c := c) (b := b)
  obtain ⟨k, hk⟩ : ∃ k, k = skey s c := ⟨_, rfl⟩
  rw [← hk] at HKw hq1 hq2 hq3 ⊢
  have HK := Lib.hid hk
  obtain ⟨t, ht⟩ : ∃ t, t = ook k r b := ⟨_, rfl⟩
  obtain ⟨kd, hkd⟩ : ∃ t, t = ocK k r b := ⟨_, rfl⟩
  obtain ⟨L, hL⟩ : ∃ L, L = (ocB k r b).length := ⟨_, rfl⟩
  obtain ⟨q, hq⟩ : ∃ q, q = (ocB k r b == ibody c) := ⟨_, rfl⟩
  have HQ : Hid (((strOfNums (ocB k r b)).toList == (strOfNums (ibody c)).toList) = q) := Lib.hid ((strEq (ocB_u8 _ _ _) (ibody_u8 _)).trans hq.symm)
  rw [← ht] at hq1 hq3
  rw [← hkd] at hq2 hq3
  rw [← hq] at hq3
  have HT := Lib.hid ht
  have HKd := Lib.hid hkd
  have HLl := Lib.hid hL
  have Hq1 := Lib.hid hq1
  have Hq2 := Lib.hid hq2
  have Hq3 := Lib.hid hq3
  clear h hlim hs hc hr hg hk ht hkd hL hq hq1 hq2 hq3
  go_enter Tryd.func31, Tryd.ntmps31
  go_wp2_with fail
  refine (impl_shk HS.out HCw.out).mono ?_
  rw [← HK.out]
  rintro e w1 ⟨rfl, hb⟩
  have HB := Lib.hid hb
  replace H := Lib.hid (H.out.behind (hb.mono HL.out))
  replace HL := Lib.hid (Nat.le_trans HL.out hb.size)
  replace HG := Lib.hid (HG.out.next hb)
  clear hb
  go_wp2_with fail
  refine (impl_oc H.out HL.out HKw.out HRw.out HG.out).mono ?_
  rw [← HT.out, ← HKd.out]
  rintro e w2 ⟨v2, rfl, h2, hb⟩
  obtain ⟨a2, c2, hv2, _⟩ := h2.open
  rw [← HLl.out] at hv2
  subst hv2
  have b3 := (Below.refl w2.heap.size w2).alloc (Nat.le_refl _) (.cells #[.int .i64 kd, .slice a2 L c2] 52)
  have k3 := heap_alloc_new w2 (.cells #[.int .i64 kd, .slice a2 L c2] 52)
  obtain ⟨W3, hW3⟩ : ∃ W, W = w2.alloc (.cells #[.int .i64 kd, .slice a2 L c2] 52) := ⟨_, rfl⟩
  rw [← hW3] at b3 k3
  have HW3 := Lib.hid hW3
  have HD := Lib.hid k3
  have HO := Lib.hid (show Rd W3.heap.size .u8 W3 (.slice a2 L c2) (ocB k r b) from (h2.next b3).rd)
  replace HB := Lib.hid ((HB.out.trans (hb.mono HB.out.size)).trans (b3.mono (HB.out.trans (hb.mono HB.out.size)).size))
  clear hb h2 b3 k3 hW3 H HL HG
  cases t with
  | false =>
    have HE := Lib.hid (Hq1.out rfl)
    have HB := Lib.hid HB.out
    go_wp2_with (rw [← HW3.out])
    go_ret2
    exact ⟨Or.inr ⟨HE.out, _, rfl⟩, by first | exact HB.out | (rw [← HW3.out]; exact HB.out)⟩
  | true =>
    by_cases h2 : kd = 2
    case neg =>
      have e1 : (kd != 2) = true := by rw [bne, beq_eq_false_iff_ne.2 h2]; rfl
      have HE := Lib.hid (Hq2.out (beq_eq_false_iff_ne.2 h2))
      obtain ⟨d0, d1, _⟩ := pcs HD.out
      rw [HW3.out] at d0 d1
      clear h2
      go_wp2_with fail
      go_ret2
      exact ⟨Or.inr ⟨HE.out, _, rfl⟩, by first | exact HB.out | (rw [← HW3.out]; exact HB.out)⟩
    have e1 : (kd != 2) = false := by rw [h2]; rfl
    have HE := Lib.hid (Hq3.out rfl (by rw [h2]; rfl))
    obtain ⟨d0, d1, _⟩ := pcs HD.out
    rw [HW3.out] at d0 d1
    clear h2
    go_wp2_with fail
    rw [← HW3.out]
    clear d0 d1
    obtain ⟨wd, hwd⟩ : ∃ x, x = W3.drew := ⟨_, rfl⟩
    have HWd := Lib.hid hwd
    replace HD : Hid (wd.heap[w2.heap.size]? = some (.cells #[.int .i64 kd, .slice a2 L c2] 52)) := Lib.hid (by rw [hwd]; exact HD.out)
    replace HO : Hid (Rd wd.heap.size .u8 wd (.slice a2 L c2) (ocB k r b)) := Lib.hid (by rw [hwd]; exact HO.out.drew)
    replace HB : Hid (Below w.heap.size w wd) := Lib.hid (by rw [hwd]; exact HB.out.drew)
    clear hwd
    obtain ⟨d0, d1, _⟩ := pcs HD.out
    rw [HWd.out] at d0 d1
    cases q with
    | false =>
      go_region_with (first
        | (go_at_call 29
           go_loud (rw [← HWd.out]
                    refine (impl_bod HCw.out).mono ?_
                    rintro e' w4 ⟨v4, rfl, h4, hb4⟩
                    have HY := Lib.hid h4.rd
                    replace HO := Lib.hid ((HO.out.behind hb4).mono hb4.size)
                    replace HD := Lib.hid (stood HD.out hb4)
                    replace HB := Lib.hid (HB.out.trans (hb4.mono HB.out.size))
                    obtain ⟨d0, d1, _⟩ := pcs HD.out
                    clear hb4 h4))
        | (go_at_call 58
           go_loud (refine (impl_eb HO.out HY.out).mono ?_
                    rw [HQ.out]
                    rintro e' w5 ⟨rfl, hw5⟩
                    subst hw5)))
      all_goals (
        go_wp2_with fail
        go_ret2
        exact ⟨Or.inr ⟨HE.out, _, rfl⟩, HB.out⟩)
    | true =>
      go_region_with (first
        | (go_at_call 29
           go_loud (rw [← HWd.out]
                    refine (impl_bod HCw.out).mono ?_
                    rintro e' w4 ⟨v4, rfl, h4, hb4⟩
                    have HY := Lib.hid h4.rd
                    replace HO := Lib.hid ((HO.out.behind hb4).mono hb4.size)
                    replace HD := Lib.hid (stood HD.out hb4)
                    replace HB := Lib.hid (HB.out.trans (hb4.mono HB.out.size))
                    obtain ⟨d0, d1, _⟩ := pcs HD.out
                    clear hb4 h4))
        | (go_at_call 58
           go_loud (refine (impl_eb HO.out HY.out).mono ?_
                    rw [HQ.out]
                    rintro e' w5 ⟨rfl, hw5⟩
                    subst hw5)))
      all_goals (
        go_wp2_with fail
        go_ret2
        exact ⟨Or.inl ⟨HE.out, rfl⟩, HB.out⟩)

set_option maxHeartbeats 8000000 in
/-- impl.OpenInvitation. -/
theorem impl_opi {l1 l2 : Nat} {w : World} {u v : Value} {cs b : List Int} {s p r : Int} {a : Addr} (hu : Rd l1 .i64 w u cs) (hv : Rd l2 .u8 w v b) (hl1 : l1 ≤ w.heap.size) (hl2 : l2 ≤ w.heap.size) (hs : (Lit.int .i64 s).wf = true) (hp : (Lit.int .i64 p).wf = true) (hr : (Lit.int .i64 r).wf = true) (hg : GV w) (hn : NV a w) :
    Calls Tryd.prog 10 #[.agg #[.int .i64 s, .int .i64 p], u, .int .i64 r, v] w fun e w' => e = .returned (.tuple #[.int .i64 (opI s p cs r b), .int .i64 (opK s p cs r b), .bool (opB s p cs r b)]) ∧ Below w.heap.size w w' := by
  obtain ⟨pu, cap, rfl, h1, h2, hc⟩ := hu.open
  have Hc := Lib.hid hc
  have HU := Lib.hid hu
  have HS := Lib.hid hs
  have HP := Lib.hid hp
  have HRw := Lib.hid hr
  have hc0 := heap_alloc_new w (.cells #[.int .i64 s, .int .i64 p] 25)
  have b1 := (Below.refl w.heap.size w).alloc (Nat.le_refl _) (.cells #[.int .i64 s, .int .i64 p] 25)
  obtain ⟨W0, hW0⟩ : ∃ W, W = w.alloc (.cells #[.int .i64 s, .int .i64 p] 25) := ⟨_, rfl⟩
  rw [← hW0] at hc0 b1
  have HW0 := Lib.hid hW0
  have HC := Lib.hid hc0
  have HB := Lib.hid b1
  have HV := Lib.hid hv
  have HLv := Lib.hid hl2
  have HLu := Lib.hid hl1
  have HG := Lib.hid hg
  have HN := Lib.hid hn
  obtain ⟨c0, c1, _⟩ := pcs HC.out
  rw [hW0] at c0 c1
  unfold maxLen at h2
  clear hu hc hv hl1 hl2 hs hp hr hg hn hc0 b1 hW0
  cases hq : okId s p with
  | false =>
    have HQ := Lib.hid hq
    have hB := op_bad hq r cs b
    have HE := Lib.hid (op_no hB)
    have HEb := Lib.hid hB
    clear hq hB
    go_enter Tryd.func10, Tryd.ntmps10
    go_wp2_with fail
    rw [← HW0.out]
    refine (impl_vid HS.out HP.out).mono ?_
    rw [HQ.out]
    rintro e w1 ⟨rfl, hb⟩
    replace HB := Lib.hid (HB.out.trans (hb.mono HB.out.size))
    clear hb c0 c1
    go_wp2_with fail
    exact bodyPost_ret (v := .tuple #[.int .i64 (-1), .int .i64 0, .bool false]) (by simp [results, Tryd.results10, go_sem]) rfl ⟨by rw [HE.out.1, HE.out.2, HEb.out], HB.out⟩
  | true =>
    have HQ := Lib.hid hq
    clear hq
    go_enter Tryd.func10, Tryd.ntmps10
    go_wp2_with fail
    rw [← HW0.out]
    refine (impl_vid HS.out HP.out).mono ?_
    rw [HQ.out]
    rintro e w1 ⟨rfl, hb⟩
    have HB1 := Lib.hid (HB.out.trans (hb.mono HB.out.size))
    have HB2 := Lib.hid hb
    clear hb c0 c1
    go_wp2_with fail
    go_loopw [20] (fun i wr => ∃ j : Nat, i = .int .i64 j ∧ j ≤ cs.length ∧ (∀ i, i < j → oq s r b (cs.getD i 0) = false) ∧ Below w.heap.size w wr ∧ Below W0.heap.size W0 wr) (fun i _ => cs.length - (intOf i).toNat)
    case atStart => exact ⟨0, rfl, Nat.zero_le _, fun i hi => absurd hi (Nat.not_lt_zero _), HB1.out, HB2.out⟩
    case round =>
      obtain ⟨j, rfl, hj, hno, hB, hB2⟩ := hrel
      replace HB1 := Lib.hid hB
      replace HB2 := Lib.hid hB2
      have HNo := Lib.hid hno
      clear hB hB2 hno
      by_cases hlt : j < cs.length
      · have e1 : decide ((j : Int) < (cs.length : Int)) = true := by simp; omega
        obtain ⟨bu, ou, rfl, hbu, hcell⟩ := Hc.out (by omega)
        have y1 := hcell _ (HB1.out.mono HLu.out) j hlt
        have HYw := Lib.hid (HU.out.wf hlt)
        obtain ⟨y, hy⟩ : ∃ y, y = cs.getD j 0 := ⟨_, rfl⟩
        rw [← hy] at y1 HYw
        have HY := Lib.hid hy
        obtain ⟨c0, c1, _⟩ := pcs (stood HC.out HB2.out)
        clear hcell hy
        go_wp2_with fail
        refine (acc_any (HV.out.behind (HB1.out.mono HLv.out)) (Nat.le_trans HLv.out HB1.out.size) HS.out HYw.out HRw.out (HG.out.next HB1.out)).mono ?_
        rintro e w2 ⟨(⟨ho, rfl⟩ | ⟨ho, tx, rfl⟩), hb⟩
        · have HO := Lib.hid ho
          have HB3 := Lib.hid (HB1.out.trans (hb.mono HB1.out.size))
          have n0 : w2.cell? ⟨0, 0, none⟩ = some (.iface 126 (.pointer (some a))) := HN.out.next HB3.out
          have HLt := Lib.hid hlt
          clear hb ho c0 c1 y1
          go_wp2_with fail
          refine (eis_nil _ _).mono ?_
          rintro e w3 ⟨rfl, hw⟩
          obtain rfl : w2 = w3 := hw.symm
          have HR := Lib.hid (op_found (r := r) HQ.out HLt.out HNo.out (by rw [← HY.out]; exact HO.out))
          clear hlt
          go_wp2_with fail
          exact bodyPost_ret (v := .tuple #[.int .i64 (j : Int), .int .i64 (skey s y), .bool true]) (by simp [results, Tryd.results10, go_sem]) rfl ⟨by rw [HR.out.1, HR.out.2.1, HR.out.2.2, ← HY.out], HB3.out⟩
        · have HO := Lib.hid ho
          have HB3 := Lib.hid (HB1.out.trans (hb.mono HB1.out.size))
          have HB4 := Lib.hid (HB2.out.trans (hb.mono HB2.out.size))
          have n0 : w2.cell? ⟨0, 0, none⟩ = some (.iface 126 (.pointer (some a))) := HN.out.next HB3.out
          clear hb ho c0 c1 y1
          go_wp2_with fail
          refine (eis_failed _ _ _ (HN.out.next HB3.out)).mono ?_
          rintro e w3 ⟨rfl, hb⟩
          replace HB3 := Lib.hid (HB3.out.trans (hb.mono HB3.out.size))
          replace HB4 := Lib.hid (HB4.out.trans (hb.mono HB4.out.size))
          clear hb n0
          go_wp2_with fail
          go_roundw
          case rel =>
            refine ⟨j + 1, by simp, hlt, fun i hi => ?_, HB3.out, HB4.out⟩
            rcases Nat.lt_or_ge i j with h9 | h9
            · exact HNo.out i h9
            · obtain rfl : i = j := by omega
              rw [← HY.out]
              exact HO.out
          case measure => simp [intOf]; omega
      · have e1 : decide ((j : Int) < (cs.length : Int)) = false := by simp; omega
        have ej : j = cs.length := by omega
        have hB := op_none (s := s) (p := p) (r := r) (b := b) (cs := cs) (fun i hi => HNo.out i (by omega))
        have HE := Lib.hid (op_no hB)
        have HEb := Lib.hid hB
        clear hB ej
        go_wp2_with fail
        exact bodyPost_ret (v := .tuple #[.int .i64 (-1), .int .i64 0, .bool false]) (by simp [results, Tryd.results10, go_sem]) rfl ⟨by rw [HE.out.1, HE.out.2, HEb.out], HB1.out⟩

end Go.Proofs.YtlhpjfhglkngfaaDoor
