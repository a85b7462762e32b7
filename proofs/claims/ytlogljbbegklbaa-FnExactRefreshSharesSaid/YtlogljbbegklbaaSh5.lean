/- RefreshShares, the program's: what it gives. No conditions but a size that a machine holds. -/
import Derived.Test.YtlogljbbegklbaaSh2
import Derived.Test.YtlogljbbegklbaaSwap
namespace Go.Proofs.Ytlogljbbegklbaa
open Go Go.RowKit
set_option linter.unusedVariables false
attribute [local irreducible] kh

theorem refL_set {zss : List (List Int)} {s : List Int} {j : Nat} {zs : List Int} (h : zss[j]? = some zs) {y : List Int} (hy : y = xorl zs ((shB (zrs (zss.getD 0 []).length) s).getD j [])) :
    ((refL zss s).take j ++ zss.drop j).set j y = (refL zss s).take (j + 1) ++ zss.drop (j + 1) := by
  have hj := (List.getElem?_eq_some_iff.1 h).1
  have hlen : ((refL zss s).take j).length = j := by rw [List.length_take, refL_len]; omega
  rw [List.set_append_right _ _ (by omega), hlen, Nat.sub_self, List.drop_eq_getElem_cons hj, List.set_cons_zero, List.take_add_one, refL_get hj, getD_of h, ← hy]
  simp

theorem maxL_fl {zss : List (List Int)} (hn : tot zss ≤ 1099511627776) (j : Nat) : (zss.getD j []).length ≤ 1099511627776 := by
  have := fl_get_le (zss := zss) j
  unfold tot at hn
  omega

set_option maxHeartbeats 2000000 in
/-- impl.RefreshShares. -/
theorem impl_ref {l1 l2 : Nat} {w : World} {u v : Value} {zss : List (List Int)} {ss : List Int} (hu : Rd2 l1 .u8 w u zss) (hv : Rd l2 .i64 w v ss) (hl1 : l1 ≤ w.heap.size) (hl2 : l2 ≤ w.heap.size) (hn : tot zss ≤ 1099511627776) (hs : ss.length ≤ 1099511627776) :
    Calls Try.prog 16 #[u, v] w fun e w' => ∃ v', e = .returned (.tuple #[v', .bool (refOk zss ss)]) ∧ Own2 22 5 .u8 (ival w.heap.size w'.heap.size) w' v' (ref zss ss) ∧ Below w.heap.size w w' := by
  obtain ⟨i0, hi, hz0, hz1, hz2⟩ := info_parts infou8
  have Hhi := Lib.hid hi
  have HU := Lib.hid hu
  have HV := Lib.hid hv
  obtain ⟨a, cap, rfl, h1, h2, _⟩ := hu.open
  obtain ⟨a', cap', rfl, h1', h2', _⟩ := hv.open
  have HN := Lib.hid hn
  have hzl : zss.length ≤ 1099511627776 := by unfold tot at hn; omega
  unfold maxLen at h2 h2'
  have HNo := Lib.hid (ref_no (zss := zss) (s := ss))
  have HJl : Hid ((jsh zss).length ≤ 1099511627776) := Lib.hid (by have := jsh_len zss; unfold tot at hn; omega)
  have HJs := Lib.hid (jsh_len_same (zss := zss))
  clear hu hv hi
  obtain ⟨q, hq⟩ : ∃ q, q = okS zss := ⟨_, rfl⟩
  have HQ := Lib.hid hq
  by_cases hk : refOk zss ss = true
  · have HK := Lib.hid hk
    obtain ⟨k1, k2, k3⟩ := refOk_parts hk
    have hb2 := okS_bounds k1
    have HZ := Lib.hid (zrs_sh hk)
    have HYes := Lib.hid (ref_yes hk)
    have hq1 : q = true := by rw [hq, k1]
    have HL : Hid ((jsh zss).length = (zss.getD 0 []).length) := Lib.hid (HJs.out k1)
    rw [hk]
    subst hq1
    clear hq hk k1
    have e2 : ((ss.length : Int) != (zss.length : Int) - 1) = false := by simp; omega
    go_enter Try.func16, Try.ntmps16
    go_wp2_with fail
    refine (copyList_any HU.out hl1 HN.out).mono ?_
    rintro e w1 ⟨v1, rfl, hO1, hb1⟩
    have HO := Lib.hid hO1
    have HB1 := Lib.hid hb1
    have HU1 := Lib.hid (HU.out.behind (hb1.mono hl1))
    obtain ⟨a1, c1, hv1, _, hc1, hg1⟩ := hO1.open
    obtain ⟨g1, hg1, hF1⟩ := hg1 (by omega)
    subst hg1
    subst hv1
    unfold maxLen at hc1
    clear hO1 hb1 hF1
    go_wp2_with fail
    refine (impl_js HU1.out (Nat.le_trans hl1 HB1.out.size) HN.out).mono ?_
    rw [← HQ.out]
    rintro e w2 ⟨v2, rfl, hO2, hb2'⟩
    replace HO := Lib.hid (HO.out.next hb2')
    have HB2 := Lib.hid (HB1.out.trans (hb2'.mono HB1.out.size))
    have hs12 := Lib.hid hb2'.size
    have hlen2 := hO2.rd.len
    obtain ⟨a2, c2, hv2, _⟩ := hO2.open
    obtain ⟨L, hL⟩ : ∃ L, L = (jsh zss).length := ⟨_, rfl⟩
    rw [← hL] at hv2
    subst hv2
    have hL4 : L ≤ 400 := by rw [hL, HL.out]; exact k3
    have HLe : Hid (L = (zss.getD 0 []).length) := Lib.hid (by rw [hL, HL.out])
    have e3 : decide ((400 : Int) < (L : Int)) = false := by simp; omega
    clear hO2 hb2' hL hlen2 k3
    go_wp2_with (first | (at_make; refine wpList_make_full _ rfl _ _ 22 rfl w2.heap.size 5 i0 (.int .u8 0) 1 Try.underlying22 Hhi.out hz0 hz1 .i64 .i64 _ _ L rfl rfl rfl rfl (by rw [hz2]; omega) (by unfold maxLen; omega) (Nat.le_refl _) ?_))
    intro w3 hown hg
    have hZr := own_made hown hg.size (by decide)
    have HZr : Hid (Own 5 .u8 w2.heap.size w3 (.slice (some ⟨w2.heap.size, 0, none⟩) L L) (zrs L)) := Lib.hid hZr
    have hb3 := (Below.refl w2.heap.size w2).grown hg (Nat.le_refl _) (fun k hk => by cases hk)
    replace HO := Lib.hid (HO.out.next hb3)
    have HB3 := Lib.hid (HB2.out.trans (hb3.mono HB2.out.size))
    have HV3 := Lib.hid (HV.out.behind (HB3.out.mono hl2))
    have hs1 : Hid (w1.heap.size ≤ w3.heap.size) := Lib.hid (by have h5 := hs12.out; have h6 := hb3.size; omega)
    clear hown hg hZr hb3
    go_wp2_with fail
    refine (impl_shB HZr.out.rd HV3.out (Nat.le_refl _) (Nat.le_trans hl2 HB3.out.size) hs).mono ?_
    rintro e w4 ⟨v4, rfl, hO4, hb4⟩
    have hZ := HZ.out
    rw [← HLe.out] at hZ
    obtain ⟨R, hR⟩ : ∃ R, R = shB (zrs L) ss := ⟨_, rfl⟩
    rw [← hR] at hO4 hZ
    have HR : Hid (R = shB (zrs (zss.getD 0 []).length) ss) := Lib.hid (by rw [hR, HLe.out])
    have HRf : Hid (fl R ≤ 2800) := Lib.hid (by rw [hR]; exact shB_fl _ _)
    have HRl := Lib.hid hZ
    have HS := Lib.hid hO4
    replace HO := Lib.hid (HO.out.next hb4)
    have HB4 := Lib.hid (HB3.out.trans (hb4.mono HB3.out.size))
    obtain ⟨a4, c4, hv4, _, hc4, hg4⟩ := hO4.open
    rw [hZ] at hv4 hg4
    obtain ⟨g4, hg4, _⟩ := hg4 (by omega)
    subst hg4
    subst hv4
    unfold maxLen at hc4
    have hs4 : Hid (w3.heap.size ≤ w4.heap.size) := Lib.hid hb4.size
    clear hO4 hb4 hR hZ
    go_wp2_with fail
    go_loopw [40] (fun i wr => ∃ (j : Nat) (F : Nat → Prop), i = .int .i64 j ∧ j ≤ zss.length ∧ Own2 22 5 .u8 F wr (.slice (some ⟨g1, 0, none⟩) zss.length c1) ((refL zss ss).take j ++ zss.drop j) ∧ (∀ b, F b → w.heap.size ≤ b ∧ b < wr.heap.size) ∧ (∀ b, F b → ¬ ival w3.heap.size w4.heap.size b) ∧
      Own2 22 5 .u8 (ival w3.heap.size w4.heap.size) wr (.slice (some ⟨g4, 0, none⟩) zss.length c4) R ∧ w4.heap.size ≤ wr.heap.size ∧ Below w.heap.size w wr) (fun i _ => zss.length - (intOf i).toNat)
    case atStart =>
      exact ⟨0, _, rfl, Nat.zero_le _, by rw [List.take_zero, List.drop_zero]; exact HO.out, fun b hb => by have := hs1.out; have := hs4.out; unfold ival at hb; omega, fun b hb hb' => by have := hs1.out; unfold ival at hb hb'; omega, HS.out, Nat.le_refl _, HB4.out⟩
    case round =>
      obtain ⟨j, F, rfl, hj, hO, hF, hD, hS, hsz, hB⟩ := hrel
      replace HO := Lib.hid hO
      have HF := Lib.hid hF
      have HD := Lib.hid hD
      replace HS := Lib.hid hS
      have HSz := Lib.hid hsz
      have HB := Lib.hid hB
      clear hO hF hD hS hsz hB
      by_cases hlt : j < zss.length
      · have e4 : decide ((j : Int) < (zss.length : Int)) = true := by simp; omega
        obtain ⟨zs, hzs⟩ : ∃ zs, zss[j]? = some zs := ⟨_, List.getElem?_eq_getElem hlt⟩
        have hjR : j < R.length := by rw [HRl.out]; exact hlt
        obtain ⟨ys, hys⟩ : ∃ ys, R[j]? = some ys := ⟨_, List.getElem?_eq_getElem hjR⟩
        have hst : ((refL zss ss).take j ++ zss.drop j)[j]? = some zs := mid_get (by rw [List.length_take, refL_len]; omega) hzs
        obtain ⟨x, cx, ox, ix, hx⟩ := HO.out.swap hst (fun b hb => (HF.out b hb).2)
        obtain ⟨y, cy, oy, iy, _⟩ := HS.out.at hys
        have HApp : Hid (Apart y x) := Lib.hid (Apart.of_in iy ix (fun b hb hb' => HD.out b hb' hb))
        have HOx := Lib.hid ox
        have HOy := Lib.hid oy
        have HIx := Lib.hid ix
        have HX := Lib.hid hx
        have HLn : Hid (zs.length + ys.length ≤ 140737488355328) := Lib.hid (by
          have h5 := row_le hlt
          have h6 := row_le (zss := R) hjR
          rw [getD_of hzs] at h5
          rw [getD_of hys] at h6
          have h7 := HRf.out
          have h8 := HN.out
          unfold tot at h8
          omega)
        have HT : Hid (((refL zss ss).take j ++ zss.drop j).set j (xorl zs ys) = (refL zss ss).take (j + 1) ++ zss.drop (j + 1)) := Lib.hid (refL_set hzs (by rw [← HR.out, getD_of hys]))
        clear hzs hys hst ox oy ix iy hx
        go_wp2_with fail
        refine (xorInto_own HOx.out HOy.out HApp.out HLn.out).mono ?_
        rintro e w5 ⟨v5, rfl, h5, hk5, hp5⟩
        obtain ⟨d1, d2, d3⟩ := HX.out w5 hk5
        obtain ⟨d4, d5⟩ := d3 v5 _ h5 hp5
        rw [HT.out] at d4
        have D4 := Lib.hid d4
        have D5 := Lib.hid d5
        have HK5 := Lib.hid hk5
        have HP5 := Lib.hid hp5
        have HO5 := Lib.hid h5
        obtain ⟨a5, c5, hv5, _⟩ := h5.open
        obtain ⟨L5, hL5⟩ : ∃ L, L = (xorl zs ys).length := ⟨_, rfl⟩
        rw [← hL5] at hv5
        subst hv5
        clear h5 hk5 hp5 d3 d4 d5 hL5
        go_wp2_with fail
        go_roundw
        case rel =>
          have hgF : F g1 := HO.out.in_ g1 rfl
          have hsz5 := HK5.out.size
          have hszs : (w5.setCell ⟨g1, j, none⟩ (.slice a5 L5 c5)).heap.size = w5.heap.size := by simp [World.setCell]
          have hkF : KeptF F wr (w5.setCell ⟨g1, j, none⟩ (.slice a5 L5 c5)) := (HK5.out.mono (fun b hb => HIx.out b hb)).trans (KeptF.of_grown D5.out (fun b hb => by injection hb with hb; subst hb; exact hgF))
          refine ⟨j + 1, _, by simp, hlt, D4.out, fun b hb => ?_, fun b hb hb' => ?_, HS.out.keptF hkF (fun b hb hb' => HD.out b hb' hb), by rw [hszs]; have := HSz.out; omega, ?_⟩
          · rw [hszs]
            rcases hb with hb | hb
            · have := HF.out b hb; omega
            · have h6 := (HO5.out.lt b hb).2
              refine ⟨?_, h6⟩
              rcases HP5.out with h7 | h7
              · rw [h7] at hb
                exact (HF.out b (HIx.out b hb)).1
              · have := h7 b hb
                have := HB.out.size
                omega
          · rcases hb with hb | hb
            · exact HD.out b hb hb'
            · rcases HP5.out with h7 | h7
              · rw [h7] at hb
                exact HD.out b (HIx.out b hb) hb'
              · have h8 := h7 b hb
                have := HSz.out
                unfold ival at hb'
                omega
          · exact HB.out.trans (hkF.below (fun b hb => (HF.out b hb).1) HB.out.size)
        case measure => simp [intOf]; omega
      · have e4 : decide ((j : Int) < (zss.length : Int)) = false := by simp; omega
        have ej : j = zss.length := by omega
        have HE : Hid ((refL zss ss).take j ++ zss.drop j = ref zss ss) := Lib.hid (by
          rw [HYes.out, ej, List.take_of_length_le (by rw [refL_len]; exact Nat.le_refl _), List.drop_length, List.append_nil])
        clear ej
        go_wp2_with fail
        go_ret2
        refine ⟨_, rfl, ?_, HB.out⟩
        rw [← HE.out]
        exact HO.out.mono (fun b hb => HF.out b hb)
  · have hkf : refOk zss ss = false := by simpa using hk
    rw [hkf]
    have HRn := Lib.hid (HNo.out hkf)
    cases q
    · clear hk hkf hq
      go_enter Try.func16, Try.ntmps16
      go_wp2_with fail
      refine (copyList_any HU.out hl1 HN.out).mono ?_
      rintro e w1 ⟨v1, rfl, hO1, hb1⟩
      have HO := Lib.hid hO1
      have HB1 := Lib.hid hb1
      have HU1 := Lib.hid (HU.out.behind (hb1.mono hl1))
      clear hO1 hb1
      go_wp2_with fail
      refine (impl_js HU1.out (Nat.le_trans hl1 HB1.out.size) HN.out).mono ?_
      rw [← HQ.out]
      rintro e w2 ⟨v2, rfl, hO2, hb2'⟩
      replace HO := Lib.hid ((HO.out.next hb2').mono (G := ival w.heap.size w2.heap.size) (fun b hb => by have := hb2'.size; unfold ival at hb ⊢; omega))
      have HB2 := Lib.hid (HB1.out.trans (hb2'.mono HB1.out.size))
      clear hO2 hb2'
      go_wp2_with fail
      go_ret2
      exact ⟨_, rfl, by rw [HRn.out]; exact HO.out, HB2.out⟩
    · have k1 : okS zss = true := hq.symm
      have hb2 := okS_bounds k1
      have HL : Hid ((jsh zss).length = (zss.getD 0 []).length) := Lib.hid (HJs.out k1)
      by_cases hlen : ss.length + 1 = zss.length
      · have hbig : ¬ (zss.getD 0 []).length ≤ 400 := fun h => by rw [refOk_of k1 hlen h] at hkf; cases hkf
        have HBig : Hid (400 < (jsh zss).length) := Lib.hid (by rw [HL.out]; omega)
        have e2 : ((ss.length : Int) != (zss.length : Int) - 1) = false := by simp; omega
        clear hk hkf hq k1 hbig
        go_enter Try.func16, Try.ntmps16
        go_wp2_with fail
        refine (copyList_any HU.out hl1 HN.out).mono ?_
        rintro e w1 ⟨v1, rfl, hO1, hb1⟩
        have HO := Lib.hid hO1
        have HB1 := Lib.hid hb1
        have HU1 := Lib.hid (HU.out.behind (hb1.mono hl1))
        clear hO1 hb1
        go_wp2_with fail
        refine (impl_js HU1.out (Nat.le_trans hl1 HB1.out.size) HN.out).mono ?_
        rw [← HQ.out]
        rintro e w2 ⟨v2, rfl, hO2, hb2'⟩
        replace HO := Lib.hid ((HO.out.next hb2').mono (G := ival w.heap.size w2.heap.size) (fun b hb => by have := hb2'.size; unfold ival at hb ⊢; omega))
        have HB2 := Lib.hid (HB1.out.trans (hb2'.mono HB1.out.size))
        obtain ⟨a2, c2, hv2, _⟩ := hO2.open
        obtain ⟨L, hL⟩ : ∃ L, L = (jsh zss).length := ⟨_, rfl⟩
        rw [← hL] at hv2
        subst hv2
        have hL4 : 400 < L := by rw [hL]; exact HBig.out
        have hL5 : L ≤ 1099511627776 := by rw [hL]; exact HJl.out
        have e3 : decide ((400 : Int) < (L : Int)) = true := by simp; omega
        clear hO2 hb2' hL
        go_wp2_with fail
        go_ret2
        exact ⟨_, rfl, by rw [HRn.out]; exact HO.out, HB2.out⟩
      · have e2 : ((ss.length : Int) != (zss.length : Int) - 1) = true := by simp; omega
        clear hk hkf hq k1 hlen
        go_enter Try.func16, Try.ntmps16
        go_wp2_with fail
        refine (copyList_any HU.out hl1 HN.out).mono ?_
        rintro e w1 ⟨v1, rfl, hO1, hb1⟩
        have HO := Lib.hid hO1
        have HB1 := Lib.hid hb1
        have HU1 := Lib.hid (HU.out.behind (hb1.mono hl1))
        clear hO1 hb1
        go_wp2_with fail
        refine (impl_js HU1.out (Nat.le_trans hl1 HB1.out.size) HN.out).mono ?_
        rw [← HQ.out]
        rintro e w2 ⟨v2, rfl, hO2, hb2'⟩
        replace HO := Lib.hid ((HO.out.next hb2').mono (G := ival w.heap.size w2.heap.size) (fun b hb => by have := hb2'.size; unfold ival at hb ⊢; omega))
        have HB2 := Lib.hid (HB1.out.trans (hb2'.mono HB1.out.size))
        clear hO2 hb2'
        go_wp2_with fail
        go_ret2
        exact ⟨_, rfl, by rw [HRn.out]; exact HO.out, HB2.out⟩

end Go.Proofs.Ytlogljbbegklbaa
