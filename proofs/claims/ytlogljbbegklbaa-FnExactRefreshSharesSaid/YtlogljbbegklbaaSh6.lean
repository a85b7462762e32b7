/- RefreshShares, the document's: what it gives. No conditions but a size that a machine holds. -/
import Derived.Test.YtlogljbbegklbaaSh3
import Derived.Test.YtlogljbbegklbaaSh5
import Derived.Test.YtlogljbbegklbaaBa2
import Derived.Deep.RegionHeld3
namespace Go.Proofs.Ytlogljbbegklbaa
open Go Go.RowKit
set_option linter.unusedVariables false
attribute [local irreducible] kh

set_option maxHeartbeats 2000000 in
/-- spec.RefreshShares. -/
theorem spec_ref {l1 l2 : Nat} {w : World} {u v : Value} {zss : List (List Int)} {ss : List Int} (hu : Rd2 l1 .u8 w u zss) (hv : Rd l2 .i64 w v ss) (hl1 : l1 ≤ w.heap.size) (hl2 : l2 ≤ w.heap.size) (hn : tot zss ≤ 1099511627776) (hs : ss.length ≤ 1099511627776) :
    Calls Try.prog 37 #[u, v] w fun e w' => ∃ v', e = .returned (.tuple #[v', .bool (refOk zss ss)]) ∧ Own2 22 5 .u8 (ival w.heap.size w'.heap.size) w' v' (ref zss ss) ∧ Below w.heap.size w w' := by
  obtain ⟨i0, hi, hz0, hz1, hz2⟩ := info_parts infou8
  obtain ⟨i1, hi', hy0, hy1, hy2⟩ := info_parts infou8s
  have Hhi := Lib.hid hi
  have Hhi' := Lib.hid hi'
  have HU := Lib.hid hu
  have HV := Lib.hid hv
  obtain ⟨a, cap, rfl, h1, h2, hcl⟩ := hu.open
  have Hcl := Lib.hid hcl
  obtain ⟨a', cap', rfl, h1', h2', _⟩ := hv.open
  have HN := Lib.hid hn
  have hzl : zss.length ≤ 1099511627776 := by unfold tot at hn; omega
  unfold maxLen at h2 h2'
  have HNo := Lib.hid (ref_no (zss := zss) (s := ss))
  have HSm := Lib.hid (same_any HU.out hl1)
  clear hu hv hi hi' hcl
  by_cases hk : refOk zss ss = true
  · have HK := Lib.hid hk
    obtain ⟨k1, k2, k3⟩ := refOk_parts hk
    have hb2 := okS_bounds k1
    have HZ := Lib.hid (zrs_sh hk)
    have HYes := Lib.hid (ref_yes hk)
    rw [k1] at HSm
    rw [hk]
    have e2 : ((ss.length : Int) != (zss.length : Int) - 1) = false := by simp; omega
    have hpos : 0 < zss.length := by omega
    have hposi : (0 : Int) < (zss.length : Int) := by omega
    obtain ⟨b, o, rfl, hbl, hcell⟩ := Hcl.out hpos
    obtain ⟨z0, hz0'⟩ : ∃ zs, zss[0]? = some zs := ⟨_, List.getElem?_eq_getElem hpos⟩
    have HC := Lib.hid hcell
    have HZ0 := Lib.hid hz0'
    obtain ⟨L, hL⟩ : ∃ L, L = z0.length := ⟨_, rfl⟩
    have HLe : Hid (L = (zss.getD 0 []).length) := Lib.hid (by rw [hL, getD_of hz0'])
    have HLz := Lib.hid hL
    have hL4 : L ≤ 400 := by rw [HLe.out]; exact k3
    have e3 : decide ((400 : Int) < (L : Int)) = false := by simp; omega
    clear hk k1 k3 hcell hz0' hL
    go_enter Try.func37, Try.ntmps37
    go_wp2_with fail
    refine HSm.out.mono ?_
    rintro e w1 ⟨rfl, hw⟩
    have HB1 := Lib.hid (below_drewN (B := w.heap.size) hw)
    obtain ⟨u0, c0, hr0⟩ := HC.out w1 (HB1.out.mono hl1) 0 z0 HZ0.out
    obtain ⟨a0, k0, hv0, _⟩ := hr0.open
    rw [← HLz.out] at hv0
    subst hv0
    rw [Nat.add_zero] at c0
    clear hw hr0
    go_wp2_with (first | (at_make; refine wpList_make_full _ rfl _ _ 22 rfl w1.heap.size 5 i0 (.int .u8 0) 1 Try.underlying22 Hhi.out hz0 hz1 .i64 .i64 _ _ L rfl rfl rfl rfl (by rw [hz2]; omega) (by unfold maxLen; omega) (Nat.le_refl _) ?_))
    intro w3 hown hg
    have hZr := own_made hown hg.size (by decide)
    have HZr : Hid (Own 5 .u8 w1.heap.size w3 (.slice (some ⟨w1.heap.size, 0, none⟩) L L) (zrs L)) := Lib.hid hZr
    have hb3 := (Below.refl w1.heap.size w1).grown hg (Nat.le_refl _) (fun k hk => by cases hk)
    have HB3 := Lib.hid (HB1.out.trans (hb3.mono HB1.out.size))
    have HV3 := Lib.hid (HV.out.behind (HB3.out.mono hl2))
    clear hown hg hZr hb3 c0
    go_wp2_with fail
    refine (spec_shB HZr.out.rd HV3.out (Nat.le_refl _) (Nat.le_trans hl2 HB3.out.size) hs).mono ?_
    rintro e w4 ⟨v4, rfl, hO4, hb4⟩
    have hZ := HZ.out
    rw [← HLe.out] at hZ
    obtain ⟨R, hR⟩ : ∃ R, R = shB (zrs L) ss := ⟨_, rfl⟩
    rw [← hR] at hO4 hZ
    have HR : Hid (R = shB (zrs (zss.getD 0 []).length) ss) := Lib.hid (by rw [hR, HLe.out])
    have HRf : Hid (fl R ≤ 2800) := Lib.hid (by rw [hR]; exact shB_fl _ _)
    have HRl := Lib.hid hZ
    have HS := Lib.hid hO4.rd2
    have HB4 := Lib.hid (HB3.out.trans (hb4.mono HB3.out.size))
    obtain ⟨a4, c4, hv4, _, hc4, hg4⟩ := hO4.rd2.open
    rw [hZ] at hv4 hg4
    obtain ⟨g4, o4, hg4, hgl4, hcell4⟩ := hg4 (by omega)
    subst hg4
    subst hv4
    have HC4 := Lib.hid hcell4
    unfold maxLen at hc4
    have HO : Hid (Own2 22 5 .u8 (ival w4.heap.size (w4.alloc (.cells #[] 22)).heap.size) (w4.alloc (.cells #[] 22)) (.slice (some ⟨w4.heap.size, 0, none⟩) 0 0) ((refL zss ss).take 0)) := Lib.hid (Own2.lit _ _ _ (by unfold ival; simp))
    clear hO4 hb4 hR hZ hcell4
    go_wp2_with fail
    go_loopw [7, 8] (fun s i wr => ∃ j : Nat, i = .int .i64 j ∧ j ≤ zss.length ∧ Own2 22 5 .u8 (ival w4.heap.size wr.heap.size) wr s ((refL zss ss).take j) ∧ Below w4.heap.size w4 wr) (fun _ i _ => zss.length - (intOf i).toNat)
    case atStart => exact ⟨0, rfl, Nat.zero_le _, HO.out, (Below.refl _ _).alloc (Nat.le_refl _) _⟩
    case round =>
      obtain ⟨j, rfl, hj, hO, hB⟩ := hrel
      replace HO := Lib.hid hO
      have HB := Lib.hid hB
      clear hO hB
      by_cases hlt : j < zss.length
      · have e4 : decide ((j : Int) < (zss.length : Int)) = true := by simp; omega
        have hjI : (j : Int) < (zss.length : Int) := by omega
        obtain ⟨zs, hzs⟩ : ∃ zs, zss[j]? = some zs := ⟨_, List.getElem?_eq_getElem hlt⟩
        have hjR : j < R.length := by rw [HRl.out]; exact hlt
        obtain ⟨ys, hys⟩ : ∃ ys, R[j]? = some ys := ⟨_, List.getElem?_eq_getElem hjR⟩
        have hBw : Below w.heap.size w wr := HB4.out.trans (HB.out.mono HB4.out.size)
        obtain ⟨x, cx, rx⟩ := HC.out wr (hBw.mono hl1) j zs hzs
        obtain ⟨y, cy, ry⟩ := HC4.out wr HB.out j ys hys
        have HX := Lib.hid rx
        have HY := Lib.hid ry
        have HCx : Hid (∀ w', Below w4.heap.size wr w' → w'.cell? ⟨b, o + j, none⟩ = some x ∧ w'.cell? ⟨g4, o4 + j, none⟩ = some y) := Lib.hid (fun w' hb' =>
          ⟨(hb'.cell (p := ⟨b, o + j, none⟩) (show b < w4.heap.size by have := HB4.out.size; omega)).trans cx, (hb'.cell (p := ⟨g4, o4 + j, none⟩) hgl4).trans cy⟩)
        have HLn : Hid (zs.length + ys.length ≤ 140737488355328) := Lib.hid (by
          have h5 := row_le hlt
          have h6 := row_le (zss := R) hjR
          rw [getD_of hzs] at h5
          rw [getD_of hys] at h6
          have h7 := HRf.out
          have h8 := HN.out
          unfold tot at h8
          omega)
        have HT : Hid ((refL zss ss).take j ++ [xorl zs ys] = (refL zss ss).take (j + 1)) := Lib.hid (by
          rw [List.take_add_one, refL_get hlt, ← HR.out, getD_of hzs, getD_of hys]; rfl)
        have HLb : Hid ((((refL zss ss).take j).length + 1) * 24 ≤ 140737488355328) := Lib.hid (by rw [List.length_take]; omega)
        have d0 := HCx.out wr.drew (Below.refl _ _).drew
        have HS1 := Lib.hid (Nat.le_trans hl1 hBw.size)
        have HS2 := Lib.hid HB.out.size
        clear hzs hys rx ry hBw
        go_wp2_with fail
        go_region_held3 (fun w' => w'.cell? ⟨b, o + j, none⟩ = some x ∧ w'.cell? ⟨g4, o4 + j, none⟩ = some y) (first | assumption | go_keep) ((first
          | (go_at_call 60
             go_loud (refine (spec_xb HX.out.drew HY.out.drew HS1.out HS2.out HLn.out).mono ?_
                      rintro e' w5 ⟨v5, rfl, h5, hb5⟩
                      obtain ⟨a5, c5, hv5, _⟩ := h5.open
                      obtain ⟨L5, hL5⟩ : ∃ L, L = (xorl zs ys).length := ⟨_, rfl⟩
                      rw [← hL5] at hv5
                      subst hv5
                      have O5 := Lib.hid (h5.alloc (.cells #[.slice a5 L5 c5] 22))
                      have HO5 := Lib.hid ((HO.out.drew.next hb5).alloc (.cells #[.slice a5 L5 c5] 22))
                      have hb5' : Below w4.heap.size wr w5 := (Below.refl _ _).drew.trans (hb5.mono HS2.out)
                      have B5 := Lib.hid (hb5'.alloc (by have := HS2.out; have := hb5'.size; omega) (.cells #[.slice a5 L5 c5] 22))
                      have d5 := HCx.out w5 hb5'
                      have d6 := HCx.out _ B5.out
                      clear h5 hb5 hb5' hL5))
          | (go_loud (refine step_append_row _ (by rfl) _ _ 27 (by rfl) 22 5 i1 24 Try.underlying27 Hhi'.out hy0 hy1 hy2 (by omega) (by rfl) HO5.out HS2.out (by have := B5.out.size; simpa using this) (by rfl) (cell_one_new _ _ _ 0 _ rfl) O5.out HLb.out ?_
                      intro v6 w6 h7 h8
                      rw [HT.out] at h7
                      have H7 := Lib.hid h7
                      have B7 := Lib.hid (B5.out.trans (KeptF.below (B := w4.heap.size) (KeptF.of_grown (F := ival w4.heap.size wr.heap.size) h8 (HO5.out.in_)) (fun b hb => hb.1) (by have h1 := B5.out.size; have h2 := HS2.out; omega)))
                      have d7 := HCx.out _ B7.out
                      clear h7 h8))))
        go_wp2_with fail
        go_roundw
        case rel => exact ⟨j + 1, by simp, hlt, H7.out, HB.out.trans B7.out⟩
        case measure => simp [intOf]; omega
      · have e4 : decide ((j : Int) < (zss.length : Int)) = false := by simp; omega
        have ej : j = zss.length := by omega
        have HE : Hid ((refL zss ss).take j = ref zss ss) := Lib.hid (by
          rw [HYes.out, ej, List.take_of_length_le (by rw [refL_len]; exact Nat.le_refl _)])
        clear ej
        go_wp2_with fail
        go_ret2
        refine ⟨_, rfl, ?_, HB4.out.trans (HB.out.mono HB4.out.size)⟩
        rw [← HE.out]
        exact HO.out.mono (fun b hb => by have := HB4.out.size; unfold ival at hb ⊢; omega)
  · have hkf : refOk zss ss = false := by simpa using hk
    rw [hkf]
    have HRn := Lib.hid (HNo.out hkf)
    obtain ⟨q, hq⟩ : ∃ q, q = okS zss := ⟨_, rfl⟩
    rw [← hq] at HSm
    cases q
    · clear hk hkf hq
      go_enter Try.func37, Try.ntmps37
      go_wp2_with fail
      refine HSm.out.mono ?_
      rintro e w1 ⟨rfl, hw⟩
      have HB1 := Lib.hid (below_drewN (B := w.heap.size) hw)
      have HU1 := Lib.hid (HU.out.behind (HB1.out.mono hl1))
      clear hw
      go_wp2_with fail
      refine (l4Copy_any HU1.out (Nat.le_trans hl1 HB1.out.size) HN.out).mono ?_
      rintro e w2 ⟨v2, rfl, h5, hb5⟩
      have H5 := Lib.hid (h5.mono (G := ival w.heap.size w2.heap.size) (fun b hb => by have := HB1.out.size; unfold ival at hb ⊢; omega))
      have HB5 := Lib.hid (HB1.out.trans (hb5.mono HB1.out.size))
      clear h5 hb5
      go_wp2_with fail
      go_ret2
      exact ⟨_, rfl, by rw [HRn.out]; exact H5.out, HB5.out⟩
    · have k1 : okS zss = true := hq.symm
      have hb2 := okS_bounds k1
      by_cases hlen : ss.length + 1 = zss.length
      · have hbig : ¬ (zss.getD 0 []).length ≤ 400 := fun h => by rw [refOk_of k1 hlen h] at hkf; cases hkf
        have e2 : ((ss.length : Int) != (zss.length : Int) - 1) = false := by simp; omega
        have hpos : 0 < zss.length := by omega
        have hposi : (0 : Int) < (zss.length : Int) := by omega
        obtain ⟨b, o, rfl, hbl, hcell⟩ := Hcl.out hpos
        obtain ⟨z0, hz0'⟩ : ∃ zs, zss[0]? = some zs := ⟨_, List.getElem?_eq_getElem hpos⟩
        have HC := Lib.hid hcell
        have HZ0 := Lib.hid hz0'
        obtain ⟨L, hL⟩ : ∃ L, L = z0.length := ⟨_, rfl⟩
        have HLz := Lib.hid hL
        have hL4 : 400 < L := by rw [getD_of hz0'] at hbig; omega
        have hL5 : L ≤ 1099511627776 := by have := maxL_fl hn 0; rw [getD_of hz0'] at this; omega
        have e3 : decide ((400 : Int) < (L : Int)) = true := by simp; omega
        clear hk hkf hq k1 hbig hcell hz0' hL
        go_enter Try.func37, Try.ntmps37
        go_wp2_with fail
        refine HSm.out.mono ?_
        rintro e w1 ⟨rfl, hw⟩
        have HB1 := Lib.hid (below_drewN (B := w.heap.size) hw)
        have HU1 := Lib.hid (HU.out.behind (HB1.out.mono hl1))
        obtain ⟨u0, c0, hr0⟩ := HC.out w1 (HB1.out.mono hl1) 0 z0 HZ0.out
        obtain ⟨a0, k0, hv0, _⟩ := hr0.open
        rw [← HLz.out] at hv0
        subst hv0
        rw [Nat.add_zero] at c0
        clear hw hr0
        go_wp2_with fail
        refine (l4Copy_any HU1.out (Nat.le_trans hl1 HB1.out.size) HN.out).mono ?_
        rintro e w2 ⟨v2, rfl, h5, hb5⟩
        have H5 := Lib.hid (h5.mono (G := ival w.heap.size w2.heap.size) (fun b hb => by have := HB1.out.size; unfold ival at hb ⊢; omega))
        have HB5 := Lib.hid (HB1.out.trans (hb5.mono HB1.out.size))
        clear h5 hb5 c0
        go_wp2_with fail
        go_ret2
        exact ⟨_, rfl, by rw [HRn.out]; exact H5.out, HB5.out⟩
      · have e2 : ((ss.length : Int) != (zss.length : Int) - 1) = true := by simp; omega
        clear hk hkf hq k1 hlen
        go_enter Try.func37, Try.ntmps37
        go_wp2_with fail
        refine HSm.out.mono ?_
        rintro e w1 ⟨rfl, hw⟩
        have HB1 := Lib.hid (below_drewN (B := w.heap.size) hw)
        have HU1 := Lib.hid (HU.out.behind (HB1.out.mono hl1))
        clear hw
        go_wp2_with fail
        refine (l4Copy_any HU1.out (Nat.le_trans hl1 HB1.out.size) HN.out).mono ?_
        rintro e w2 ⟨v2, rfl, h5, hb5⟩
        have H5 := Lib.hid (h5.mono (G := ival w.heap.size w2.heap.size) (fun b hb => by have := HB1.out.size; unfold ival at hb ⊢; omega))
        have HB5 := Lib.hid (HB1.out.trans (hb5.mono HB1.out.size))
        clear h5 hb5
        go_wp2_with fail
        go_ret2
        exact ⟨_, rfl, by rw [HRn.out]; exact H5.out, HB5.out⟩

end Go.Proofs.Ytlogljbbegklbaa
