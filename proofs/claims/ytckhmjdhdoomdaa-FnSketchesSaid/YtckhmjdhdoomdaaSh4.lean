/- ShareNumber, the program's and the document's: what each gives. No conditions but a length that a machine holds. -/
import Derived.Test.YtckhmjdhdoomdaaSh1
import Derived.Test.YtckhmjdhdoomdaaBa3
import Derived.Laws.EntriesVeiled
namespace Go.Proofs.Ytckhmjdhdoomdaa
open Go Go.RowKit
set_option linter.unusedVariables false
attribute [local irreducible] kh

theorem upt_head {f q : Nat → Int} {j n : Nat} (hj : j ≤ n) : (upt f q j n).take j = (List.range j).map f := by
  refine List.ext_getElem? fun i => ?_
  rw [List.getElem?_take]
  by_cases hi : i < j
  · rw [if_pos hi, upt_get _ _ _ _ _ (by omega), if_pos hi, List.getElem?_map, List.getElem?_range hi]; rfl
  · rw [if_neg hi, List.getElem?_eq_none (by simp; omega)]
theorem range_take {zs : List Int} {j : Nat} (hj : j ≤ zs.length) : (List.range j).map (fun i => zs.getD i 0) = zs.take j := by
  refine List.ext_getElem? fun i => ?_
  rw [List.getElem?_take]
  by_cases hi : i < j
  · rw [if_pos hi, List.getElem?_map, List.getElem?_range hi]
    simp [List.getD_eq_getElem?_getD, List.getElem?_eq_getElem (show i < zs.length by omega)]
  · rw [if_neg hi, List.getElem?_eq_none (by simp; omega)]

set_option maxHeartbeats 2000000 in
/-- impl.divide, of numbers. -/
theorem divI_any {l2 : Nat} {w : World} {v : Value} {x : Int} {ss : List Int} (hx : (Lit.int .i64 x).wf = true) (hv : Rd l2 .i64 w v ss) (hl2 : l2 ≤ w.heap.size) :
    Calls Try.prog 58 #[.int .i64 x, v, .func (.func 57) #[] #[], .func (.func 59) #[] #[]] w
      fun e w' => ∃ v', e = .returned v' ∧ Own 3 .i64 w.heap.size w' v' (shN x ss) ∧ Below w.heap.size w w' := by
  obtain ⟨i0, hi, hz0, hz1, hz2⟩ := info_parts infoi64
  have Hhi := Lib.hid hi
  have HX := Lib.hid hx
  have HV := Lib.hid hv
  have hlv := hv.len
  obtain ⟨a, cap, rfl, h1, h2, hcl⟩ := hv.open
  have Hcl := Lib.hid hcl
  unfold maxLen at h2 hlv
  obtain ⟨c, hcc⟩ : ∃ c, c = min ss.length 4 := ⟨_, rfl⟩
  obtain ⟨N, hN⟩ : ∃ N, N = c + 1 := ⟨_, rfl⟩
  have Hm : Hid (mn (ss.length : Int) 4 = (c : Int)) := Lib.hid (by unfold mn; split <;> omega)
  have hcn : (c : Int) + 1 = (N : Int) := by omega
  have hN5 : N ≤ 5 := by omega
  have HW1 : Hid ((Lit.int .i64 (ss.length : Int)).wf = true) := Lib.hid (wf_i64_of (by omega) (by omega))
  clear hv hcl hi hx
  by_cases hin : 1 ≤ ss.length ∧ ss.length ≤ 3
  · have hcs : c = ss.length := by omega
    have HI : Hid (inR (N : Int) 2 4 = true) := Lib.hid (inR_yes (by omega))
    obtain ⟨R, hR⟩ : ∃ R, R = shN x ss := ⟨_, rfl⟩
    have HRl : Hid (R.length = N) := Lib.hid (by rw [hR, shN_len_yes hin]; omega)
    have HRat : Hid (∀ j, j < ss.length → R.getD j 0 = ss.getD j 0 % 1019) := Lib.hid (fun j hj => by rw [hR]; exact shN_at hin hj)
    have HRlast : Hid (R.getD ss.length 0 = lastN x ss ss.length) := Lib.hid (by rw [hR]; exact shN_last hin)
    have HRtake : Hid (R.take ss.length = fes ss) := Lib.hid (by rw [hR]; exact shN_take hin)
    rw [← hR]
    have HN := Lib.hid hN
    subst hcs
    clear hR hcc hN
    go_enter Try.func58, Try.ntmps58
    go_wp2_with fail
    refine (impl_mn _ _ _ HW1.out (wf_i64_of (by omega) (by omega))).mono ?_
    rw [Hm.out]
    rintro e w1 ⟨rfl, hb1⟩
    have HB1 := Lib.hid hb1
    clear hb1
    go_wp2_with (first | (at_make; refine wpList_make_full _ rfl _ _ 59 rfl w1.heap.size 3 i0 (.int .i64 0) 1 Try.underlying59 Hhi.out hz0 hz1 .i64 .i64 _ _ N rfl rfl rfl rfl (by rw [hz2]; omega) (by unfold maxLen; omega) (Nat.le_refl _) ?_))
    intro w2 hown hg
    have hO := own_made hown hg.size (by decide)
    rw [← upt_rep (fun i => R.getD i 0) N] at hO
    have HO := Lib.hid (hO.mono HB1.out.size)
    have HB2 := Lib.hid (HB1.out.trans (((Below.refl w1.heap.size w1).grown hg (Nat.le_refl _) (fun k hk => by cases hk)).mono HB1.out.size))
    clear hown hg hO
    go_wp2_with fail
    refine (fitI_any (by omega)).mono ?_
    rw [HI.out]
    rintro e w3 ⟨rfl, hw3⟩
    subst hw3
    go_wp2_with fail
    go_loopw [26] (fun i wr => ∃ j : Nat, i = .int .i64 j ∧ j ≤ ss.length ∧ Own 3 .i64 w.heap.size wr (.slice (some ⟨w1.heap.size, 0, none⟩) N N) (upt (fun i => R.getD i 0) (fun _ => 0) j N) ∧ Below w.heap.size w wr) (fun i _ => ss.length - (intOf i).toNat)
    case atStart => exact ⟨0, rfl, Nat.zero_le _, HO.out, HB2.out⟩
    case round =>
      obtain ⟨j, rfl, hj, hO, hB⟩ := hrel
      replace HO := Lib.hid hO
      have HB := Lib.hid hB
      clear hO hB
      have hgw : w.heap.size ≤ w1.heap.size := HB1.out.size
      have HGW := Lib.hid hgw
      clear hgw
      by_cases hlt : j < ss.length
      · have e1 : decide ((j : Int) < (ss.length : Int)) = true := by simp; omega
        obtain ⟨bs, os, rfl, hbs, hcell⟩ := Hcl.out (by omega)
        have c1 := hcell wr (HB.out.mono hl2) j hlt
        have HZ := Lib.hid (HV.out.wf hlt)
        have HRj := Lib.hid (HRat.out j hlt)
        obtain ⟨z, hz⟩ : ∃ z, z = ss.getD j 0 := ⟨_, rfl⟩
        rw [← hz] at c1 HZ HRj
        have hjN : (j : Int) < (N : Int) := by omega
        have hjN' : j < N := by omega
        clear hcell hz
        go_wp2_with fail
        refine (fe_any HZ.out).mono ?_
        have hq : 0 ≤ z % 1019 ∧ z % 1019 ≤ 1018 := by omega
        obtain ⟨q, hq'⟩ : ∃ q, q = z % 1019 := ⟨_, rfl⟩
        rw [← hq'] at hq HRj
        rw [← hq']
        rintro e w4 ⟨rfl, hw4⟩
        subst hw4
        have c2 := HO.out.cellAt (upt_length _ _ _ _) hjN'
        have f2 := HO.out.free (upt_length _ _ _ _) j
        obtain ⟨p1, p2⟩ := HO.out.put (f := fun i => R.getD i 0) (j := j) (by rw [HRj.out]; exact wf_i64_of (by omega) (by omega))
        rw [HRj.out] at p1 p2
        have P1 := Lib.hid p1
        have P2 := Lib.hid p2
        clear p1 p2 hq'
        go_wp2_with fail
        go_roundw
        case rel =>
          exact ⟨j + 1, by simp, hlt, P1.out, HB.out.grown P2.out HB.out.size (fun k hk => by injection hk with hk; have := HGW.out; omega)⟩
        case measure => simp [intOf]; omega
      · have e1 : decide ((j : Int) < (ss.length : Int)) = false := by simp; omega
        have ej : j = ss.length := by omega
        subst ej
        have eT : (upt (fun i => R.getD i 0) (fun _ => 0) ss.length N).take ss.length = fes ss := by
          rw [upt_head (by omega), range_take (by have := HRl.out; omega)]; exact HRtake.out
        have ET := Lib.hid eT
        have hcx : ss.length ≤ (upt (fun i => R.getD i 0) (fun _ => 0) ss.length N).length := by rw [upt_length]; omega
        have HRd := Lib.hid HO.out.rd
        have hrd := HO.out.rd
        have hul : (upt (fun i => R.getD i 0) (fun _ => 0) ss.length N).length = N := upt_length _ _ _ _
        have hjN : (ss.length : Int) < (N : Int) := by omega
        have hjN' : ss.length < N := by omega
        clear eT hrd hul
        go_wp2_with (first | (refine slice_rd_h _ rfl _ _ _ i0 Try.underlying59 Hhi.out hz1 rfl HRd.out _ rfl rfl hcx ?_))
        intro u5 hu5
        simp only [← List.getD_eq_getElem?_getD] at hu5
        rw [ET.out] at hu5
        have H5 := Lib.hid hu5
        clear hu5
        go_wp2_with fail
        refine (mnum_any H5.out HX.out hin.2).mono ?_
        rw [← HRlast.out]
        have HQ : Hid (lastN x ss ss.length = R.getD ss.length 0) := Lib.hid HRlast.out.symm
        have hqb := lastN_bound x ss ss.length
        rw [HQ.out] at hqb
        have HQb := Lib.hid hqb
        obtain ⟨q, hq'⟩ : ∃ q, q = R.getD ss.length 0 := ⟨_, rfl⟩
        rw [← hq'] at hqb ⊢
        rintro e w6 ⟨rfl, hw6⟩
        subst hw6
        have c2 := HO.out.cellAt (upt_length _ _ _ _) hjN'
        have f2 := HO.out.free (upt_length _ _ _ _) ss.length
        obtain ⟨p1, p2⟩ := HO.out.put (f := fun i => R.getD i 0) (j := ss.length) (by have := HQb.out; exact wf_i64_of (by omega) (by omega))
        have hf : upt (fun i => R.getD i 0) (fun _ => 0) (ss.length + 1) N = R := by
          rw [show N = ss.length + 1 from HN.out, upt_full, show ss.length + 1 = R.length by have := HRl.out; have := HN.out; omega, range_getD]
        rw [hf, ← hq'] at p1
        rw [← hq'] at p2
        have P1 := Lib.hid p1
        have P2 := Lib.hid p2
        clear p1 p2 hq' hf
        go_wp2_with fail
        go_ret
        exact ⟨_, rfl, P1.out, HB.out.grown P2.out HB.out.size (fun k hk => by injection hk with hk; have := HGW.out; omega)⟩
  · have HI : Hid (inR (N : Int) 2 4 = false) := Lib.hid (inR_no (by omega))
    have HE : Hid (shN x ss = []) := Lib.hid (shN_no hin)
    clear hcc hin hN
    go_enter Try.func58, Try.ntmps58
    go_wp2_with fail
    refine (impl_mn _ _ _ HW1.out (wf_i64_of (by omega) (by omega))).mono ?_
    rw [Hm.out]
    rintro e w1 ⟨rfl, hb1⟩
    have HB1 := Lib.hid hb1
    clear hb1
    go_wp2_with (first | (at_make; refine wpList_make_full _ rfl _ _ 59 rfl w1.heap.size 3 i0 (.int .i64 0) 1 Try.underlying59 Hhi.out hz0 hz1 .i64 .i64 _ _ N rfl rfl rfl rfl (by rw [hz2]; omega) (by unfold maxLen; omega) (Nat.le_refl _) ?_))
    intro w2 hown hg
    have HB2 := Lib.hid (HB1.out.trans (((Below.refl w1.heap.size w1).grown hg (Nat.le_refl _) (fun k hk => by cases hk)).mono HB1.out.size))
    clear hown hg
    go_wp2_with fail
    refine (fitI_any (by omega)).mono ?_
    rw [HI.out]
    rintro e w3 ⟨rfl, hw3⟩
    subst hw3
    go_wp2_with fail
    go_ret
    refine ⟨_, rfl, ?_, HB2.out.alloc HB2.out.size _⟩
    rw [HE.out]
    exact Own.lit _ _ HB2.out.size

/-- impl.ShareNumber. -/
theorem impl_shN {l2 : Nat} {w : World} {v : Value} {x : Int} {ss : List Int} (hv : Rd l2 .i64 w v ss) (hl2 : l2 ≤ w.heap.size) (hx : (Lit.int .i64 x).wf = true) (hs : ss.length ≤ 1099511627776) :
    Calls Try.prog 38 #[.int .i64 x, v] w fun e w' => ∃ v', e = .returned v' ∧ Own 3 .i64 w.heap.size w' v' (shN x ss) ∧ Below w.heap.size w w' := by
  have HX := Lib.hid hx
  have HV := Lib.hid hv
  clear hx hv
  go_enter Try.func38, Try.ntmps38
  go_wp2_with fail
  refine (divI_any HX.out HV.out hl2).mono ?_
  rintro e w2 ⟨v2, rfl, h3, hb⟩
  have H3 := Lib.hid h3
  have HB := Lib.hid hb
  clear h3 hb
  go_wp2_with fail
  go_ret
  exact ⟨_, rfl, H3.out, HB.out⟩

set_option maxHeartbeats 1000000 in
/-- spec.ShareNumber. -/
theorem spec_shN {l2 : Nat} {w : World} {v : Value} {x : Int} {ss : List Int} (hv : Rd l2 .i64 w v ss) (hl2 : l2 ≤ w.heap.size) (hx : (Lit.int .i64 x).wf = true) (hs : ss.length ≤ 1099511627776) :
    Calls Try.prog 53 #[.int .i64 x, v] w fun e w' => ∃ v', e = .returned v' ∧ Own 3 .i64 w.heap.size w' v' (shN x ss) ∧ Below w.heap.size w w' := by
  obtain ⟨i0, hi, hz0, hz1, hz2⟩ := info_parts infoi64
  have Hhi := Lib.hid hi
  have hxb := wf_i64 hx
  have HV := Lib.hid hv
  obtain ⟨a, cap, rfl, h1, h2, hcl⟩ := hv.open
  have Hcl := Lib.hid hcl
  unfold maxLen at h2
  have HB1 := Lib.hid ((Below.refl w.heap.size w).alloc (Nat.le_refl _) (.cells #[] 3))
  have HO : Hid (Own 3 .i64 w.heap.size (w.alloc (.cells #[] 3)) (.slice (some ⟨w.heap.size, 0, none⟩) 0 0) []) := Lib.hid (Own.lit _ _ (Nat.le_refl _))
  have HC := Lib.hid (count_any (w := w.alloc (.cells #[] 3)) (n := (ss.length : Int) + 1) (wf_i64_of (by omega) (by omega)))
  clear hv hcl hi hx
  by_cases hin : 1 ≤ ss.length ∧ ss.length ≤ 3
  · rw [inR_yes (x := (ss.length : Int) + 1) (by omega)] at HC
    have HY := Lib.hid (shN_yes (x := x) hin)
    have HM := Lib.hid (spec_mod x 1019 (w.alloc (.cells #[] 3)) hxb.1 hxb.2)
    rw [show modV x 1019 = lastN x ss 0 by rw [modV_1019, lastN_zero]] at HM
    go_enter Try.func53, Try.ntmps53
    go_wp2_with fail
    refine HC.out.mono ?_
    rintro e w1 ⟨rfl, hw⟩
    subst hw
    go_wp2_with fail
    refine HM.out.mono ?_
    rintro e w1 ⟨rfl, hw⟩
    subst hw
    go_wp2_with fail
    go_loopw [5, 6, 7] (fun s t i wr => ∃ j : Nat, i = .int .i64 j ∧ j ≤ ss.length ∧ t = .int .i64 (lastN x ss j) ∧ Own 3 .i64 w.heap.size wr s ((fes ss).take j) ∧ Below w.heap.size w wr) (fun _ _ i _ => ss.length - (intOf i).toNat)
    case atStart => exact ⟨0, rfl, Nat.zero_le _, rfl, by rw [List.take_zero]; exact HO.out, HB1.out⟩
    case round =>
      obtain ⟨j, rfl, hj, rfl, hO, hB⟩ := hrel
      replace HO := Lib.hid hO
      have HB := Lib.hid hB
      clear hO hB
      by_cases hlt : j < ss.length
      · have e2 : decide ((j : Int) < (ss.length : Int)) = true := by simp; omega
        obtain ⟨bs, os, rfl, hbs, hcell⟩ := Hcl.out (by omega)
        have c1 := hcell wr (HB.out.mono hl2) j hlt
        have hzw := wf_i64 (HV.out.wf hlt)
        have hT := lastN_succ x hlt
        have hTs : (fes ss).take j ++ [ss.getD j 0 % 1019] = (fes ss).take (j + 1) := by
          rw [List.take_add_one, ← fes_getD hlt, List.getElem?_eq_getElem (by rw [fes_len]; exact hlt), List.getD_eq_getElem?_getD, List.getElem?_eq_getElem (by rw [fes_len]; exact hlt)]
          rfl
        have hlb := lastN_bound x ss j
        obtain ⟨t, ht⟩ : ∃ t, t = lastN x ss j := ⟨_, rfl⟩
        rw [← ht] at hT hlb
        rw [← ht]
        obtain ⟨z, hz⟩ : ∃ z, z = ss.getD j 0 := ⟨_, rfl⟩
        rw [← hz] at c1 hzw hT hTs
        obtain ⟨q, hq⟩ : ∃ q, q = z % 1019 := ⟨_, rfl⟩
        have hqb : 0 ≤ q ∧ q ≤ 1018 := by omega
        rw [← hq] at hT hTs
        have HM1 : Hid (modV z 1019 = q) := Lib.hid (by rw [modV_1019, hq])
        have HM2 : Hid (modV (t - q) 1019 = lastN x ss (j + 1)) := Lib.hid (by rw [modV_1019, hT])
        have HTs := Lib.hid hTs
        have HZb := Lib.hid hzw
        have HLb : Hid (((fes ss).take j).length ≤ 3) := Lib.hid (by rw [List.length_take, fes_len]; omega)
        have HTq : Hid ((-9223372036854775808 ≤ t - q) ∧ (t - q ≤ 9223372036854775807)) := Lib.hid (by omega)
        clear hcell hz ht hq hT hTs hzw
        go_wp2_with fail
        refine (spec_mod _ _ _ HZb.out.1 HZb.out.2).mono ?_
        rw [HM1.out]
        rintro e w4 ⟨rfl, hw4⟩
        subst hw4
        go_wp2_with fail
        refine (spec_mod _ _ _ HTq.out.1 HTq.out.2).mono ?_
        rw [HM2.out]
        rintro e w4 ⟨rfl, hw4⟩
        subst hw4
        have O1 := Lib.hid (HO.out.alloc (.cells #[.int .i64 q] 3))
        have B1 := Lib.hid (HB.out.alloc HO.out.2.1 (.cells #[.int .i64 q] 3))
        have R1 := Lib.hid (Rd.one 3 .i64 w4 q (wf_i64_of (by omega) (by omega)))
        go_wp2_with (first | (at_builtin; refine append_rd _ rfl _ _ 25 rfl 3 i0 (.int .i64 0) 8 Try.underlying25 Hhi.out hz0 hz1 hz2 rfl (by omega) rfl O1.out rfl R1.out (by have := HLb.out; simp only [List.length_singleton]; omega) ?_))
        intro v5 w5 h5 h6
        rw [HTs.out] at h5
        have H5 := Lib.hid h5
        have B5 := Lib.hid (B1.out.trans (O1.out.below (Nat.le_refl _) h6))
        clear h5 h6
        go_wp2_with fail
        go_roundw
        case rel => exact ⟨j + 1, by simp, hlt, rfl, H5.out, B5.out⟩
        case measure => simp [intOf]; omega
      · have e2 : decide ((j : Int) < (ss.length : Int)) = false := by simp; omega
        have ej : j = ss.length := by omega
        subst ej
        have hT : (fes ss).take ss.length ++ [lastN x ss ss.length] = shN x ss := by
          rw [HY.out, List.take_of_length_le (by rw [fes_len]; exact Nat.le_refl _)]
        have hlb := lastN_bound x ss ss.length
        obtain ⟨t, ht⟩ : ∃ t, t = lastN x ss ss.length := ⟨_, rfl⟩
        rw [← ht] at hT hlb
        rw [← ht]
        have HT := Lib.hid hT
        have HLb : Hid (((fes ss).take ss.length).length ≤ 3) := Lib.hid (by rw [List.length_take, fes_len]; omega)
        have O1 := Lib.hid (HO.out.alloc (.cells #[.int .i64 t] 3))
        have B1 := Lib.hid (HB.out.alloc HO.out.2.1 (.cells #[.int .i64 t] 3))
        have R1 := Lib.hid (Rd.one 3 .i64 wr t (wf_i64_of (by omega) (by omega)))
        clear ht hT
        go_wp2_with (first | (at_builtin; refine append_rd _ rfl _ _ 25 rfl 3 i0 (.int .i64 0) 8 Try.underlying25 Hhi.out hz0 hz1 hz2 rfl (by omega) rfl O1.out rfl R1.out (by have := HLb.out; simp only [List.length_singleton]; omega) ?_))
        intro v5 w5 h5 h6
        rw [HT.out] at h5
        have H5 := Lib.hid h5
        have B5 := Lib.hid (B1.out.trans (O1.out.below (Nat.le_refl _) h6))
        clear h5 h6
        go_wp2_with fail
        go_ret
        exact ⟨_, rfl, H5.out, B5.out⟩
  · rw [inR_no (x := (ss.length : Int) + 1) (by omega)] at HC
    have HE : Hid (shN x ss = []) := Lib.hid (shN_no hin)
    clear hin
    go_enter Try.func53, Try.ntmps53
    go_wp2_with fail
    refine HC.out.mono ?_
    rintro e w1 ⟨rfl, hw⟩
    subst hw
    go_wp2_with fail
    go_ret
    exact ⟨_, rfl, by rw [HE.out]; exact HO.out, HB1.out⟩

end Go.Proofs.Ytckhmjdhdoomdaa
