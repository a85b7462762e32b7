/- UnpackSelection, the program's and the document's: what each gives. No conditions but a size that a machine holds. -/
import Derived.Test.YtabnigjaiheepaaSel6
import Derived.Test.YtabnigjaiheepaaXor2
import Derived.Lib.Bytes
import Derived.Test.YtabnigjaiheepaaSlc
namespace Go.Proofs.Ytabnigjaiheepaa
open Go Go.RowKit
set_option linter.unusedVariables false

theorem u8_inj {x y : Int} (hx : 0 ≤ x ∧ x ≤ 255) (hy : 0 ≤ y ∧ y ≤ 255) (h : UInt8.ofNat x.toNat = UInt8.ofNat y.toNat) : x = y := by
  have := congrArg UInt8.toNat h
  simp at this
  omega
theorem eqb_iff {xs ys : List Int} (hx : U8s xs) (hy : U8s ys) : eqb xs ys = decide (xs = ys) := by
  unfold eqb
  rw [Lib.strOfNums_toList, Lib.strOfNums_toList]
  rw [Bool.eq_iff_iff, decide_eq_true_iff, beq_iff_eq]
  constructor
  · intro h
    have hl : xs.length = ys.length := by rw [← Lib.bytesOf_length xs, h, Lib.bytesOf_length]
    refine list_eq hl fun i hi => u8_inj (hx.get i) (hy.get i) ?_
    have := congrArg (fun l => l[i]?) h
    unfold Lib.bytesOf at this
    simp only [List.getElem?_map, List.getElem?_eq_getElem hi, List.getElem?_eq_getElem (show i < ys.length by omega)] at this
    simpa [List.getD_eq_getElem?_getD, List.getElem?_eq_getElem hi, List.getElem?_eq_getElem (show i < ys.length by omega)] using this
  · rintro rfl; rfl

/-- impl.CeilDiv, by 8. -/
theorem impl_cd8 {n : Int} {w : World} (h0 : 0 ≤ n) (h1 : n ≤ 255) : Calls Try.prog 50 #[.int .i64 n, .int .i64 8] w fun e w' => e = .returned (.int .i64 ((n + 7) / 8)) ∧ w' = w := by
  have HR : Hid (inR n 0 1000000000000 = true) := Lib.hid (inR_yes ⟨h0, by omega⟩)
  have HR2 : Hid (inR 8 1 1000000000000 = true) := Lib.hid (by decide)
  have HW : Hid ((Lit.int .i64 n).wf = true) := Lib.hid (wf_i64_of (by omega) (by omega))
  have HE : Hid ((n + 8 - 1) / 8 = (n + 7) / 8) := Lib.hid (by omega)
  go_enter Try.func50, Try.ntmps50
  go_wp2_with fail
  refine (impl_in _ _ _ _ HW.out).mono ?_
  rw [HR.out]
  rintro e w1 ⟨rfl, hw⟩
  subst hw
  go_wp2_with fail
  refine (impl_in _ _ _ _ (by decide)).mono ?_
  rw [HR2.out]
  rintro e w1 ⟨rfl, hw⟩
  subst hw
  go_wp2_with fail
  go_ret
  exact ⟨rint HE.out, rfl⟩

theorem els_take_succ (n M : Nat) : els n M ++ [((M / 2 ^ n % 2 : Nat) : Int)] = els (n + 1) M := by simp [els, List.range_succ]

/-- One byte's bit, as the document takes it. -/
theorem un_bit {zs : List Int} (hu : U8s zs) {j : Nat} (hj : 1 + j / 8 < zs.length) : (zs.getD (1 + j / 8) 0).toNat / 2 ^ (j % 8) % 2 = upm zs / 2 ^ j % 2 := by
  have e : byt (upm zs) (j / 8) = zs.getD (1 + j / 8) 0 := by
    rw [← drop_get]
    exact lnat_byt (hu.drop 1) _ (by rw [List.length_drop]; omega)
  rw [← e, byt_bit]

set_option maxHeartbeats 1000000 in
/-- spec.UnpackSelection. -/
theorem spec_un {lim : Nat} {w : World} {v : Value} {zs : List Int} (h : Rd lim .u8 w v zs) (hlim : lim ≤ w.heap.size) :
    Calls Try.prog 20 #[v] w fun e w' => ∃ v', e = .returned (.tuple #[v', .bool (uok zs)]) ∧ Own 3 .i64 w.heap.size w' v' (uval zs) ∧ Below w.heap.size w w' := by
  obtain ⟨i0, hi, hz0, hz1, hz2⟩ := info_parts infoi64
  have Hhi := Lib.hid hi
  have H := Lib.hid h
  have hlz := h.len
  have hu := h.u8s
  have hg0 := hu.get 0
  have hun := u8_get0 hu
  obtain ⟨a, cap, rfl, h1, h2, hc⟩ := h.open
  have Hc := Lib.hid hc
  have HU := Lib.hid hu
  unfold maxLen at h2 hlz
  obtain ⟨ok, hok⟩ : ∃ ok, ok = uok zs := ⟨_, rfl⟩
  have HF : Hid (ok = false → uval zs = []) := Lib.hid (fun h => by unfold uval; rw [← hok, if_neg (by rw [h]; decide)])
  rw [← hok]
  have Hok := Lib.hid hok
  clear hok hu hi h hc
  by_cases e0 : zs.length = 0
  · have hno : Hid (ok = false) := Lib.hid (by rw [Hok.out]; unfold uok upl; rw [decide_eq_false (p := zs.length ≠ 0 ∧ _) (fun h => h.1 e0)]; rfl)
    have HV := Lib.hid (HF.out hno.out)
    have c0 : ((zs.length : Int) == 0) = true := by simp [e0]
    clear e0
    go_enter Try.func20, Try.ntmps20
    go_wp2_with fail
    go_ret2
    exact ⟨_, by rw [hno.out]; rfl, by rw [HV.out]; exact Own.lit _ _ (Nat.le_refl _), (Below.refl _ _).alloc (Nat.le_refl _) _⟩
  · obtain ⟨b, o, rfl, hb, hcell⟩ := Hc.out (by omega)
    have c1 := hcell w (Below.refl _ _) 0 (by omega)
    have hp : 0 < zs.length := by omega
    have c0 : ((zs.length : Int) == 0) = false := by rw [beq_eq_false_iff_ne]; omega
    rw [← hun] at c1 hg0
    obtain ⟨n, hn⟩ : ∃ n, n = upn zs := ⟨_, rfl⟩
    rw [← hn] at c1 hg0 hun
    have Hn := Lib.hid hn
    have Hun := Lib.hid hun
    rw [Nat.add_zero] at c1
    clear hn hun e0 hcell
    by_cases g1 : 64 < n
    · have hno : Hid (ok = false) := Lib.hid (by
        rw [Hok.out]; unfold uok
        rw [decide_eq_false (p := upn zs ≤ 64 ∧ _) (fun h => by have := h.1; rw [← Hn.out] at this; omega)]
        exact Bool.and_false _)
      have HV := Lib.hid (HF.out hno.out)
      have c2 : decide ((64 : Int) < (n : Int)) = true := by simp; omega
      go_enter Try.func20, Try.ntmps20
      go_wp2_with fail
      go_ret2
      exact ⟨_, by rw [hno.out]; rfl, by rw [HV.out]; exact Own.lit _ _ (Nat.le_refl _), (Below.refl _ _).alloc (Nat.le_refl _) _⟩
    · have c2 : decide ((64 : Int) < (n : Int)) = false := by simp; omega
      by_cases g2 : zs.length = 1 + (n + 7) / 8
      · have c3 : ((zs.length : Int) != 1 + ((n : Int) + 7) / 8) = false := by simp; omega
        have hul : upl zs = true := decide_eq_true ⟨by omega, by rw [← Hn.out]; exact g2⟩
        have Hul := Lib.hid hul
        have G2 := Lib.hid g2
        have hO : Own 3 .i64 w.heap.size (w.alloc (.cells #[] 3)) (.slice (some ⟨w.heap.size, 0, none⟩) 0 0) (els 0 (upm zs)) := Own.lit _ _ (Nat.le_refl _)
        have HO0 := Lib.hid hO
        have HB0 := Lib.hid ((Below.refl w.heap.size w).alloc (Nat.le_refl _) (.cells #[] 3))
        clear hul g2 hO
        go_enter Try.func20, Try.ntmps20
        go_wp2_with fail
        clear c3
        go_loopw [4, 5] (fun s i wr => ∃ j : Nat, i = .int .i64 j ∧ j ≤ n ∧ Own 3 .i64 w.heap.size wr s (els j (upm zs)) ∧ Below w.heap.size w wr) (fun _ i _ => n - (intOf i).toNat)
        case atStart => exact ⟨0, rfl, Nat.zero_le _, HO0.out, HB0.out⟩
        case round =>
          obtain ⟨j, rfl, hj, hO, hB⟩ := hrel
          have HO := Lib.hid hO
          have HB := Lib.hid hB
          obtain ⟨_, _, hv0, _, hcell⟩ := Hc.out (by omega)
          injection hv0 with hv0
          injection hv0 with hv1 hv2 hv3
          subst hv1
          subst hv2
          replace c1 := hcell wr (HB.out.mono hlim) 0 (by omega)
          rw [← Hun.out, Nat.add_zero] at c1
          clear hO hB HO0 HB0
          by_cases hlt : j < n
          · have e1 : decide ((j : Int) < (n : Int)) = true := by simp; omega
            have hdl : 1 + j / 8 < zs.length := by have := G2.out; omega
            have c2 := hcell wr (HB.out.mono hlim) (1 + j / 8) hdl
            have hbit := un_bit HU.out hdl
            have hbd := HU.out.get (1 + j / 8)
            obtain ⟨x, hx⟩ : ∃ x : Nat, x = (zs.getD (1 + j / 8) 0).toNat := ⟨_, rfl⟩
            have hx2 : zs.getD (1 + j / 8) 0 = (x : Int) := by omega
            rw [hx2] at c2
            rw [← hx] at hbit
            have hxb : x ≤ 255 := by omega
            have HBit := Lib.hid hbit
            have HT := Lib.hid (els_take_succ j (upm zs))
            have HLn : Hid ((els j (upm zs)).length ≤ 64) := Lib.hid (by rw [els_len]; omega)
            obtain ⟨k, hk⟩ : ∃ k, k = j / 8 := ⟨_, rfl⟩
            obtain ⟨r, hr⟩ : ∃ r, r = j % 8 := ⟨_, rfl⟩
            obtain ⟨d, hd⟩ : ∃ d, d = 1 + k := ⟨_, rfl⟩
            rw [← hk, ← hd] at c2
            have hdl2 : d < zs.length := by omega
            have i6 := ix_add (d := d) (k := k) hd
            have i2 := ix_div hk
            have i4 := ix_mod hr
            have Hr := Lib.hid hr
            have hv : bits .and .i64 ((x : Int) / 2 ^ r) 1 = ((upm zs / 2 ^ j % 2 : Nat) : Int) := by
              rw [i64_mask 1 1 (by decide) (by decide), shr_cast, ← hbit, hr]
              rfl
            have hmb : upm zs / 2 ^ j % 2 < 2 := Nat.mod_lt _ (by decide)
            obtain ⟨y, hy⟩ : ∃ y, y = upm zs / 2 ^ j % 2 := ⟨_, rfl⟩
            rw [← hy] at hv hmb HT
            have O1 := Lib.hid (HO.out.alloc (.cells #[.int .i64 (y : Int)] 3))
            have B1 := Lib.hid (HB.out.alloc HB.out.size (.cells #[.int .i64 (y : Int)] 3))
            have R1 := Lib.hid (Rd.one 3 .i64 wr (y : Int) (wf_i64_of (by omega) (by omega)))
            clear hcell hdl hbit hbd hx hx2 hk hr hd hy
            go_wp2_with (first | (at_builtin; refine append_rd _ rfl _ _ 24 rfl 3 i0 (.int .i64 0) 8 Try.underlying24 Hhi.out hz0 hz1 hz2 rfl (by omega) rfl O1.out rfl R1.out (by have := HLn.out; simp only [List.length_singleton]; omega) ?_))
            intro v5 w5 h5 h6
            rw [HT.out] at h5
            have H5 := Lib.hid h5
            have B5 := Lib.hid (B1.out.trans (O1.out.below (Nat.le_refl _) h6))
            clear h5 h6 i2 i4 i6
            go_wp2
            go_roundw
            case rel => exact ⟨j + 1, by simp, hlt, H5.out, B5.out⟩
            case measure => simp [intOf]; omega
          · have e1 : decide ((j : Int) < (n : Int)) = false := by simp; omega
            have ej : j = n := by omega
            subst ej
            have hsel := isel_els (n := j) (M := upm zs) (by omega)
            have hpv : packV (els j (upm zs)) = packs (els j (upm zs)) := by unfold packV; rw [els_len, if_pos hsel]
            have hpe := packs_els HU.out Hul.out
            rw [← Hn.out] at hpe
            have HP : Hid (eqb (packV (els j (upm zs))) zs = ok) := Lib.hid (by
              rw [eqb_iff (packV_u8 _) HU.out, hpv, Hok.out]
              unfold uok
              rw [Hul.out, Bool.true_and, ← Hn.out, decide_eq_decide, hpe]
              exact ⟨fun h => ⟨by omega, h⟩, fun h => h.2⟩)
            have HVy : Hid (ok = true → uval zs = els j (upm zs)) := Lib.hid (fun h => by unfold uval; rw [← Hok.out, if_pos h, ← Hn.out])
            have HR0 := Lib.hid (H.out.behind (HB.out.mono hlim))
            clear hsel hpv hpe hcell
            go_wp2_with fail
            refine (spec_pk HO.out.rd (Nat.le_refl _)).mono ?_
            rintro e w3 ⟨v3, rfl, hO3, hB3⟩
            have HO3 := Lib.hid hO3
            have HO4 := Lib.hid (HO.out.next hB3)
            have HB3 := Lib.hid (HB.out.trans (hB3.mono HB.out.size))
            have HR3 := Lib.hid (HR0.out.behind (hB3.mono (Nat.le_trans hlim HB.out.size)))
            clear hO3 hB3
            go_wp2_with fail
            refine (spec_eb HO3.out.rd HR3.out).mono ?_
            rw [show ((strOfNums (packV (els j (upm zs)))).toList == (strOfNums zs).toList) = _ from HP.out]
            rintro e w4 ⟨rfl, hw4⟩
            subst hw4
            cases ok
            · have HV := Lib.hid (HF.out rfl)
              go_wp2_with fail
              go_ret2
              exact ⟨_, rfl, by rw [HV.out]; exact Own.lit _ _ HB3.out.size, HB3.out.alloc HB3.out.size _⟩
            · have HV := Lib.hid (HVy.out rfl)
              go_wp2_with fail
              go_ret2
              exact ⟨_, rfl, by rw [HV.out]; exact HO4.out, HB3.out⟩
      · have c3 : ((zs.length : Int) != 1 + ((n : Int) + 7) / 8) = true := by simp; omega
        have hno : Hid (ok = false) := Lib.hid (by
          rw [Hok.out]; unfold uok upl
          rw [decide_eq_false (p := zs.length ≠ 0 ∧ _) (fun h => by have := h.2; rw [← Hn.out] at this; exact g2 this)]
          rfl)
        have HV := Lib.hid (HF.out hno.out)
        clear g2
        go_enter Try.func20, Try.ntmps20
        go_wp2_with fail
        go_ret2
        exact ⟨_, by rw [hno.out]; rfl, by rw [HV.out]; exact Own.lit _ _ (Nat.le_refl _), (Below.refl _ _).alloc (Nat.le_refl _) _⟩

set_option maxHeartbeats 1000000 in
/-- impl.UnpackSelection. -/
theorem impl_un {lim : Nat} {w : World} {v : Value} {zs : List Int} (h : Rd lim .u8 w v zs) (hlim : lim ≤ w.heap.size) :
    Calls Try.prog 14 #[v] w fun e w' => ∃ v', e = .returned (.tuple #[v', .bool (uok zs)]) ∧ Own 3 .i64 w.heap.size w' v' (uval zs) ∧ Below w.heap.size w w' := by
  obtain ⟨i1, hi', hy0, hy1, hy2⟩ := info_parts infou8
  have Hhi' := Lib.hid hi'
  have H := Lib.hid h
  have hlz := h.len
  have hu := h.u8s
  have hg0 := hu.get 0
  have hun := u8_get0 hu
  obtain ⟨a, cap, rfl, h1, h2, hc⟩ := h.open
  have Hc := Lib.hid hc
  have HU := Lib.hid hu
  unfold maxLen at h2 hlz
  obtain ⟨ok, hok⟩ : ∃ ok, ok = uok zs := ⟨_, rfl⟩
  have HF : Hid (ok = false → uval zs = []) := Lib.hid (fun h => by unfold uval; rw [← hok, if_neg (by rw [h]; decide)])
  rw [← hok]
  have Hok := Lib.hid hok
  clear hok hu hi' h hc
  by_cases e0 : zs.length = 0
  · have hno : Hid (ok = false) := Lib.hid (by rw [Hok.out]; unfold uok upl; rw [decide_eq_false (p := zs.length ≠ 0 ∧ _) (fun h => h.1 e0)]; rfl)
    have HV := Lib.hid (HF.out hno.out)
    have c0 : ((zs.length : Int) == 0) = true := by simp [e0]
    clear e0
    go_enter Try.func14, Try.ntmps14
    go_wp2_with fail
    go_ret2
    exact ⟨_, by rw [hno.out]; rfl, by rw [HV.out]; exact Own.lit _ _ (Nat.le_refl _), (Below.refl _ _).alloc (Nat.le_refl _) _⟩
  · obtain ⟨b, o, rfl, hb, hcell⟩ := Hc.out (by omega)
    have c1 := hcell w (Below.refl _ _) 0 (by omega)
    have hp : 0 < zs.length := by omega
    have hp1 : 1 ≤ zs.length := by omega
    have c0 : ((zs.length : Int) == 0) = false := by rw [beq_eq_false_iff_ne]; omega
    rw [← hun] at c1 hg0
    obtain ⟨n, hn⟩ : ∃ n, n = upn zs := ⟨_, rfl⟩
    rw [← hn] at c1 hg0 hun
    have Hn := Lib.hid hn
    rw [Nat.add_zero] at c1
    clear hn hun e0 hcell
    by_cases g2 : zs.length = 1 + (n + 7) / 8
    · have c3 : ((zs.length : Int) != 1 + ((n : Int) + 7) / 8) = false := by simp; omega
      have hul : upl zs = true := decide_eq_true ⟨by omega, by rw [← Hn.out]; exact g2⟩
      have Hul := Lib.hid hul
      have G2 := Lib.hid g2
      clear hul g2
      go_enter Try.func14, Try.ntmps14
      go_wp2_with fail
      refine (impl_cd8 hg0.1 hg0.2).mono ?_
      rintro e w1 ⟨rfl, hw1⟩
      subst hw1
      have HA : Hid ((w1.alloc (.cells #[.int .i64 (n : Int), .int .u64 0] 53)).heap[w1.heap.size]? = some (.cells #[.int .i64 (n : Int), .int .u64 0] 53)) := Lib.hid (heap_alloc_new w1 _)
      have HB := Lib.hid ((Below.refl w1.heap.size w1).alloc (Nat.le_refl _) (.cells #[.int .i64 (n : Int), .int .u64 0] 53))
      have HR0 := Lib.hid (H.out.behind (HB.out.mono hlim))
      go_wp2_with (first | (refine slice_rd_l _ rfl _ _ _ i1 Try.underlying22 Hhi'.out hy1 rfl HR0.out _ rfl rfl hp1 ?_))
      intro u2 hu2
      rw [← List.drop_one] at hu2
      obtain ⟨t, ht⟩ : ∃ t, t = zs.drop 1 := ⟨_, rfl⟩
      rw [← ht] at hu2
      have Ht := Lib.hid ht
      have htl : t.length = (n + 7) / 8 := by rw [ht, List.length_drop]; have := G2.out; omega
      obtain ⟨a2, cap2, rfl, k1, k2, k3⟩ := hu2.open
      have HT8 := Lib.hid hu2.u8s
      have Hk := Lib.hid k3
      have Htl := Lib.hid htl
      have htb : t.length ≤ 32 := by omega
      unfold maxLen at k2
      clear k3 hu2 ht htl c3 c0 HR0 
      go_wp2_with fail
      go_loopw [33] (fun i wr => ∃ j : Nat, i = .int .i64 j ∧ j ≤ t.length ∧ wr.heap[w1.heap.size]? = some (.cells #[.int .i64 (n : Int), .int .u64 ((lnat (t.take j) % 18446744073709551616 : Nat) : Int)] 53) ∧ Below w1.heap.size w1 wr ∧ Below w1.heap.size (w1.alloc (.cells #[.int .i64 (n : Int), .int .u64 0] 53)) wr) (fun i _ => t.length - (intOf i).toNat)
      case atStart => exact ⟨0, rfl, Nat.zero_le _, HA.out, HB.out, Below.refl _ _⟩
      case round =>
        obtain ⟨j, rfl, hj, hA, hB, hB2⟩ := hrel
        have HA' := Lib.hid hA
        have HB' := Lib.hid hB
        have HB2 := Lib.hid hB2
        clear hA hB hB2 HA HB
        by_cases hlt : j < t.length
        · have e1 : decide ((j : Int) < (t.length : Int)) = true := by simp; omega
          obtain ⟨b2, o2, rfl, hb2, hcell2⟩ := Hk.out (by omega)
          have c2 := hcell2 wr (HB2.out.mono hlim) j hlt
          have c3 := blk_cell HA'.out 1
          have f3 := blk_free HA'.out 1
          rw [two1] at c3
          obtain ⟨s, hs⟩ : ∃ s, s = 8 * j := ⟨_, rfl⟩
          have HV := Lib.hid (u64_addb HT8.out hlt hs)
          have hcb := HT8.out.get j
          obtain ⟨c, hc⟩ : ∃ c, c = t.getD j 0 := ⟨_, rfl⟩
          rw [← hc] at c2 hcb HV
          obtain ⟨M, hM⟩ : ∃ M, M = lnat (t.take j) % 18446744073709551616 := ⟨_, rfl⟩
          obtain ⟨M', hM'⟩ : ∃ M, M = lnat (t.take (j + 1)) % 18446744073709551616 := ⟨_, rfl⟩
          rw [← hM] at c3 HV HA'
          rw [← hM'] at HV
          have HM' := Lib.hid hM'
          have i1 : IntKind.i64.wrap ((j : Int) * 8) = (s : Int) := by rw [IntWalk.i64_in _ (by omega)]; omega
          clear hcell2 hc hM hM' hs
          go_wp2_with fail
          go_region_with (fail)
          rw [HV.out]
          have p1 := blk_set HA'.out 1 (.int .u64 (M' : Int))
          have p2 := grown_set wr w1.heap.size 1 (.int .u64 (M' : Int))
          have P1 := Lib.hid p1
          have P2 := Lib.hid (HB'.out.grown p2 HB'.out.size (fun k hk => by injection hk with hk; omega))
          have P3 := Lib.hid (HB2.out.grown p2 HB'.out.size (fun k hk => by injection hk with hk; omega))
          clear p1 p2 i1
          obtain ⟨W5, hW5⟩ : ∃ W5, W5 = wr.setCell ⟨w1.heap.size, 1, none⟩ (.int .u64 (M' : Int)) := ⟨_, rfl⟩
          rw [← hW5] at P1 P2 P3 ⊢
          clear hW5 c3 f3
          go_wp2_with fail
          go_roundw
          case rel => exact ⟨j + 1, by simp, hlt, by rw [← HM'.out]; exact P1.out, P2.out.drew, P3.out.drew⟩
          case measure => simp [intOf]; omega
        · have e1 : decide ((j : Int) < (t.length : Int)) = false := by simp; omega
          have ej : j = t.length := by omega
          have hup : upm zs = lnat t := by unfold upm; rw [Ht.out]
          obtain ⟨M, hM⟩ : ∃ M, M = lnat t % 18446744073709551616 := ⟨_, rfl⟩
          have HS : Hid (wr.heap[w1.heap.size]? = some (.cells #[.int .i64 (n : Int), .int .u64 (M : Int)] 53)) := Lib.hid (by
            have := HA'.out
            rwa [ej, List.take_length, ← hM] at this)
          have hML : M < 18446744073709551616 := by rw [hM]; exact Nat.mod_lt _ (by decide)
          have HML := Lib.hid hML
          have c4 := blk_cell HS.out 0
          have c5 := blk_cell HS.out 1
          rw [two0] at c4
          rw [two1] at c5
          have HX : Hid (n ≤ 64 → M = upm zs) := Lib.hid (fun h => by
            have h8 : 8 * t.length ≤ 64 := by have := Htl.out; omega
            have h1 := lnat_lt HT8.out
            have h2 : 2 ^ (8 * t.length) ≤ 2 ^ 64 := Nat.pow_le_pow_right (by decide) h8
            have e64 : (2 : Nat) ^ 64 = 18446744073709551616 := by decide
            rw [hM, hup, Nat.mod_eq_of_lt (by omega)])
          have hn255 : n ≤ 1000 := by omega
          clear ej hup hM hML HA'
          go_wp2_with fail
          refine (els_any n M hn255 HML.out).mono ?_
          rintro e w3 ⟨v3, rfl, hO3, hB3⟩
          have HO3 := Lib.hid (hO3.mono HB'.out.size)
          have HB3 := Lib.hid (HB'.out.trans (hB3.mono HB'.out.size))
          have hS3 : w3.heap[w1.heap.size]? = some (.cells #[.int .i64 (n : Int), .int .u64 (M : Int)] 53) := (hB3.block _ (lt_of_block HS.out)).trans HS.out
          have HS3 := Lib.hid hS3
          clear hO3 hB3 c4 c5 HS hS3
          by_cases g1 : n ≤ 64
          · have hsel : isel (els n M) ((els n M).length : Int) = true := by rw [els_len]; exact isel_els g1
            have Hsel := Lib.hid hsel
            have hlen : ((els n M).length : Int) = (n : Int) := by rw [els_len]
            have hbn := bnat_els n M
            have hMu := HX.out g1
            have HC := fun (hl : w3.heap.size ≤ w3.heap.size) => so_yes (lim := w3.heap.size) HO3.out.rd hl Hsel.out
            rw [hbn, hlen] at HC
            have HC2 := Lib.hid HC
            clear hsel hbn hlen HC
            go_wp2_with fail
            refine (HC2.out (Nat.le_refl _)).mono ?_
            rintro e w4 ⟨rfl, hB4⟩
            have HO4 := Lib.hid ((HO3.out.next hB4).alloc (.cells #[.int .i64 (n : Int), .int .u64 ((M % 2 ^ n : Nat) : Int)] 53))
            have HB4 := Lib.hid ((HB3.out.trans (hB4.mono HB3.out.size)).alloc (Nat.le_trans HB3.out.size hB4.size) (.cells #[.int .i64 (n : Int), .int .u64 ((M % 2 ^ n : Nat) : Int)] 53))
            have hS4 : w4.heap[w1.heap.size]? = some (.cells #[.int .i64 (n : Int), .int .u64 (M : Int)] 53) := (hB4.block _ (lt_of_block HS3.out)).trans HS3.out
            have hz4 := lt_of_block hS4
            have c4 := blk_cell hS4 0
            have c5 := blk_cell hS4 1
            rw [two0] at c4
            rw [two1] at c5
            obtain ⟨M2, hM2⟩ : ∃ M2, M2 = M % 2 ^ n := ⟨_, rfl⟩
            rw [← hM2] at HO4 HB4 ⊢
            have HSz : Hid (w1.heap.size ≤ w4.heap.size) := Lib.hid (Nat.le_trans HB3.out.size hB4.size)
            clear hS4 hB4
            have HOK : Hid (ok = decide (M2 = M)) := Lib.hid (by
              rw [Hok.out]
              unfold uok
              rw [Hul.out, Bool.true_and, ← Hn.out, ← hMu, decide_eq_decide, hM2]
              constructor
              · intro h; exact Nat.mod_eq_of_lt h.2
              · intro h; exact ⟨g1, by rw [← h]; exact Nat.mod_lt _ (Nat.pow_pos (by decide))⟩)
            have HVy : Hid (ok = true → uval zs = els n M) := Lib.hid (fun h => by unfold uval; rw [← Hok.out, if_pos h, ← Hn.out, ← hMu])
            clear hM2 hMu
            by_cases he : M2 = M
            · have e6 : ((M2 : Int) == (M : Int)) = true := by simp [he]
              have hoky : ok = true := by rw [HOK.out]; exact decide_eq_true he
              have HV := Lib.hid (HVy.out hoky)
              have Hoky := Lib.hid hoky
              clear he hoky
              go_wp2_with fail
              go_ret2
              exact ⟨_, by rw [Hoky.out]; rfl, by rw [HV.out]; exact HO4.out, HB4.out⟩
            · have e6 : ((M2 : Int) == (M : Int)) = false := by rw [beq_eq_false_iff_ne]; omega
              have hoky : ok = false := by rw [HOK.out]; exact decide_eq_false he
              have HV := Lib.hid (HF.out hoky)
              have Hoky := Lib.hid hoky
              clear he hoky
              go_wp2_with fail
              go_ret2
              exact ⟨_, by rw [Hoky.out]; rfl, by rw [HV.out]; exact Own.lit2 _ HSz.out, HB4.out.alloc HB4.out.size _⟩
          · have HS3n : Hid (isel (els n M) ((els n M).length : Int) = false) := Lib.hid (by
              rw [Bool.eq_false_iff]
              intro h
              have := (isel_iff.1 h).2.2
              rw [els_len] at this
              omega)
            have hno : Hid (ok = false) := Lib.hid (by
              rw [Hok.out]; unfold uok
              rw [decide_eq_false (p := upn zs ≤ 64 ∧ _) (fun h => by have := h.1; rw [← Hn.out] at this; omega)]
              exact Bool.and_false _)
            have HV := Lib.hid (HF.out hno.out)
            clear g1
            go_wp2_with fail
            refine (so_no HO3.out.rd (Nat.le_refl _) HS3n.out).mono ?_
            rintro e w4 ⟨rfl, hB4⟩
            have HB4 := Lib.hid ((HB3.out.trans (hB4.mono HB3.out.size)).alloc (Nat.le_trans HB3.out.size hB4.size) (.cells #[.int .i64 0, .int .u64 0] 53))
            have HSz : Hid (w1.heap.size ≤ w4.heap.size) := Lib.hid (Nat.le_trans HB3.out.size hB4.size)
            clear hB4
            go_wp2_with fail
            go_ret2
            exact ⟨_, by rw [hno.out]; rfl, by rw [HV.out]; exact Own.lit2 _ HSz.out, HB4.out.alloc HB4.out.size _⟩
    · have c3 : ((zs.length : Int) != 1 + ((n : Int) + 7) / 8) = true := by simp; omega
      have hno : Hid (ok = false) := Lib.hid (by
        rw [Hok.out]; unfold uok upl
        rw [decide_eq_false (p := zs.length ≠ 0 ∧ _) (fun h => by have := h.2; rw [← Hn.out] at this; exact g2 this)]
        rfl)
      have HV := Lib.hid (HF.out hno.out)
      clear g2
      go_enter Try.func14, Try.ntmps14
      go_wp2_with fail
      refine (impl_cd8 hg0.1 hg0.2).mono ?_
      rintro e w1 ⟨rfl, hw1⟩
      subst hw1
      go_wp2_with fail
      go_ret2
      exact ⟨_, by rw [hno.out]; rfl, by rw [HV.out]; exact Own.lit _ _ (Nat.le_refl _), (Below.refl _ _).alloc (Nat.le_refl _) _⟩

end Go.Proofs.Ytabnigjaiheepaa
