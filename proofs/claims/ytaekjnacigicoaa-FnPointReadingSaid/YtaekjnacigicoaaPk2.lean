/- Valid point keys, the program's and the document's. No conditions but numbers that a machine holds. -/
import Derived.Test.YtaekjnacigicoaaPk1
namespace Go.Proofs.Ytaekjnacigicoaa
open Go Go.RowKit
set_option linter.unusedVariables false
attribute [local irreducible] kh

theorem vcor_all {cs : List Cor} {j : Nat} {c : Cor} (h : cs[j]? = some c) : (cs.take (j + 1)).all vcor = ((cs.take j).all vcor && vcor c) := by
  rw [List.take_add_one, h]; simp
theorem vcor_no {cs : List Cor} {j : Nat} {c : Cor} (h : cs[j]? = some c) (hc : vcor c = false) : cs.all vcor = false := by
  rw [← Bool.not_eq_true]
  intro ha
  have := List.all_eq_true.1 ha c (List.mem_of_getElem? h)
  rw [hc] at this
  cases this

set_option maxHeartbeats 2000000 in
/-- corrections.areValid -/
theorem areValid_any {l : Nat} {w : World} {e0 : TypeId} {a : Option Addr} {cap : Nat} {cs : List Cor} (h : (sliceT e0 tyCorrection).rd l w [.slice a cs.length cap] cs) (hl : l ≤ w.heap.size) :
    Calls Try.prog 38 #[.slice a cs.length cap] w fun e w' => e = .returned (.bool (inR (cs.length : Int) 1 6 && cs.all vcor)) ∧ Below w.heap.size w w' := by
  have hlen := sl_len h
  obtain ⟨a', cap', hv, h1, h2, hc⟩ := sl_open h
  injection hv with hv
  injection hv with hv1 hv2 hv3
  subst hv1
  subst hv3
  have Hc := Lib.hid hc
  unfold maxLen at hlen h2
  have HWl : Hid ((Lit.int .i64 (cs.length : Int)).wf = true) := Lib.hid (wf_i64_of (by omega) (by omega))
  obtain ⟨q, hq⟩ : ∃ q, q = (inR (cs.length : Int) 1 6 && cs.all vcor) := ⟨_, rfl⟩
  rw [← hq]
  have HQ := Lib.hid hq
  clear h hc hq hv2
  cases hr : inR (cs.length : Int) 1 6 with
  | false =>
    have Hr := Lib.hid hr
    have HE : Hid (q = false) := Lib.hid (by rw [HQ.out, hr]; rfl)
    clear hr
    go_enter Try.func38, Try.ntmps38
    go_wp2_with fail
    refine (depth_any).mono ?_
    rintro e w1 ⟨rfl, hw⟩
    subst hw
    go_wp2_with fail
    refine (impl_in _ _ _ _ HWl.out).mono ?_
    rw [Hr.out]
    rintro e w1 ⟨rfl, hw⟩
    subst hw
    go_wp2_with fail
    go_ret
    exact ⟨by rw [HE.out]; rfl, Below.refl _ _⟩
  | true =>
    have Hr := Lib.hid hr
    have HQ2 : Hid (q = cs.all vcor) := Lib.hid (by rw [HQ.out, hr]; rfl)
    clear hr
    go_enter Try.func38, Try.ntmps38
    go_wp2_with fail
    refine (depth_any).mono ?_
    rintro e w0 ⟨rfl, hw⟩
    obtain rfl : w = w0 := hw.symm
    go_wp2_with fail
    refine (impl_in _ _ _ _ HWl.out).mono ?_
    rw [Hr.out]
    rintro e w1 ⟨rfl, hw⟩
    obtain rfl : w = w1 := hw.symm
    go_wp2_with fail
    go_loopw [11] (fun i wr => ∃ j : Nat, i = .int .i64 j ∧ j ≤ cs.length ∧ (cs.take j).all vcor = true ∧ Below w.heap.size w wr) (fun i _ => cs.length - (intOf i).toNat)
    case atStart => exact ⟨0, rfl, Nat.zero_le _, rfl, Below.refl _ _⟩
    case round =>
      obtain ⟨j, rfl, hj, hall, hB⟩ := hrel
      have HB := Lib.hid hB
      have HA := Lib.hid hall
      clear hB hall
      by_cases hlt : j < cs.length
      · have e2 : decide ((j : Int) < (cs.length : Int)) = true := by simp; omega
        obtain ⟨b, o, rfl, hbl, hcell⟩ := Hc.out (by omega)
        obtain ⟨x, hx⟩ : ∃ x, cs[j]? = some x := ⟨_, List.getElem?_eq_getElem hlt⟩
        obtain ⟨c, hrd, hcl⟩ := hcell wr (HB.out.mono hl) j x hx
        obtain ⟨rfl, w1, w2, w3⟩ := rd_Correction hrd
        have c0 : wr.cell? ⟨b, o + j * 3, none⟩ = _ := hcl 0 _ rfl
        have c1 : wr.cell? ⟨b, o + j * 3 + 1, none⟩ = _ := hcl 1 _ rfl
        have c2 : wr.cell? ⟨b, o + j * 3 + 2, none⟩ = _ := hcl 2 _ rfl
        have V1 := Lib.hid w1
        have V2 := Lib.hid w2
        have V3 := Lib.hid w3
        have HX := Lib.hid hx
        have HB1 := Lib.hid (HB.out.alloc HB.out.size (.cells #[.int .i64 x.1, .int .i64 x.2.1, .int .i64 x.2.2] 47))
        clear hcell hrd hcl hx w1 w2 w3
        obtain ⟨v1, hv1⟩ : ∃ v, v = inR x.1 0 4294967295 := ⟨_, rfl⟩
        obtain ⟨v2, hv2⟩ : ∃ v, v = inR x.2.1 0 1 := ⟨_, rfl⟩
        obtain ⟨v3, hv3⟩ : ∃ v, v = inR x.2.2 0 1 := ⟨_, rfl⟩
        have HV : Hid (vcor x = (v1 && v2 && v3)) := Lib.hid (by rw [hv1, hv2, hv3]; rfl)
        have H1 := Lib.hid hv1
        have H2 := Lib.hid hv2
        have H3 := Lib.hid hv3
        clear hv1 hv2 hv3
        cases v1 with
        | false =>
          have HE : Hid (q = false) := Lib.hid (by rw [HQ2.out]; exact vcor_no HX.out (by rw [HV.out]; rfl))
          go_wp2_with fail
          refine (impl_in _ _ _ _ V1.out).mono ?_
          rw [← H1.out]
          rintro e w3 ⟨rfl, hw⟩
          subst hw
          go_wp2_with fail
          go_ret
          exact ⟨by rw [HE.out]; rfl, HB1.out⟩
        | true =>
          cases v2 with
          | false =>
            have HE : Hid (q = false) := Lib.hid (by rw [HQ2.out]; exact vcor_no HX.out (by rw [HV.out]; rfl))
            go_wp2_with fail
            refine (impl_in _ _ _ _ V1.out).mono ?_
            rw [← H1.out]
            rintro e w3 ⟨rfl, hw⟩
            subst hw
            go_wp2_with fail
            refine (isBit_any V2.out).mono ?_
            rw [← H2.out]
            rintro e w3 ⟨rfl, hw⟩
            subst hw
            go_wp2_with fail
            go_ret
            exact ⟨by rw [HE.out]; rfl, HB1.out⟩
          | true =>
            cases v3 with
            | false =>
              have HE : Hid (q = false) := Lib.hid (by rw [HQ2.out]; exact vcor_no HX.out (by rw [HV.out]; rfl))
              go_wp2_with fail
              refine (impl_in _ _ _ _ V1.out).mono ?_
              rw [← H1.out]
              rintro e w3 ⟨rfl, hw⟩
              subst hw
              go_wp2_with fail
              refine (isBit_any V2.out).mono ?_
              rw [← H2.out]
              rintro e w3 ⟨rfl, hw⟩
              subst hw
              go_wp2_with fail
              refine (isBit_any V3.out).mono ?_
              rw [← H3.out]
              rintro e w3 ⟨rfl, hw⟩
              subst hw
              go_wp2_with fail
              go_ret
              exact ⟨by rw [HE.out]; rfl, HB1.out⟩
            | true =>
              go_wp2_with fail
              refine (impl_in _ _ _ _ V1.out).mono ?_
              rw [← H1.out]
              rintro e w3 ⟨rfl, hw⟩
              subst hw
              go_wp2_with fail
              refine (isBit_any V2.out).mono ?_
              rw [← H2.out]
              rintro e w3 ⟨rfl, hw⟩
              subst hw
              go_wp2_with fail
              refine (isBit_any V3.out).mono ?_
              rw [← H3.out]
              rintro e w3 ⟨rfl, hw⟩
              subst hw
              go_wp2_with fail
              go_roundw
              case rel => exact ⟨j + 1, by simp, hlt, by rw [vcor_all HX.out, HA.out, HV.out]; rfl, HB1.out⟩
              case measure => simp [intOf]; omega
      · have e2 : decide ((j : Int) < (cs.length : Int)) = false := by simp; omega
        have HE : Hid (q = true) := Lib.hid (by rw [HQ2.out, ← HA.out, show j = cs.length by omega, List.take_length])
        go_wp2_with fail
        go_ret
        exact ⟨by rw [HE.out]; rfl, HB.out⟩

set_option maxHeartbeats 2000000 in
/-- pointKeyOf -/
theorem of_any {w : World} {a : Option Addr} {n cap : Nat} {r b : Int} :
    Calls Try.prog 25 #[.agg #[.int .i64 r, .int .i64 b, .slice a n cap]] w fun e w' => e = .returned (.agg #[.int .i64 r, .int .i64 b, .slice a n cap]) ∧ Below w.heap.size w w' := by
  go_enter Try.func25, Try.ntmps25
  go_wp2_with fail
  exact bodyPost_ret (v := .agg #[.int .i64 r, .int .i64 b, .slice a n cap]) (by simp [results, Try.results25, go_sem]) rfl ⟨rfl, ((Below.refl _ _).alloc (Nat.le_refl _) _).alloc (by simp) _⟩

set_option maxHeartbeats 2000000 in
/-- pointKey.isValid -/
theorem isValid_any {l : Nat} {w : World} {e0 : TypeId} {a : Option Addr} {cap : Nat} {cs : List Cor} {r b : Int} (h : (sliceT e0 tyCorrection).rd l w [.slice a cs.length cap] cs) (hl : l ≤ w.heap.size) (hr : (Lit.int .i64 r).wf = true) (hb : (Lit.int .i64 b).wf = true) :
    Calls Try.prog 26 #[.agg #[.int .i64 r, .int .i64 b, .slice a cs.length cap]] w fun e w' => e = .returned (.bool (vk r b cs)) ∧ Below w.heap.size w w' := by
  obtain ⟨q, hq⟩ : ∃ q, q = vk r b cs := ⟨_, rfl⟩
  rw [← hq]
  have HQ := Lib.hid hq
  have HR := Lib.hid hr
  have HBi := Lib.hid hb
  have HB := Lib.hid ((Below.refl w.heap.size w).alloc (Nat.le_refl _) (.cells #[.int .i64 r, .int .i64 b, .slice a cs.length cap] 57))
  have H := Lib.hid ((sliceT e0 tyCorrection).behind h (HB.out.mono hl))
  obtain ⟨v1, hv1⟩ : ∃ v, v = inR r 0 2147483646 := ⟨_, rfl⟩
  obtain ⟨v2, hv2⟩ : ∃ v, v = inR b 0 1 := ⟨_, rfl⟩
  obtain ⟨v3, hv3⟩ : ∃ v, v = (inR (cs.length : Int) 1 6 && cs.all vcor) := ⟨_, rfl⟩
  have HV : Hid (q = (v1 && (v2 && v3))) := Lib.hid (by rw [hq, hv1, hv2, hv3]; rfl)
  have H1 := Lib.hid hv1
  have H2 := Lib.hid hv2
  have H3 := Lib.hid hv3
  clear h hq hr hb hv1 hv2 hv3
  cases v1 with
  | false =>
    go_enter Try.func26, Try.ntmps26
    go_wp2_with fail
    refine (isRoot_any HR.out).mono ?_
    rw [← H1.out]
    rintro e w3 ⟨rfl, hw⟩
    subst hw
    go_wp2_with fail
    go_ret
    exact ⟨by rw [HV.out]; rfl, HB.out⟩
  | true =>
    cases v2 with
    | false =>
      go_enter Try.func26, Try.ntmps26
      go_wp2_with fail
      refine (isRoot_any HR.out).mono ?_
      rw [← H1.out]
      rintro e w3 ⟨rfl, hw⟩
      subst hw
      go_wp2_with fail
      refine (isBit_any HBi.out).mono ?_
      rw [← H2.out]
      rintro e w3 ⟨rfl, hw⟩
      subst hw
      go_wp2_with fail
      go_ret
      exact ⟨by rw [HV.out]; rfl, HB.out⟩
    | true =>
      go_enter Try.func26, Try.ntmps26
      go_wp2_with fail
      refine (isRoot_any HR.out).mono ?_
      rw [← H1.out]
      rintro e w3 ⟨rfl, hw⟩
      subst hw
      go_wp2_with fail
      refine (isBit_any HBi.out).mono ?_
      rw [← H2.out]
      rintro e w3 ⟨rfl, hw⟩
      subst hw
      go_wp2_with fail
      refine (areValid_any H.out (Nat.le_trans hl HB.out.size)).mono ?_
      rw [← H3.out]
      rintro e w3 ⟨rfl, hb⟩
      replace HB := Lib.hid (HB.out.trans (hb.mono HB.out.size))
      clear hb
      go_wp2_with fail
      go_ret
      exact ⟨by rw [HV.out]; cases v3 <;> rfl, HB.out⟩

end Go.Proofs.Ytaekjnacigicoaa
