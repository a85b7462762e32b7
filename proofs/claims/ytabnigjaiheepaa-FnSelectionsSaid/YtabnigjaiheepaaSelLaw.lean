/- FnSelections: the walk. No conditions. -/
import Derived.Test.YtabnigjaiheepaaDraw5
import Derived.Test.YtabnigjaiheepaaLawBase
import Derived.Test.YtabnigjaiheepaaSameByte
import Derived.Test.YtabnigjaiheepaaSameInt
import Derived.Test.YtabnigjaiheepaaSel5
import Derived.Test.YtabnigjaiheepaaSel7
namespace Go.Proofs.Ytabnigjaiheepaa
open Go Go.RowKit
set_option linter.unusedVariables false

theorem ok_pack (vs : List Int) : uok (packV vs) = isel vs (vs.length : Int) := by
  by_cases h : isel vs (vs.length : Int) = true
  · rw [h]
    unfold packV
    rw [if_pos h]
    exact (un_pack h).1
  · have h' : isel vs (vs.length : Int) = false := by simpa using h
    rw [h', (un_pack_no h').1]
    exact (un_pack_no h').2
theorem val_pack {vs : List Int} (h : isel vs (vs.length : Int) = true) : uval (packV vs) = vs := by
  unfold packV
  rw [if_pos h]
  exact (un_pack h).2
theorem rsl_nat {k : Int} {n : Nat} (h : n ≤ 64) : rsl k (n : Int) = (List.range n).map (rsb k) := by
  unfold rsl
  rw [if_pos (by omega)]
  rfl
theorem rsl_nlen {k : Int} {n : Nat} (h : n ≤ 64) : (rsl k (n : Int)).length = n := by rw [rsl_nat h]; simp
theorem rsl_01 {k : Int} {n : Nat} (h : n ≤ 64) : ∀ i, i < (rsl k (n : Int)).length → 0 ≤ (rsl k (n : Int)).getD i 0 ∧ (rsl k (n : Int)).getD i 0 ≤ 1 := by
  rw [rsl_nat h]
  intro i hi
  have hi' : i < n := by simpa using hi
  have := rsb_bit k i
  simpa [List.getD_eq_getElem?_getD, hi'] using this
theorem rsl_isel {k : Int} {n : Nat} (h : n ≤ 64) : isel (rsl k (n : Int)) (n : Int) = true := isel_iff.2 ⟨rsl_01 h, by rw [rsl_nlen h], by omega⟩
theorem xs2_rsl {k l : Int} {n : Nat} (h : n ≤ 64) : xs2 (rsl k (n : Int)) (rsl l (n : Int)) = xors (rsl k (n : Int)) (rsl l (n : Int)) := by
  unfold xs2
  rw [rsl_nlen h, if_pos ⟨rsl_isel h, rsl_isel h⟩]
theorem isz_sx {zss : List (List Int)} {k l : Int} (hz : ∀ x ∈ zss, U8s x) (h : zss.length ≤ 64) :
    isz (xorl (xorl (sx zss (rsl k (zss.length : Int))) (sx zss (rsl l (zss.length : Int)))) (sx zss (xs2 (rsl k (zss.length : Int)) (rsl l (zss.length : Int))))) = true := by
  refine decide_eq_true fun i _ => ?_
  rw [xorl_getD, xorl_getD, xs2_rsl h]
  exact sx_xor hz (rsl_01 h) (rsl_01 h) (by rw [rsl_nlen h, rsl_nlen h]) i
theorem Rd2.u8ss {l : Nat} {w : World} {v : Value} {zss : List (List Int)} (h : Rd2 l .u8 w v zss) : ∀ x ∈ zss, U8s x := by
  obtain ⟨us, e1, h1, h2⟩ := h
  intro x hx
  obtain ⟨i, hi, rfl⟩ := List.mem_iff_getElem.1 hx
  exact (h2 i _ _ (List.getElem?_eq_getElem (by omega)) (List.getElem?_eq_getElem hi)).u8s

set_option maxHeartbeats 4000000 in
set_option maxRecDepth 20000 in
theorem sel_walk (a : Option Addr) (len cap : Nat) (zs : List Int) (w : World) (hrow : IsRow .u8 w a len cap zs) :
    Calls Try.prog 3 #[.slice a len cap] w fun e w' => e = .returned (.bool true) ∧ Below w.heap.size w w' := by
  obtain ⟨hr, hl⟩ := row_own hrow
  obtain ⟨s, A, l⟩ : ∃ s, Rd w.heap.size .u8 w (.slice a len cap) s ∧ len = s.length := ⟨zs.take len, hrow.rd, hrow.rd.len_eq⟩
  subst l
  have HR := Lib.hid hr
  have HA := Lib.hid A
  have HL := Lib.hid hl
  have hl' : s.length ≤ 9223372036854775807 := by unfold maxLen at hl; omega
  clear hr hrow hl A
  by_cases hbig : 1048576 < s.length
  · have e0 : decide ((1048576 : Int) < (s.length : Int)) = true := by simp; omega
    go_enter Try.func3, Try.ntmps3
    go_wp2_with fail
    refine (big_is a s.length cap _ hl').mono ?_
    rw [e0]
    rintro e w0 ⟨rfl, rfl⟩
    go_wp2_with fail
    go_ret
    exact ⟨rfl, Below.refl _ _⟩
  have e0 : decide ((1048576 : Int) < (s.length : Int)) = false := by simp; omega
  have hs : s.length ≤ 1048576 := by omega
  have HAb := Lib.hid (fun i => atv_bound (s := s) (fun i hi => HA.out.wf hi) i)
  have HB := Lib.hid (Below.refl w.heap.size w)
  obtain ⟨t0, ht0⟩ : ∃ t, t = atv s 0 := ⟨_, rfl⟩
  obtain ⟨t1, ht1⟩ : ∃ t, t = atv s 1 := ⟨_, rfl⟩
  have hA0 := HAb.out 0
  have hA1 := HAb.out 1
  rw [← ht0] at hA0
  rw [← ht1] at hA1
  have HT0 := Lib.hid ht0
  have HT1 := Lib.hid ht1
  have HW0 : Hid ((Lit.int .i64 t0).wf = true) := Lib.hid (wf_i64_of (by omega) (by omega))
  have HW1 : Hid ((Lit.int .i64 t1).wf = true) := Lib.hid (wf_i64_of (by omega) (by omega))
  clear hbig ht0 ht1 hA0 hA1 HAb
  go_enter Try.func3, Try.ntmps3
  go_wp2_with fail
  refine (big_is a s.length cap _ hl').mono ?_
  rw [e0]
  rintro e w0 ⟨rfl, hw0⟩
  obtain rfl : w = w0 := hw0.symm
  clear hw0
  go_wp2_with fail
  refine (draw_pk w.heap.size a s.length cap zs _ HB.out.size HR.out HL.out).mono ?_
  rintro e w1 ⟨v, vs, rfl, hO, hvl, hb⟩
  obtain ⟨av, cv, rfl, _⟩ := hO.open
  replace HR := Lib.hid (HR.out.behind (hb.mono HB.out.size))
  replace HA := Lib.hid (HA.out.behind (hb.mono HB.out.size))
  replace HB := Lib.hid (HB.out.trans (hb.mono HB.out.size))
  clear hb
  have HV := Lib.hid hO
  clear hO
  obtain ⟨q, hq⟩ : ∃ q, q = isel vs (vs.length : Int) := ⟨_, rfl⟩
  have HOK : Hid (uok (packV vs) = q) := Lib.hid (by rw [ok_pack, hq])
  have HXV : Hid (q = true → uval (packV vs) = vs) := Lib.hid (fun h => val_pack (by rw [← hq]; exact h))
  have HQ := Lib.hid hq
  have Hvw : Hid ((Lit.int .i64 (vs.length : Int)).wf = true) := Lib.hid (wf_i64_of (by omega) (by omega))
  clear hq
  go_wp2_with fail
  refine (impl_pk HV.out.rd (Nat.le_refl _)).mono ?_
  rintro e w2 ⟨p, rfl, hO, hb⟩
  replace HR := Lib.hid (HR.out.behind (hb.mono HB.out.size))
  replace HA := Lib.hid (HA.out.behind (hb.mono HB.out.size))
  replace HV := Lib.hid (HV.out.next hb)
  replace HB := Lib.hid (HB.out.trans (hb.mono HB.out.size))
  clear hb
  have HP := Lib.hid hO
  clear hO
  go_wp2_with fail
  refine (impl_un HP.out.rd (Nat.le_refl _)).mono ?_
  rw [HOK.out]
  rintro e w3 ⟨x, rfl, hO, hb⟩
  replace HR := Lib.hid (HR.out.behind (hb.mono HB.out.size))
  replace HA := Lib.hid (HA.out.behind (hb.mono HB.out.size))
  replace HV := Lib.hid (HV.out.next hb)
  replace HP := Lib.hid (HP.out.next hb)
  replace HB := Lib.hid (HB.out.trans (hb.mono HB.out.size))
  clear hb
  have HX := Lib.hid hO
  clear hO
  clear HP
  go_wp2_with fail
  refine (draw_un w.heap.size a s.length cap zs _ HB.out.size HR.out HL.out).mono ?_
  rintro e w4 ⟨b, bs, rfl, hO, hbl, hb⟩
  replace HR := Lib.hid (HR.out.behind (hb.mono HB.out.size))
  replace HA := Lib.hid (HA.out.behind (hb.mono HB.out.size))
  replace HV := Lib.hid (HV.out.next hb)
  replace HX := Lib.hid (HX.out.next hb)
  replace HB := Lib.hid (HB.out.trans (hb.mono HB.out.size))
  clear hb
  have Hb := Lib.hid hO
  clear hO
  have HU := Lib.hid Hb.out.u8s
  obtain ⟨f, hf⟩ : ∃ f, f = uok bs := ⟨_, rfl⟩
  have HFb : Hid (f = true → packV (uval bs) = bs) := Lib.hid (fun h => pack_un HU.out (by rw [← hf]; exact h))
  have HF := Lib.hid hf
  clear hf
  go_wp2_with fail
  refine (impl_un Hb.out (Nat.le_refl _)).mono ?_
  rw [← HF.out]
  rintro e w5 ⟨y, rfl, hO, hb⟩
  replace HR := Lib.hid (HR.out.behind (hb.mono HB.out.size))
  replace HA := Lib.hid (HA.out.behind (hb.mono HB.out.size))
  replace HV := Lib.hid (HV.out.next hb)
  replace HX := Lib.hid (HX.out.next hb)
  replace Hb := Lib.hid ((Hb.out.behind hb).mono hb.size)
  replace HB := Lib.hid (HB.out.trans (hb.mono HB.out.size))
  clear hb
  have HY := Lib.hid hO
  clear hO
  cases q
  · cases f
    · go_wp2_with fail
      refine (spec_is HV.out.rd Hvw.out).mono ?_
      rw [← HQ.out]
      rintro e w6 ⟨rfl, hw⟩
      subst hw
      go_wp2_with fail
      refine (spec_un Hb.out (Nat.le_refl _)).mono ?_
      rw [← HF.out]
      rintro e w7 ⟨y2, rfl, hO, hb⟩
      clear HV HX HY
      replace HR := Lib.hid (HR.out.behind (hb.mono HB.out.size))
      replace HA := Lib.hid (HA.out.behind (hb.mono HB.out.size))
      replace Hb := Lib.hid ((Hb.out.behind hb).mono hb.size)
      replace HB := Lib.hid (HB.out.trans (hb.mono HB.out.size))
      clear hb
      clear hO
      clear Hb
      go_wp2_with fail
      refine (draw_sx w.heap.size a s.length cap zs _ HB.out.size HR.out HL.out).mono ?_
      rintro e w8 ⟨rw_, ru, zss, rus, E, rfl, hO, hz4, hfl, _, _, hb⟩
      obtain ⟨ar, cr, rfl, _⟩ := hO.open
      replace HR := Lib.hid (HR.out.behind (hb.mono HB.out.size))
      replace HA := Lib.hid (HA.out.behind (hb.mono HB.out.size))
      replace HB := Lib.hid (HB.out.trans (hb.mono HB.out.size))
      clear hb
      have HZ := Lib.hid hO
      clear hO
      have hz64 : zss.length ≤ 64 := by omega
      have htot : tot zss ≤ 1099511627776 := by unfold tot; omega
      have HTt := Lib.hid htot
      have hsxl := fun v => sx_len zss v
      have Hsxl := Lib.hid hsxl
      have HISZ := Lib.hid (isz_sx (k := t0) (l := t1) HZ.out.rd2.u8ss hz64)
      have Hzw : Hid ((Lit.int .i64 (zss.length : Int)).wf = true) := Lib.hid (wf_i64_of (by omega) (by omega))
      have HSl : Hid ((xs2 (rsl t0 (zss.length : Int)) (rsl t1 (zss.length : Int))).length = zss.length) := Lib.hid (by rw [xs2_rsl hz64, xors_len, rsl_nlen hz64])
      obtain ⟨P, hP⟩ : ∃ P, P = rsl t0 (zss.length : Int) := ⟨_, rfl⟩
      obtain ⟨Q, hQ⟩ : ∃ Q, Q = rsl t1 (zss.length : Int) := ⟨_, rfl⟩
      rw [← hP, ← hQ] at HISZ
      rw [← hP, ← hQ] at HSl
      obtain ⟨S, hS⟩ : ∃ S, S = xs2 P Q := ⟨_, rfl⟩
      rw [← hS] at HISZ
      rw [← hS] at HSl
      have HPe := Lib.hid hP
      have HQe := Lib.hid hQ
      have HSe := Lib.hid hS
      have hcl : cnt S ≤ zss.length := by have := cnt_le S; have := HSl.out; omega
      have hcl2 : decide (cnt S ≤ zss.length) = true := decide_eq_true hcl
      have hcl3 : decide ((cnt S : Int) ≤ (zss.length : Int)) = true := decide_eq_true (by omega)
      clear htot hsxl hP hQ hS
      go_wp2_with fail
      refine (at_any HA.out 0 (by omega) hs).mono ?_
      rw [← HT0.out]
      rintro e w9 ⟨⟨rfl, _, _⟩, hw⟩
      subst hw
      go_wp2_with fail
      refine (spec_rs HW0.out Hzw.out).mono ?_
      rw [← HPe.out]
      rintro e w10 ⟨v0, rfl, hO, hb⟩
      replace HR := Lib.hid (HR.out.behind (hb.mono HB.out.size))
      replace HA := Lib.hid (HA.out.behind (hb.mono HB.out.size))
      replace HZ := Lib.hid (HZ.out.next hb)
      replace HB := Lib.hid (HB.out.trans (hb.mono HB.out.size))
      clear hb
      have HPo := Lib.hid hO
      clear hO
      go_wp2_with fail
      refine (at_any HA.out 1 (by omega) hs).mono ?_
      rw [← HT1.out]
      rintro e w11 ⟨⟨rfl, _, _⟩, hw⟩
      subst hw
      go_wp2_with fail
      refine (spec_rs HW1.out Hzw.out).mono ?_
      rw [← HQe.out]
      rintro e w12 ⟨v1, rfl, hO, hb⟩
      replace HR := Lib.hid (HR.out.behind (hb.mono HB.out.size))
      replace HA := Lib.hid (HA.out.behind (hb.mono HB.out.size))
      replace HZ := Lib.hid (HZ.out.next hb)
      replace HPo := Lib.hid (HPo.out.next hb)
      replace HB := Lib.hid (HB.out.trans (hb.mono HB.out.size))
      clear hb
      have HQo := Lib.hid hO
      clear hO
      go_wp2_with fail
      refine (impl_xs HPo.out.rd HQo.out.rd (Nat.le_refl _) (Nat.le_refl _)).mono ?_
      rw [← HSe.out]
      rintro e w13 ⟨sv, rfl, hO, hb⟩
      obtain ⟨as_, cs_, rfl, _⟩ := hO.open
      have hO' := hO
      rw [HSl.out]
      replace HR := Lib.hid (HR.out.behind (hb.mono HB.out.size))
      replace HA := Lib.hid (HA.out.behind (hb.mono HB.out.size))
      replace HZ := Lib.hid (HZ.out.next hb)
      replace HPo := Lib.hid (HPo.out.next hb)
      replace HQo := Lib.hid (HQo.out.next hb)
      replace HB := Lib.hid (HB.out.trans (hb.mono HB.out.size))
      clear hb
      have HSo := Lib.hid hO'
      rw [HSl.out] at HSo
      clear hO hO'
      go_wp2_with fail
      refine (impl_cs HSo.out.rd).mono ?_
      rintro e w14 ⟨rfl, hw⟩
      subst hw
      go_wp2_with fail
      refine (impl_sx HZ.out.rd2 HPo.out.rd (Nat.le_refl _) (Nat.le_refl _) HTt.out).mono ?_
      rintro e w15 ⟨xHSP, rfl, hO, hb⟩
      replace HR := Lib.hid (HR.out.behind (hb.mono HB.out.size))
      replace HA := Lib.hid (HA.out.behind (hb.mono HB.out.size))
      replace HZ := Lib.hid (HZ.out.next hb)
      replace HPo := Lib.hid (HPo.out.next hb)
      replace HQo := Lib.hid (HQo.out.next hb)
      replace HSo := Lib.hid (HSo.out.next hb)
      replace HB := Lib.hid (HB.out.trans (hb.mono HB.out.size))
      clear hb
      have HSP := Lib.hid hO
      clear hO
      go_wp2_with fail
      refine (impl_sx HZ.out.rd2 HQo.out.rd (Nat.le_refl _) (Nat.le_refl _) HTt.out).mono ?_
      rintro e w16 ⟨xHSQ, rfl, hO, hb⟩
      replace HR := Lib.hid (HR.out.behind (hb.mono HB.out.size))
      replace HA := Lib.hid (HA.out.behind (hb.mono HB.out.size))
      replace HZ := Lib.hid (HZ.out.next hb)
      replace HPo := Lib.hid (HPo.out.next hb)
      replace HQo := Lib.hid (HQo.out.next hb)
      replace HSo := Lib.hid (HSo.out.next hb)
      replace HSP := Lib.hid (HSP.out.next hb)
      replace HB := Lib.hid (HB.out.trans (hb.mono HB.out.size))
      clear hb
      have HSQ := Lib.hid hO
      clear hO
      go_wp2_with fail
      refine (impl_xb HSP.out.rd HSQ.out.rd (Nat.le_refl _) (Nat.le_refl _) (by have h1 := Hsxl.out P; have h2 := Hsxl.out Q; omega)).mono ?_
      rintro e w17 ⟨lv, rfl, hO, hb⟩
      replace HR := Lib.hid (HR.out.behind (hb.mono HB.out.size))
      replace HA := Lib.hid (HA.out.behind (hb.mono HB.out.size))
      replace HZ := Lib.hid (HZ.out.next hb)
      replace HPo := Lib.hid (HPo.out.next hb)
      replace HQo := Lib.hid (HQo.out.next hb)
      replace HSo := Lib.hid (HSo.out.next hb)
      replace HSP := Lib.hid (HSP.out.next hb)
      replace HSQ := Lib.hid (HSQ.out.next hb)
      replace HB := Lib.hid (HB.out.trans (hb.mono HB.out.size))
      clear hb
      have HLo := Lib.hid hO
      clear hO
      clear HSP HSQ
      go_wp2_with fail
      refine (impl_sx HZ.out.rd2 HSo.out.rd (Nat.le_refl _) (Nat.le_refl _) HTt.out).mono ?_
      rintro e w18 ⟨mv, rfl, hO, hb⟩
      replace HR := Lib.hid (HR.out.behind (hb.mono HB.out.size))
      replace HA := Lib.hid (HA.out.behind (hb.mono HB.out.size))
      replace HZ := Lib.hid (HZ.out.next hb)
      replace HPo := Lib.hid (HPo.out.next hb)
      replace HQo := Lib.hid (HQo.out.next hb)
      replace HSo := Lib.hid (HSo.out.next hb)
      replace HLo := Lib.hid (HLo.out.next hb)
      replace HB := Lib.hid (HB.out.trans (hb.mono HB.out.size))
      clear hb
      have HMo := Lib.hid hO
      clear hO
      go_wp2_with fail
      refine (impl_xb HLo.out.rd HMo.out.rd (Nat.le_refl _) (Nat.le_refl _) (by have h1 := Hsxl.out P; have h2 := Hsxl.out Q; have h3 := Hsxl.out S; have h4 := xorl_len_le (sx zss P) (sx zss Q); omega)).mono ?_
      rintro e w19 ⟨zv, rfl, hO, hb⟩
      replace HR := Lib.hid (HR.out.behind (hb.mono HB.out.size))
      replace HA := Lib.hid (HA.out.behind (hb.mono HB.out.size))
      replace HZ := Lib.hid (HZ.out.next hb)
      replace HPo := Lib.hid (HPo.out.next hb)
      replace HQo := Lib.hid (HQo.out.next hb)
      replace HSo := Lib.hid (HSo.out.next hb)
      replace HLo := Lib.hid (HLo.out.next hb)
      replace HMo := Lib.hid (HMo.out.next hb)
      replace HB := Lib.hid (HB.out.trans (hb.mono HB.out.size))
      clear hb
      have HZo := Lib.hid hO
      clear hO
      clear HLo HMo
      go_wp2_with fail
      refine (impl_iz HZo.out.rd).mono ?_
      rw [HISZ.out]
      rintro e w20 ⟨rfl, hw⟩
      subst hw
      go_wp2_with fail
      refine (at_any HA.out 0 (by omega) hs).mono ?_
      rw [← HT0.out]
      rintro e w21 ⟨⟨rfl, _, _⟩, hw⟩
      subst hw
      go_wp2_with fail
      refine (impl_rs HW0.out Hzw.out).mono ?_
      rw [← HPe.out]
      rintro e w22 ⟨v9, rfl, hO, hb⟩
      replace HR := Lib.hid (HR.out.behind (hb.mono HB.out.size))
      replace HA := Lib.hid (HA.out.behind (hb.mono HB.out.size))
      replace HZ := Lib.hid (HZ.out.next hb)
      replace HPo := Lib.hid (HPo.out.next hb)
      replace HQo := Lib.hid (HQo.out.next hb)
      replace HSo := Lib.hid (HSo.out.next hb)
      replace HZo := Lib.hid (HZo.out.next hb)
      replace HB := Lib.hid (HB.out.trans (hb.mono HB.out.size))
      clear hb
      have HP2 := Lib.hid hO
      clear hO
      go_wp2_with fail
      refine (sameInts_same HP2.out.rd HPo.out.rd (Nat.le_refl _) (Nat.le_refl _)).mono ?_
      rintro e w23 ⟨rfl, hb⟩
      replace HR := Lib.hid (HR.out.behind (hb.mono HB.out.size))
      replace HA := Lib.hid (HA.out.behind (hb.mono HB.out.size))
      replace HZ := Lib.hid (HZ.out.next hb)
      replace HPo := Lib.hid (HPo.out.next hb)
      replace HQo := Lib.hid (HQo.out.next hb)
      replace HSo := Lib.hid (HSo.out.next hb)
      replace HZo := Lib.hid (HZo.out.next hb)
      replace HP2 := Lib.hid (HP2.out.next hb)
      replace HB := Lib.hid (HB.out.trans (hb.mono HB.out.size))
      clear hb
      go_wp2_with fail
      go_ret
      exact ⟨rfl, HB.out⟩
    · go_wp2_with fail
      refine (spec_is HV.out.rd Hvw.out).mono ?_
      rw [← HQ.out]
      rintro e w6 ⟨rfl, hw⟩
      subst hw
      go_wp2_with fail
      refine (impl_pk HY.out.rd (Nat.le_refl _)).mono ?_
      rw [HFb.out (by first | trivial | rfl)]
      rintro e w7 ⟨py, rfl, hO, hb⟩
      replace HR := Lib.hid (HR.out.behind (hb.mono HB.out.size))
      replace HA := Lib.hid (HA.out.behind (hb.mono HB.out.size))
      replace HV := Lib.hid (HV.out.next hb)
      replace HX := Lib.hid (HX.out.next hb)
      replace Hb := Lib.hid ((Hb.out.behind hb).mono hb.size)
      replace HY := Lib.hid (HY.out.next hb)
      replace HB := Lib.hid (HB.out.trans (hb.mono HB.out.size))
      clear hb
      have HPy := Lib.hid hO
      clear hO
      go_wp2_with fail
      refine (sameBytes_same HPy.out.rd Hb.out (Nat.le_refl _) (Nat.le_refl _)).mono ?_
      rintro e w8 ⟨rfl, hb⟩
      replace HR := Lib.hid (HR.out.behind (hb.mono HB.out.size))
      replace HA := Lib.hid (HA.out.behind (hb.mono HB.out.size))
      replace HV := Lib.hid (HV.out.next hb)
      replace HX := Lib.hid (HX.out.next hb)
      replace Hb := Lib.hid ((Hb.out.behind hb).mono hb.size)
      replace HY := Lib.hid (HY.out.next hb)
      replace HPy := Lib.hid (HPy.out.next hb)
      replace HB := Lib.hid (HB.out.trans (hb.mono HB.out.size))
      clear hb
      clear HPy
      go_wp2_with fail
      refine (spec_un Hb.out (Nat.le_refl _)).mono ?_
      rw [← HF.out]
      rintro e w9 ⟨y2, rfl, hO, hb⟩
      clear HV HX HY
      replace HR := Lib.hid (HR.out.behind (hb.mono HB.out.size))
      replace HA := Lib.hid (HA.out.behind (hb.mono HB.out.size))
      replace Hb := Lib.hid ((Hb.out.behind hb).mono hb.size)
      replace HB := Lib.hid (HB.out.trans (hb.mono HB.out.size))
      clear hb
      clear hO
      clear Hb
      go_wp2_with fail
      refine (draw_sx w.heap.size a s.length cap zs _ HB.out.size HR.out HL.out).mono ?_
      rintro e w10 ⟨rw_, ru, zss, rus, E, rfl, hO, hz4, hfl, _, _, hb⟩
      obtain ⟨ar, cr, rfl, _⟩ := hO.open
      replace HR := Lib.hid (HR.out.behind (hb.mono HB.out.size))
      replace HA := Lib.hid (HA.out.behind (hb.mono HB.out.size))
      replace HB := Lib.hid (HB.out.trans (hb.mono HB.out.size))
      clear hb
      have HZ := Lib.hid hO
      clear hO
      have hz64 : zss.length ≤ 64 := by omega
      have htot : tot zss ≤ 1099511627776 := by unfold tot; omega
      have HTt := Lib.hid htot
      have hsxl := fun v => sx_len zss v
      have Hsxl := Lib.hid hsxl
      have HISZ := Lib.hid (isz_sx (k := t0) (l := t1) HZ.out.rd2.u8ss hz64)
      have Hzw : Hid ((Lit.int .i64 (zss.length : Int)).wf = true) := Lib.hid (wf_i64_of (by omega) (by omega))
      have HSl : Hid ((xs2 (rsl t0 (zss.length : Int)) (rsl t1 (zss.length : Int))).length = zss.length) := Lib.hid (by rw [xs2_rsl hz64, xors_len, rsl_nlen hz64])
      obtain ⟨P, hP⟩ : ∃ P, P = rsl t0 (zss.length : Int) := ⟨_, rfl⟩
      obtain ⟨Q, hQ⟩ : ∃ Q, Q = rsl t1 (zss.length : Int) := ⟨_, rfl⟩
      rw [← hP, ← hQ] at HISZ
      rw [← hP, ← hQ] at HSl
      obtain ⟨S, hS⟩ : ∃ S, S = xs2 P Q := ⟨_, rfl⟩
      rw [← hS] at HISZ
      rw [← hS] at HSl
      have HPe := Lib.hid hP
      have HQe := Lib.hid hQ
      have HSe := Lib.hid hS
      have hcl : cnt S ≤ zss.length := by have := cnt_le S; have := HSl.out; omega
      have hcl2 : decide (cnt S ≤ zss.length) = true := decide_eq_true hcl
      have hcl3 : decide ((cnt S : Int) ≤ (zss.length : Int)) = true := decide_eq_true (by omega)
      clear htot hsxl hP hQ hS
      go_wp2_with fail
      refine (at_any HA.out 0 (by omega) hs).mono ?_
      rw [← HT0.out]
      rintro e w11 ⟨⟨rfl, _, _⟩, hw⟩
      subst hw
      go_wp2_with fail
      refine (spec_rs HW0.out Hzw.out).mono ?_
      rw [← HPe.out]
      rintro e w12 ⟨v0, rfl, hO, hb⟩
      replace HR := Lib.hid (HR.out.behind (hb.mono HB.out.size))
      replace HA := Lib.hid (HA.out.behind (hb.mono HB.out.size))
      replace HZ := Lib.hid (HZ.out.next hb)
      replace HB := Lib.hid (HB.out.trans (hb.mono HB.out.size))
      clear hb
      have HPo := Lib.hid hO
      clear hO
      go_wp2_with fail
      refine (at_any HA.out 1 (by omega) hs).mono ?_
      rw [← HT1.out]
      rintro e w13 ⟨⟨rfl, _, _⟩, hw⟩
      subst hw
      go_wp2_with fail
      refine (spec_rs HW1.out Hzw.out).mono ?_
      rw [← HQe.out]
      rintro e w14 ⟨v1, rfl, hO, hb⟩
      replace HR := Lib.hid (HR.out.behind (hb.mono HB.out.size))
      replace HA := Lib.hid (HA.out.behind (hb.mono HB.out.size))
      replace HZ := Lib.hid (HZ.out.next hb)
      replace HPo := Lib.hid (HPo.out.next hb)
      replace HB := Lib.hid (HB.out.trans (hb.mono HB.out.size))
      clear hb
      have HQo := Lib.hid hO
      clear hO
      go_wp2_with fail
      refine (impl_xs HPo.out.rd HQo.out.rd (Nat.le_refl _) (Nat.le_refl _)).mono ?_
      rw [← HSe.out]
      rintro e w15 ⟨sv, rfl, hO, hb⟩
      obtain ⟨as_, cs_, rfl, _⟩ := hO.open
      have hO' := hO
      rw [HSl.out]
      replace HR := Lib.hid (HR.out.behind (hb.mono HB.out.size))
      replace HA := Lib.hid (HA.out.behind (hb.mono HB.out.size))
      replace HZ := Lib.hid (HZ.out.next hb)
      replace HPo := Lib.hid (HPo.out.next hb)
      replace HQo := Lib.hid (HQo.out.next hb)
      replace HB := Lib.hid (HB.out.trans (hb.mono HB.out.size))
      clear hb
      have HSo := Lib.hid hO'
      rw [HSl.out] at HSo
      clear hO hO'
      go_wp2_with fail
      refine (impl_cs HSo.out.rd).mono ?_
      rintro e w16 ⟨rfl, hw⟩
      subst hw
      go_wp2_with fail
      refine (impl_sx HZ.out.rd2 HPo.out.rd (Nat.le_refl _) (Nat.le_refl _) HTt.out).mono ?_
      rintro e w17 ⟨xHSP, rfl, hO, hb⟩
      replace HR := Lib.hid (HR.out.behind (hb.mono HB.out.size))
      replace HA := Lib.hid (HA.out.behind (hb.mono HB.out.size))
      replace HZ := Lib.hid (HZ.out.next hb)
      replace HPo := Lib.hid (HPo.out.next hb)
      replace HQo := Lib.hid (HQo.out.next hb)
      replace HSo := Lib.hid (HSo.out.next hb)
      replace HB := Lib.hid (HB.out.trans (hb.mono HB.out.size))
      clear hb
      have HSP := Lib.hid hO
      clear hO
      go_wp2_with fail
      refine (impl_sx HZ.out.rd2 HQo.out.rd (Nat.le_refl _) (Nat.le_refl _) HTt.out).mono ?_
      rintro e w18 ⟨xHSQ, rfl, hO, hb⟩
      replace HR := Lib.hid (HR.out.behind (hb.mono HB.out.size))
      replace HA := Lib.hid (HA.out.behind (hb.mono HB.out.size))
      replace HZ := Lib.hid (HZ.out.next hb)
      replace HPo := Lib.hid (HPo.out.next hb)
      replace HQo := Lib.hid (HQo.out.next hb)
      replace HSo := Lib.hid (HSo.out.next hb)
      replace HSP := Lib.hid (HSP.out.next hb)
      replace HB := Lib.hid (HB.out.trans (hb.mono HB.out.size))
      clear hb
      have HSQ := Lib.hid hO
      clear hO
      go_wp2_with fail
      refine (impl_xb HSP.out.rd HSQ.out.rd (Nat.le_refl _) (Nat.le_refl _) (by have h1 := Hsxl.out P; have h2 := Hsxl.out Q; omega)).mono ?_
      rintro e w19 ⟨lv, rfl, hO, hb⟩
      replace HR := Lib.hid (HR.out.behind (hb.mono HB.out.size))
      replace HA := Lib.hid (HA.out.behind (hb.mono HB.out.size))
      replace HZ := Lib.hid (HZ.out.next hb)
      replace HPo := Lib.hid (HPo.out.next hb)
      replace HQo := Lib.hid (HQo.out.next hb)
      replace HSo := Lib.hid (HSo.out.next hb)
      replace HSP := Lib.hid (HSP.out.next hb)
      replace HSQ := Lib.hid (HSQ.out.next hb)
      replace HB := Lib.hid (HB.out.trans (hb.mono HB.out.size))
      clear hb
      have HLo := Lib.hid hO
      clear hO
      clear HSP HSQ
      go_wp2_with fail
      refine (impl_sx HZ.out.rd2 HSo.out.rd (Nat.le_refl _) (Nat.le_refl _) HTt.out).mono ?_
      rintro e w20 ⟨mv, rfl, hO, hb⟩
      replace HR := Lib.hid (HR.out.behind (hb.mono HB.out.size))
      replace HA := Lib.hid (HA.out.behind (hb.mono HB.out.size))
      replace HZ := Lib.hid (HZ.out.next hb)
      replace HPo := Lib.hid (HPo.out.next hb)
      replace HQo := Lib.hid (HQo.out.next hb)
      replace HSo := Lib.hid (HSo.out.next hb)
      replace HLo := Lib.hid (HLo.out.next hb)
      replace HB := Lib.hid (HB.out.trans (hb.mono HB.out.size))
      clear hb
      have HMo := Lib.hid hO
      clear hO
      go_wp2_with fail
      refine (impl_xb HLo.out.rd HMo.out.rd (Nat.le_refl _) (Nat.le_refl _) (by have h1 := Hsxl.out P; have h2 := Hsxl.out Q; have h3 := Hsxl.out S; have h4 := xorl_len_le (sx zss P) (sx zss Q); omega)).mono ?_
      rintro e w21 ⟨zv, rfl, hO, hb⟩
      replace HR := Lib.hid (HR.out.behind (hb.mono HB.out.size))
      replace HA := Lib.hid (HA.out.behind (hb.mono HB.out.size))
      replace HZ := Lib.hid (HZ.out.next hb)
      replace HPo := Lib.hid (HPo.out.next hb)
      replace HQo := Lib.hid (HQo.out.next hb)
      replace HSo := Lib.hid (HSo.out.next hb)
      replace HLo := Lib.hid (HLo.out.next hb)
      replace HMo := Lib.hid (HMo.out.next hb)
      replace HB := Lib.hid (HB.out.trans (hb.mono HB.out.size))
      clear hb
      have HZo := Lib.hid hO
      clear hO
      clear HLo HMo
      go_wp2_with fail
      refine (impl_iz HZo.out.rd).mono ?_
      rw [HISZ.out]
      rintro e w22 ⟨rfl, hw⟩
      subst hw
      go_wp2_with fail
      refine (at_any HA.out 0 (by omega) hs).mono ?_
      rw [← HT0.out]
      rintro e w23 ⟨⟨rfl, _, _⟩, hw⟩
      subst hw
      go_wp2_with fail
      refine (impl_rs HW0.out Hzw.out).mono ?_
      rw [← HPe.out]
      rintro e w24 ⟨v9, rfl, hO, hb⟩
      replace HR := Lib.hid (HR.out.behind (hb.mono HB.out.size))
      replace HA := Lib.hid (HA.out.behind (hb.mono HB.out.size))
      replace HZ := Lib.hid (HZ.out.next hb)
      replace HPo := Lib.hid (HPo.out.next hb)
      replace HQo := Lib.hid (HQo.out.next hb)
      replace HSo := Lib.hid (HSo.out.next hb)
      replace HZo := Lib.hid (HZo.out.next hb)
      replace HB := Lib.hid (HB.out.trans (hb.mono HB.out.size))
      clear hb
      have HP2 := Lib.hid hO
      clear hO
      go_wp2_with fail
      refine (sameInts_same HP2.out.rd HPo.out.rd (Nat.le_refl _) (Nat.le_refl _)).mono ?_
      rintro e w25 ⟨rfl, hb⟩
      replace HR := Lib.hid (HR.out.behind (hb.mono HB.out.size))
      replace HA := Lib.hid (HA.out.behind (hb.mono HB.out.size))
      replace HZ := Lib.hid (HZ.out.next hb)
      replace HPo := Lib.hid (HPo.out.next hb)
      replace HQo := Lib.hid (HQo.out.next hb)
      replace HSo := Lib.hid (HSo.out.next hb)
      replace HZo := Lib.hid (HZo.out.next hb)
      replace HP2 := Lib.hid (HP2.out.next hb)
      replace HB := Lib.hid (HB.out.trans (hb.mono HB.out.size))
      clear hb
      go_wp2_with fail
      go_ret
      exact ⟨rfl, HB.out⟩
  · cases f
    · go_wp2_with fail
      refine (spec_is HV.out.rd Hvw.out).mono ?_
      rw [← HQ.out]
      rintro e w6 ⟨rfl, hw⟩
      subst hw
      have HXe := Lib.hid (HXV.out (by first | trivial | rfl))
      have HX2 := HX
      clear HX
      rw [HXe.out] at HX2
      have HX := HX2
      clear HX2
      go_wp2_with fail
      refine (sameInts_same HX.out.rd HV.out.rd (Nat.le_refl _) (Nat.le_refl _)).mono ?_
      rintro e w7 ⟨rfl, hb⟩
      replace HR := Lib.hid (HR.out.behind (hb.mono HB.out.size))
      replace HA := Lib.hid (HA.out.behind (hb.mono HB.out.size))
      replace HV := Lib.hid (HV.out.next hb)
      replace HX := Lib.hid (HX.out.next hb)
      replace Hb := Lib.hid ((Hb.out.behind hb).mono hb.size)
      replace HY := Lib.hid (HY.out.next hb)
      replace HB := Lib.hid (HB.out.trans (hb.mono HB.out.size))
      clear hb
      go_wp2_with fail
      refine (spec_un Hb.out (Nat.le_refl _)).mono ?_
      rw [← HF.out]
      rintro e w8 ⟨y2, rfl, hO, hb⟩
      clear HV HX HY
      replace HR := Lib.hid (HR.out.behind (hb.mono HB.out.size))
      replace HA := Lib.hid (HA.out.behind (hb.mono HB.out.size))
      replace Hb := Lib.hid ((Hb.out.behind hb).mono hb.size)
      replace HB := Lib.hid (HB.out.trans (hb.mono HB.out.size))
      clear hb
      clear hO
      clear Hb
      go_wp2_with fail
      refine (draw_sx w.heap.size a s.length cap zs _ HB.out.size HR.out HL.out).mono ?_
      rintro e w9 ⟨rw_, ru, zss, rus, E, rfl, hO, hz4, hfl, _, _, hb⟩
      obtain ⟨ar, cr, rfl, _⟩ := hO.open
      replace HR := Lib.hid (HR.out.behind (hb.mono HB.out.size))
      replace HA := Lib.hid (HA.out.behind (hb.mono HB.out.size))
      replace HB := Lib.hid (HB.out.trans (hb.mono HB.out.size))
      clear hb
      have HZ := Lib.hid hO
      clear hO
      have hz64 : zss.length ≤ 64 := by omega
      have htot : tot zss ≤ 1099511627776 := by unfold tot; omega
      have HTt := Lib.hid htot
      have hsxl := fun v => sx_len zss v
      have Hsxl := Lib.hid hsxl
      have HISZ := Lib.hid (isz_sx (k := t0) (l := t1) HZ.out.rd2.u8ss hz64)
      have Hzw : Hid ((Lit.int .i64 (zss.length : Int)).wf = true) := Lib.hid (wf_i64_of (by omega) (by omega))
      have HSl : Hid ((xs2 (rsl t0 (zss.length : Int)) (rsl t1 (zss.length : Int))).length = zss.length) := Lib.hid (by rw [xs2_rsl hz64, xors_len, rsl_nlen hz64])
      obtain ⟨P, hP⟩ : ∃ P, P = rsl t0 (zss.length : Int) := ⟨_, rfl⟩
      obtain ⟨Q, hQ⟩ : ∃ Q, Q = rsl t1 (zss.length : Int) := ⟨_, rfl⟩
      rw [← hP, ← hQ] at HISZ
      rw [← hP, ← hQ] at HSl
      obtain ⟨S, hS⟩ : ∃ S, S = xs2 P Q := ⟨_, rfl⟩
      rw [← hS] at HISZ
      rw [← hS] at HSl
      have HPe := Lib.hid hP
      have HQe := Lib.hid hQ
      have HSe := Lib.hid hS
      have hcl : cnt S ≤ zss.length := by have := cnt_le S; have := HSl.out; omega
      have hcl2 : decide (cnt S ≤ zss.length) = true := decide_eq_true hcl
      have hcl3 : decide ((cnt S : Int) ≤ (zss.length : Int)) = true := decide_eq_true (by omega)
      clear htot hsxl hP hQ hS
      go_wp2_with fail
      refine (at_any HA.out 0 (by omega) hs).mono ?_
      rw [← HT0.out]
      rintro e w10 ⟨⟨rfl, _, _⟩, hw⟩
      subst hw
      go_wp2_with fail
      refine (spec_rs HW0.out Hzw.out).mono ?_
      rw [← HPe.out]
      rintro e w11 ⟨v0, rfl, hO, hb⟩
      replace HR := Lib.hid (HR.out.behind (hb.mono HB.out.size))
      replace HA := Lib.hid (HA.out.behind (hb.mono HB.out.size))
      replace HZ := Lib.hid (HZ.out.next hb)
      replace HB := Lib.hid (HB.out.trans (hb.mono HB.out.size))
      clear hb
      have HPo := Lib.hid hO
      clear hO
      go_wp2_with fail
      refine (at_any HA.out 1 (by omega) hs).mono ?_
      rw [← HT1.out]
      rintro e w12 ⟨⟨rfl, _, _⟩, hw⟩
      subst hw
      go_wp2_with fail
      refine (spec_rs HW1.out Hzw.out).mono ?_
      rw [← HQe.out]
      rintro e w13 ⟨v1, rfl, hO, hb⟩
      replace HR := Lib.hid (HR.out.behind (hb.mono HB.out.size))
      replace HA := Lib.hid (HA.out.behind (hb.mono HB.out.size))
      replace HZ := Lib.hid (HZ.out.next hb)
      replace HPo := Lib.hid (HPo.out.next hb)
      replace HB := Lib.hid (HB.out.trans (hb.mono HB.out.size))
      clear hb
      have HQo := Lib.hid hO
      clear hO
      go_wp2_with fail
      refine (impl_xs HPo.out.rd HQo.out.rd (Nat.le_refl _) (Nat.le_refl _)).mono ?_
      rw [← HSe.out]
      rintro e w14 ⟨sv, rfl, hO, hb⟩
      obtain ⟨as_, cs_, rfl, _⟩ := hO.open
      have hO' := hO
      rw [HSl.out]
      replace HR := Lib.hid (HR.out.behind (hb.mono HB.out.size))
      replace HA := Lib.hid (HA.out.behind (hb.mono HB.out.size))
      replace HZ := Lib.hid (HZ.out.next hb)
      replace HPo := Lib.hid (HPo.out.next hb)
      replace HQo := Lib.hid (HQo.out.next hb)
      replace HB := Lib.hid (HB.out.trans (hb.mono HB.out.size))
      clear hb
      have HSo := Lib.hid hO'
      rw [HSl.out] at HSo
      clear hO hO'
      go_wp2_with fail
      refine (impl_cs HSo.out.rd).mono ?_
      rintro e w15 ⟨rfl, hw⟩
      subst hw
      go_wp2_with fail
      refine (impl_sx HZ.out.rd2 HPo.out.rd (Nat.le_refl _) (Nat.le_refl _) HTt.out).mono ?_
      rintro e w16 ⟨xHSP, rfl, hO, hb⟩
      replace HR := Lib.hid (HR.out.behind (hb.mono HB.out.size))
      replace HA := Lib.hid (HA.out.behind (hb.mono HB.out.size))
      replace HZ := Lib.hid (HZ.out.next hb)
      replace HPo := Lib.hid (HPo.out.next hb)
      replace HQo := Lib.hid (HQo.out.next hb)
      replace HSo := Lib.hid (HSo.out.next hb)
      replace HB := Lib.hid (HB.out.trans (hb.mono HB.out.size))
      clear hb
      have HSP := Lib.hid hO
      clear hO
      go_wp2_with fail
      refine (impl_sx HZ.out.rd2 HQo.out.rd (Nat.le_refl _) (Nat.le_refl _) HTt.out).mono ?_
      rintro e w17 ⟨xHSQ, rfl, hO, hb⟩
      replace HR := Lib.hid (HR.out.behind (hb.mono HB.out.size))
      replace HA := Lib.hid (HA.out.behind (hb.mono HB.out.size))
      replace HZ := Lib.hid (HZ.out.next hb)
      replace HPo := Lib.hid (HPo.out.next hb)
      replace HQo := Lib.hid (HQo.out.next hb)
      replace HSo := Lib.hid (HSo.out.next hb)
      replace HSP := Lib.hid (HSP.out.next hb)
      replace HB := Lib.hid (HB.out.trans (hb.mono HB.out.size))
      clear hb
      have HSQ := Lib.hid hO
      clear hO
      go_wp2_with fail
      refine (impl_xb HSP.out.rd HSQ.out.rd (Nat.le_refl _) (Nat.le_refl _) (by have h1 := Hsxl.out P; have h2 := Hsxl.out Q; omega)).mono ?_
      rintro e w18 ⟨lv, rfl, hO, hb⟩
      replace HR := Lib.hid (HR.out.behind (hb.mono HB.out.size))
      replace HA := Lib.hid (HA.out.behind (hb.mono HB.out.size))
      replace HZ := Lib.hid (HZ.out.next hb)
      replace HPo := Lib.hid (HPo.out.next hb)
      replace HQo := Lib.hid (HQo.out.next hb)
      replace HSo := Lib.hid (HSo.out.next hb)
      replace HSP := Lib.hid (HSP.out.next hb)
      replace HSQ := Lib.hid (HSQ.out.next hb)
      replace HB := Lib.hid (HB.out.trans (hb.mono HB.out.size))
      clear hb
      have HLo := Lib.hid hO
      clear hO
      clear HSP HSQ
      go_wp2_with fail
      refine (impl_sx HZ.out.rd2 HSo.out.rd (Nat.le_refl _) (Nat.le_refl _) HTt.out).mono ?_
      rintro e w19 ⟨mv, rfl, hO, hb⟩
      replace HR := Lib.hid (HR.out.behind (hb.mono HB.out.size))
      replace HA := Lib.hid (HA.out.behind (hb.mono HB.out.size))
      replace HZ := Lib.hid (HZ.out.next hb)
      replace HPo := Lib.hid (HPo.out.next hb)
      replace HQo := Lib.hid (HQo.out.next hb)
      replace HSo := Lib.hid (HSo.out.next hb)
      replace HLo := Lib.hid (HLo.out.next hb)
      replace HB := Lib.hid (HB.out.trans (hb.mono HB.out.size))
      clear hb
      have HMo := Lib.hid hO
      clear hO
      go_wp2_with fail
      refine (impl_xb HLo.out.rd HMo.out.rd (Nat.le_refl _) (Nat.le_refl _) (by have h1 := Hsxl.out P; have h2 := Hsxl.out Q; have h3 := Hsxl.out S; have h4 := xorl_len_le (sx zss P) (sx zss Q); omega)).mono ?_
      rintro e w20 ⟨zv, rfl, hO, hb⟩
      replace HR := Lib.hid (HR.out.behind (hb.mono HB.out.size))
      replace HA := Lib.hid (HA.out.behind (hb.mono HB.out.size))
      replace HZ := Lib.hid (HZ.out.next hb)
      replace HPo := Lib.hid (HPo.out.next hb)
      replace HQo := Lib.hid (HQo.out.next hb)
      replace HSo := Lib.hid (HSo.out.next hb)
      replace HLo := Lib.hid (HLo.out.next hb)
      replace HMo := Lib.hid (HMo.out.next hb)
      replace HB := Lib.hid (HB.out.trans (hb.mono HB.out.size))
      clear hb
      have HZo := Lib.hid hO
      clear hO
      clear HLo HMo
      go_wp2_with fail
      refine (impl_iz HZo.out.rd).mono ?_
      rw [HISZ.out]
      rintro e w21 ⟨rfl, hw⟩
      subst hw
      go_wp2_with fail
      refine (at_any HA.out 0 (by omega) hs).mono ?_
      rw [← HT0.out]
      rintro e w22 ⟨⟨rfl, _, _⟩, hw⟩
      subst hw
      go_wp2_with fail
      refine (impl_rs HW0.out Hzw.out).mono ?_
      rw [← HPe.out]
      rintro e w23 ⟨v9, rfl, hO, hb⟩
      replace HR := Lib.hid (HR.out.behind (hb.mono HB.out.size))
      replace HA := Lib.hid (HA.out.behind (hb.mono HB.out.size))
      replace HZ := Lib.hid (HZ.out.next hb)
      replace HPo := Lib.hid (HPo.out.next hb)
      replace HQo := Lib.hid (HQo.out.next hb)
      replace HSo := Lib.hid (HSo.out.next hb)
      replace HZo := Lib.hid (HZo.out.next hb)
      replace HB := Lib.hid (HB.out.trans (hb.mono HB.out.size))
      clear hb
      have HP2 := Lib.hid hO
      clear hO
      go_wp2_with fail
      refine (sameInts_same HP2.out.rd HPo.out.rd (Nat.le_refl _) (Nat.le_refl _)).mono ?_
      rintro e w24 ⟨rfl, hb⟩
      replace HR := Lib.hid (HR.out.behind (hb.mono HB.out.size))
      replace HA := Lib.hid (HA.out.behind (hb.mono HB.out.size))
      replace HZ := Lib.hid (HZ.out.next hb)
      replace HPo := Lib.hid (HPo.out.next hb)
      replace HQo := Lib.hid (HQo.out.next hb)
      replace HSo := Lib.hid (HSo.out.next hb)
      replace HZo := Lib.hid (HZo.out.next hb)
      replace HP2 := Lib.hid (HP2.out.next hb)
      replace HB := Lib.hid (HB.out.trans (hb.mono HB.out.size))
      clear hb
      go_wp2_with fail
      go_ret
      exact ⟨rfl, HB.out⟩
    · go_wp2_with fail
      refine (spec_is HV.out.rd Hvw.out).mono ?_
      rw [← HQ.out]
      rintro e w6 ⟨rfl, hw⟩
      subst hw
      have HXe := Lib.hid (HXV.out (by first | trivial | rfl))
      have HX2 := HX
      clear HX
      rw [HXe.out] at HX2
      have HX := HX2
      clear HX2
      go_wp2_with fail
      refine (sameInts_same HX.out.rd HV.out.rd (Nat.le_refl _) (Nat.le_refl _)).mono ?_
      rintro e w7 ⟨rfl, hb⟩
      replace HR := Lib.hid (HR.out.behind (hb.mono HB.out.size))
      replace HA := Lib.hid (HA.out.behind (hb.mono HB.out.size))
      replace HV := Lib.hid (HV.out.next hb)
      replace HX := Lib.hid (HX.out.next hb)
      replace Hb := Lib.hid ((Hb.out.behind hb).mono hb.size)
      replace HY := Lib.hid (HY.out.next hb)
      replace HB := Lib.hid (HB.out.trans (hb.mono HB.out.size))
      clear hb
      go_wp2_with fail
      refine (impl_pk HY.out.rd (Nat.le_refl _)).mono ?_
      rw [HFb.out (by first | trivial | rfl)]
      rintro e w8 ⟨py, rfl, hO, hb⟩
      replace HR := Lib.hid (HR.out.behind (hb.mono HB.out.size))
      replace HA := Lib.hid (HA.out.behind (hb.mono HB.out.size))
      replace HV := Lib.hid (HV.out.next hb)
      replace HX := Lib.hid (HX.out.next hb)
      replace Hb := Lib.hid ((Hb.out.behind hb).mono hb.size)
      replace HY := Lib.hid (HY.out.next hb)
      replace HB := Lib.hid (HB.out.trans (hb.mono HB.out.size))
      clear hb
      have HPy := Lib.hid hO
      clear hO
      go_wp2_with fail
      refine (sameBytes_same HPy.out.rd Hb.out (Nat.le_refl _) (Nat.le_refl _)).mono ?_
      rintro e w9 ⟨rfl, hb⟩
      replace HR := Lib.hid (HR.out.behind (hb.mono HB.out.size))
      replace HA := Lib.hid (HA.out.behind (hb.mono HB.out.size))
      replace HV := Lib.hid (HV.out.next hb)
      replace HX := Lib.hid (HX.out.next hb)
      replace Hb := Lib.hid ((Hb.out.behind hb).mono hb.size)
      replace HY := Lib.hid (HY.out.next hb)
      replace HPy := Lib.hid (HPy.out.next hb)
      replace HB := Lib.hid (HB.out.trans (hb.mono HB.out.size))
      clear hb
      clear HPy
      go_wp2_with fail
      refine (spec_un Hb.out (Nat.le_refl _)).mono ?_
      rw [← HF.out]
      rintro e w10 ⟨y2, rfl, hO, hb⟩
      clear HV HX HY
      replace HR := Lib.hid (HR.out.behind (hb.mono HB.out.size))
      replace HA := Lib.hid (HA.out.behind (hb.mono HB.out.size))
      replace Hb := Lib.hid ((Hb.out.behind hb).mono hb.size)
      replace HB := Lib.hid (HB.out.trans (hb.mono HB.out.size))
      clear hb
      clear hO
      clear Hb
      go_wp2_with fail
      refine (draw_sx w.heap.size a s.length cap zs _ HB.out.size HR.out HL.out).mono ?_
      rintro e w11 ⟨rw_, ru, zss, rus, E, rfl, hO, hz4, hfl, _, _, hb⟩
      obtain ⟨ar, cr, rfl, _⟩ := hO.open
      replace HR := Lib.hid (HR.out.behind (hb.mono HB.out.size))
      replace HA := Lib.hid (HA.out.behind (hb.mono HB.out.size))
      replace HB := Lib.hid (HB.out.trans (hb.mono HB.out.size))
      clear hb
      have HZ := Lib.hid hO
      clear hO
      have hz64 : zss.length ≤ 64 := by omega
      have htot : tot zss ≤ 1099511627776 := by unfold tot; omega
      have HTt := Lib.hid htot
      have hsxl := fun v => sx_len zss v
      have Hsxl := Lib.hid hsxl
      have HISZ := Lib.hid (isz_sx (k := t0) (l := t1) HZ.out.rd2.u8ss hz64)
      have Hzw : Hid ((Lit.int .i64 (zss.length : Int)).wf = true) := Lib.hid (wf_i64_of (by omega) (by omega))
      have HSl : Hid ((xs2 (rsl t0 (zss.length : Int)) (rsl t1 (zss.length : Int))).length = zss.length) := Lib.hid (by rw [xs2_rsl hz64, xors_len, rsl_nlen hz64])
      obtain ⟨P, hP⟩ : ∃ P, P = rsl t0 (zss.length : Int) := ⟨_, rfl⟩
      obtain ⟨Q, hQ⟩ : ∃ Q, Q = rsl t1 (zss.length : Int) := ⟨_, rfl⟩
      rw [← hP, ← hQ] at HISZ
      rw [← hP, ← hQ] at HSl
      obtain ⟨S, hS⟩ : ∃ S, S = xs2 P Q := ⟨_, rfl⟩
      rw [← hS] at HISZ
      rw [← hS] at HSl
      have HPe := Lib.hid hP
      have HQe := Lib.hid hQ
      have HSe := Lib.hid hS
      have hcl : cnt S ≤ zss.length := by have := cnt_le S; have := HSl.out; omega
      have hcl2 : decide (cnt S ≤ zss.length) = true := decide_eq_true hcl
      have hcl3 : decide ((cnt S : Int) ≤ (zss.length : Int)) = true := decide_eq_true (by omega)
      clear htot hsxl hP hQ hS
      go_wp2_with fail
      refine (at_any HA.out 0 (by omega) hs).mono ?_
      rw [← HT0.out]
      rintro e w12 ⟨⟨rfl, _, _⟩, hw⟩
      subst hw
      go_wp2_with fail
      refine (spec_rs HW0.out Hzw.out).mono ?_
      rw [← HPe.out]
      rintro e w13 ⟨v0, rfl, hO, hb⟩
      replace HR := Lib.hid (HR.out.behind (hb.mono HB.out.size))
      replace HA := Lib.hid (HA.out.behind (hb.mono HB.out.size))
      replace HZ := Lib.hid (HZ.out.next hb)
      replace HB := Lib.hid (HB.out.trans (hb.mono HB.out.size))
      clear hb
      have HPo := Lib.hid hO
      clear hO
      go_wp2_with fail
      refine (at_any HA.out 1 (by omega) hs).mono ?_
      rw [← HT1.out]
      rintro e w14 ⟨⟨rfl, _, _⟩, hw⟩
      subst hw
      go_wp2_with fail
      refine (spec_rs HW1.out Hzw.out).mono ?_
      rw [← HQe.out]
      rintro e w15 ⟨v1, rfl, hO, hb⟩
      replace HR := Lib.hid (HR.out.behind (hb.mono HB.out.size))
      replace HA := Lib.hid (HA.out.behind (hb.mono HB.out.size))
      replace HZ := Lib.hid (HZ.out.next hb)
      replace HPo := Lib.hid (HPo.out.next hb)
      replace HB := Lib.hid (HB.out.trans (hb.mono HB.out.size))
      clear hb
      have HQo := Lib.hid hO
      clear hO
      go_wp2_with fail
      refine (impl_xs HPo.out.rd HQo.out.rd (Nat.le_refl _) (Nat.le_refl _)).mono ?_
      rw [← HSe.out]
      rintro e w16 ⟨sv, rfl, hO, hb⟩
      obtain ⟨as_, cs_, rfl, _⟩ := hO.open
      have hO' := hO
      rw [HSl.out]
      replace HR := Lib.hid (HR.out.behind (hb.mono HB.out.size))
      replace HA := Lib.hid (HA.out.behind (hb.mono HB.out.size))
      replace HZ := Lib.hid (HZ.out.next hb)
      replace HPo := Lib.hid (HPo.out.next hb)
      replace HQo := Lib.hid (HQo.out.next hb)
      replace HB := Lib.hid (HB.out.trans (hb.mono HB.out.size))
      clear hb
      have HSo := Lib.hid hO'
      rw [HSl.out] at HSo
      clear hO hO'
      go_wp2_with fail
      refine (impl_cs HSo.out.rd).mono ?_
      rintro e w17 ⟨rfl, hw⟩
      subst hw
      go_wp2_with fail
      refine (impl_sx HZ.out.rd2 HPo.out.rd (Nat.le_refl _) (Nat.le_refl _) HTt.out).mono ?_
      rintro e w18 ⟨xHSP, rfl, hO, hb⟩
      replace HR := Lib.hid (HR.out.behind (hb.mono HB.out.size))
      replace HA := Lib.hid (HA.out.behind (hb.mono HB.out.size))
      replace HZ := Lib.hid (HZ.out.next hb)
      replace HPo := Lib.hid (HPo.out.next hb)
      replace HQo := Lib.hid (HQo.out.next hb)
      replace HSo := Lib.hid (HSo.out.next hb)
      replace HB := Lib.hid (HB.out.trans (hb.mono HB.out.size))
      clear hb
      have HSP := Lib.hid hO
      clear hO
      go_wp2_with fail
      refine (impl_sx HZ.out.rd2 HQo.out.rd (Nat.le_refl _) (Nat.le_refl _) HTt.out).mono ?_
      rintro e w19 ⟨xHSQ, rfl, hO, hb⟩
      replace HR := Lib.hid (HR.out.behind (hb.mono HB.out.size))
      replace HA := Lib.hid (HA.out.behind (hb.mono HB.out.size))
      replace HZ := Lib.hid (HZ.out.next hb)
      replace HPo := Lib.hid (HPo.out.next hb)
      replace HQo := Lib.hid (HQo.out.next hb)
      replace HSo := Lib.hid (HSo.out.next hb)
      replace HSP := Lib.hid (HSP.out.next hb)
      replace HB := Lib.hid (HB.out.trans (hb.mono HB.out.size))
      clear hb
      have HSQ := Lib.hid hO
      clear hO
      go_wp2_with fail
      refine (impl_xb HSP.out.rd HSQ.out.rd (Nat.le_refl _) (Nat.le_refl _) (by have h1 := Hsxl.out P; have h2 := Hsxl.out Q; omega)).mono ?_
      rintro e w20 ⟨lv, rfl, hO, hb⟩
      replace HR := Lib.hid (HR.out.behind (hb.mono HB.out.size))
      replace HA := Lib.hid (HA.out.behind (hb.mono HB.out.size))
      replace HZ := Lib.hid (HZ.out.next hb)
      replace HPo := Lib.hid (HPo.out.next hb)
      replace HQo := Lib.hid (HQo.out.next hb)
      replace HSo := Lib.hid (HSo.out.next hb)
      replace HSP := Lib.hid (HSP.out.next hb)
      replace HSQ := Lib.hid (HSQ.out.next hb)
      replace HB := Lib.hid (HB.out.trans (hb.mono HB.out.size))
      clear hb
      have HLo := Lib.hid hO
      clear hO
      clear HSP HSQ
      go_wp2_with fail
      refine (impl_sx HZ.out.rd2 HSo.out.rd (Nat.le_refl _) (Nat.le_refl _) HTt.out).mono ?_
      rintro e w21 ⟨mv, rfl, hO, hb⟩
      replace HR := Lib.hid (HR.out.behind (hb.mono HB.out.size))
      replace HA := Lib.hid (HA.out.behind (hb.mono HB.out.size))
      replace HZ := Lib.hid (HZ.out.next hb)
      replace HPo := Lib.hid (HPo.out.next hb)
      replace HQo := Lib.hid (HQo.out.next hb)
      replace HSo := Lib.hid (HSo.out.next hb)
      replace HLo := Lib.hid (HLo.out.next hb)
      replace HB := Lib.hid (HB.out.trans (hb.mono HB.out.size))
      clear hb
      have HMo := Lib.hid hO
      clear hO
      go_wp2_with fail
      refine (impl_xb HLo.out.rd HMo.out.rd (Nat.le_refl _) (Nat.le_refl _) (by have h1 := Hsxl.out P; have h2 := Hsxl.out Q; have h3 := Hsxl.out S; have h4 := xorl_len_le (sx zss P) (sx zss Q); omega)).mono ?_
      rintro e w22 ⟨zv, rfl, hO, hb⟩
      replace HR := Lib.hid (HR.out.behind (hb.mono HB.out.size))
      replace HA := Lib.hid (HA.out.behind (hb.mono HB.out.size))
      replace HZ := Lib.hid (HZ.out.next hb)
      replace HPo := Lib.hid (HPo.out.next hb)
      replace HQo := Lib.hid (HQo.out.next hb)
      replace HSo := Lib.hid (HSo.out.next hb)
      replace HLo := Lib.hid (HLo.out.next hb)
      replace HMo := Lib.hid (HMo.out.next hb)
      replace HB := Lib.hid (HB.out.trans (hb.mono HB.out.size))
      clear hb
      have HZo := Lib.hid hO
      clear hO
      clear HLo HMo
      go_wp2_with fail
      refine (impl_iz HZo.out.rd).mono ?_
      rw [HISZ.out]
      rintro e w23 ⟨rfl, hw⟩
      subst hw
      go_wp2_with fail
      refine (at_any HA.out 0 (by omega) hs).mono ?_
      rw [← HT0.out]
      rintro e w24 ⟨⟨rfl, _, _⟩, hw⟩
      subst hw
      go_wp2_with fail
      refine (impl_rs HW0.out Hzw.out).mono ?_
      rw [← HPe.out]
      rintro e w25 ⟨v9, rfl, hO, hb⟩
      replace HR := Lib.hid (HR.out.behind (hb.mono HB.out.size))
      replace HA := Lib.hid (HA.out.behind (hb.mono HB.out.size))
      replace HZ := Lib.hid (HZ.out.next hb)
      replace HPo := Lib.hid (HPo.out.next hb)
      replace HQo := Lib.hid (HQo.out.next hb)
      replace HSo := Lib.hid (HSo.out.next hb)
      replace HZo := Lib.hid (HZo.out.next hb)
      replace HB := Lib.hid (HB.out.trans (hb.mono HB.out.size))
      clear hb
      have HP2 := Lib.hid hO
      clear hO
      go_wp2_with fail
      refine (sameInts_same HP2.out.rd HPo.out.rd (Nat.le_refl _) (Nat.le_refl _)).mono ?_
      rintro e w26 ⟨rfl, hb⟩
      replace HR := Lib.hid (HR.out.behind (hb.mono HB.out.size))
      replace HA := Lib.hid (HA.out.behind (hb.mono HB.out.size))
      replace HZ := Lib.hid (HZ.out.next hb)
      replace HPo := Lib.hid (HPo.out.next hb)
      replace HQo := Lib.hid (HQo.out.next hb)
      replace HSo := Lib.hid (HSo.out.next hb)
      replace HZo := Lib.hid (HZo.out.next hb)
      replace HP2 := Lib.hid (HP2.out.next hb)
      replace HB := Lib.hid (HB.out.trans (hb.mono HB.out.size))
      clear hb
      go_wp2_with fail
      go_ret
      exact ⟨rfl, HB.out⟩

end Go.Proofs.Ytabnigjaiheepaa
