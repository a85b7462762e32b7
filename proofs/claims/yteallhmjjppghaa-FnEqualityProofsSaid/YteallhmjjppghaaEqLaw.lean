/- FnEqualityProofs: the walk. A proof that was made is accepted; whatever is drawn is accepted by the program as by the document; a response below nought is not. No conditions. -/
import Derived.Test.YteallhmjjppghaaGr4
import Derived.Test.YteallhmjjppghaaDraw15
namespace Go.Proofs.Yteallhmjjppghaa
open Go Go.RowKit
set_option linter.unusedVariables false
attribute [local irreducible] kh kid pwm tcm pw chl

set_option maxHeartbeats 4000000 in
set_option maxRecDepth 20000 in
theorem fnEqualityProofs_walk (a : Option Addr) (len cap : Nat) (zs : List Int) (w : World) (hrow : IsRow .u8 w a len cap zs) :
    Calls Try.prog 3 #[.slice a len cap] w fun e w' => e = .returned (.bool true) ∧ Below w.heap.size w w' := by
  obtain ⟨hr, hl⟩ := row_own hrow
  obtain ⟨s, A, l⟩ : ∃ s, Rd w.heap.size .u8 w (.slice a len cap) s ∧ len = s.length := ⟨zs.take len, hrow.rd, hrow.rd.len_eq⟩
  subst l
  have HA := Lib.hid A
  have HRow := Lib.hid hr
  have HLen := Lib.hid hl
  have hl' : s.length ≤ 9223372036854775807 := by unfold maxLen at hl; omega
  have HB := Lib.hid (Below.refl w.heap.size w)
  clear hr hrow hl A
  by_cases hbig : 1048576 < s.length
  · have e0 : decide ((1048576 : Int) < (s.length : Int)) = true := by simp; omega
    go_enter Try.func3, Try.ntmps3
    go_wp2_with fail
    refine (big_is a s.length cap _ hl').mono ?_
    rw [e0]
    rintro e w0 ⟨rfl, rfl⟩
    go_wp2_with fail
    go_ret
    exact ⟨rfl, Below.refl _ _⟩
  have e0 : decide ((1048576 : Int) < (s.length : Int)) = false := by simp; omega
  have HS := Lib.hid (show s.length ≤ 1048576 by omega)
  clear hbig
  go_enter Try.func3, Try.ntmps3
  go_wp2_with fail
  refine (big_is a s.length cap _ hl').mono ?_
  rw [e0]
  rintro e w0 ⟨rfl, hw⟩
  obtain rfl : w = w0 := hw.symm
  clear e0 hw
  go_wp2_with fail
  refine (at_any HA.out 0 (by omega) HS.out).mono ?_
  obtain ⟨x0, hx0⟩ : ∃ x, x = atv s 0 := ⟨_, rfl⟩
  rw [← hx0]
  rintro e w1 ⟨⟨rfl, x00, x01⟩, hw⟩
  obtain rfl : w = w1 := hw.symm
  clear hx0 hw
  go_wp2_with fail
  refine (spec_pwg (by decide) (wf_i64_of (by omega) (by omega))).mono ?_
  have hg := pwG_el isG_four (1 + x0)
  obtain ⟨g, ge⟩ : ∃ x, x = pwG 4 (1 + x0) := ⟨_, rfl⟩
  rw [← ge] at hg ⊢
  rintro e w1 ⟨rfl, hw⟩
  obtain rfl : w = w1 := hw.symm
  have Wg : Hid ((Lit.int .i64 g).wf = true) := Lib.hid (by have := el_bound hg; exact small_wf (by omega) (by omega))
  have Eg := Lib.hid hg
  clear ge hg hw x00 x01
  go_wp2_with fail
  refine (at_any HA.out 1 (by omega) HS.out).mono ?_
  obtain ⟨x1, hx1⟩ : ∃ x, x = atv s 1 := ⟨_, rfl⟩
  rw [← hx1]
  rintro e w1 ⟨⟨rfl, x10, x11⟩, hw⟩
  obtain rfl : w = w1 := hw.symm
  clear hx1 hw
  go_wp2_with fail
  refine (spec_pwg (by decide) (wf_i64_of (by omega) (by omega))).mono ?_
  have hh := pwG_el isG_four (300 + x1)
  obtain ⟨h, he⟩ : ∃ x, x = pwG 4 (300 + x1) := ⟨_, rfl⟩
  rw [← he] at hh ⊢
  rintro e w1 ⟨rfl, hw⟩
  obtain rfl : w = w1 := hw.symm
  have Wh : Hid ((Lit.int .i64 h).wf = true) := Lib.hid (by have := el_bound hh; exact small_wf (by omega) (by omega))
  have Eh := Lib.hid hh
  clear he hh hw x10 x11
  go_wp2_with fail
  refine (at_any HA.out 2 (by omega) HS.out).mono ?_
  obtain ⟨x2, hx2⟩ : ∃ x, x = atv s 2 := ⟨_, rfl⟩
  rw [← hx2]
  rintro e w1 ⟨⟨rfl, x20, x21⟩, hw⟩
  obtain rfl : w = w1 := hw.symm
  clear hx2 hw
  obtain ⟨k, hk⟩ : ∃ k, x2 * 3 = k := ⟨_, rfl⟩
  have hkb : 0 ≤ k ∧ k ≤ 765 := by omega
  have Wk := Lib.hid (small_wf (x := k) (by omega) (by omega))
  go_wp2_with fail
  refine (at_any HA.out 3 (by omega) HS.out).mono ?_
  obtain ⟨x3, hx3⟩ : ∃ x, x = atv s 3 := ⟨_, rfl⟩
  rw [← hx3]
  rintro e w1 ⟨⟨rfl, x30, x31⟩, hw⟩
  obtain rfl : w = w1 := hw.symm
  clear hx3 hw
  obtain ⟨t, ht⟩ : ∃ t, x3 * 2 = t := ⟨_, rfl⟩
  have htb : 0 ≤ t ∧ t ≤ 510 := by omega
  have Wt := Lib.hid (small_wf (x := t) (by omega) (by omega))
  go_wp2_with fail
  refine (impl_pr Wg.out Wh.out Wk.out Wt.out).mono ?_
  have hok := pr_ok (s := k) (t := t) Eg.out Eh.out (by omega) (by omega)
  have hcb := prC_bound g h k t
  have hrb := prR_bound g h k t
  obtain ⟨c, hc⟩ : ∃ c, c = prC g h k t := ⟨_, rfl⟩
  obtain ⟨r, hr⟩ : ∃ r, r = prR g h k t := ⟨_, rfl⟩
  rw [← hc] at hcb hok ⊢
  rw [← hr] at hrb hok ⊢
  have Wc := Lib.hid (small_wf (x := c) (by omega) (by omega))
  have Wr := Lib.hid (small_wf (x := r) (by omega) (by omega))
  have HOk := Lib.hid hok
  clear hc hr hcb hrb hok
  rintro e w1 ⟨rfl, hb⟩
  replace HB := Lib.hid hb
  clear hb
  clear hk ht hkb htb x20 x21 x30 x31
  go_wp2_with fail
  refine (spec_pwg Wg.out Wk.out).mono ?_
  have wu := pwG_wf g k
  replace HOk := HOk.out
  obtain ⟨u, ue⟩ : ∃ x, x = pwG g k := ⟨_, rfl⟩
  rw [← ue] at wu HOk ⊢
  replace HOk := Lib.hid HOk
  have Wu := Lib.hid wu
  clear ue wu
  rintro e w2 ⟨rfl, hw⟩
  obtain rfl : w1 = w2 := hw.symm
  clear hw
  go_wp2_with fail
  refine (spec_pwg Wh.out Wk.out).mono ?_
  have wv := pwG_wf h k
  replace HOk := HOk.out
  obtain ⟨v, ve⟩ : ∃ x, x = pwG h k := ⟨_, rfl⟩
  rw [← ve] at wv HOk ⊢
  replace HOk := Lib.hid HOk
  have Wv := Lib.hid wv
  clear ve wv
  rintro e w2 ⟨rfl, hw⟩
  obtain rfl : w1 = w2 := hw.symm
  clear hw
  go_wp2_with fail
  refine (draw_vf w.heap.size a s.length cap zs _ HB.out.size (HRow.out.behind HB.out) HLen.out).mono ?_
  rintro e w2 ⟨g', h', u', v', c', r', rfl, ⟨q1, q2, q3, q4, q5, q6⟩, hb⟩
  have Q1 := Lib.hid q1
  have Q2 := Lib.hid q2
  have Q3 := Lib.hid q3
  have Q4 := Lib.hid q4
  have Q5 := Lib.hid q5
  have Q6 := Lib.hid q6
  replace HB := Lib.hid (HB.out.trans (hb.mono HB.out.size))
  clear q1 q2 q3 q4 q5 q6 hb HA HRow
  go_wp2_with fail
  refine (impl_vf Wg.out Wh.out Wu.out Wv.out Wc.out Wr.out).mono ?_
  rw [HOk.out]
  rintro e w3 ⟨rfl, hb⟩
  replace HB := Lib.hid (HB.out.trans (hb.mono HB.out.size))
  clear hb
  obtain ⟨z, hz⟩ : ∃ z, z = vrf g' h' u' v' c' r' := ⟨_, rfl⟩
  have HZ := Lib.hid hz
  clear hz
  go_wp2_with fail
  refine (impl_vf Q1.out Q2.out Q3.out Q4.out Q5.out Q6.out).mono ?_
  rw [← HZ.out]
  rintro e w4 ⟨rfl, hb⟩
  replace HB := Lib.hid (HB.out.trans (hb.mono HB.out.size))
  clear hb
  go_wp2_with fail
  refine (spec_vf Q1.out Q2.out Q3.out Q4.out Q5.out Q6.out).mono ?_
  rw [← HZ.out]
  rintro e w5 ⟨rfl, hb⟩
  replace HB := Lib.hid (HB.out.trans (hb.mono HB.out.size))
  have ez : (z == z) = true := by cases z <;> rfl
  clear hb
  go_wp2_with fail
  refine (impl_vf Wg.out Wh.out Wu.out Wv.out Wc.out (by decide)).mono ?_
  rw [vrf_r (r := -1) (by decide)]
  rintro e w6 ⟨rfl, hb⟩
  replace HB := Lib.hid (HB.out.trans (hb.mono HB.out.size))
  clear hb
  go_wp2_with fail
  go_ret
  exact ⟨rfl, HB.out⟩

end Go.Proofs.Yteallhmjjppghaa
