/- FnGroup: the walk. Powers are elements, exponents add up, inverses lead back, logarithms are found, hashes are elements but not 1; what is no element has the power 0 and no logarithm. Conditions: the package variable impl.unit as the rows list it. -/
import Derived.Test.YtdccljmffmlkbaaDoorGr5
import Derived.Test.YtdccljmffmlkbaaDoorBcG
import Derived.Test.YtdccljmffmlkbaaDoorDraw15
namespace Go.Proofs.YtdccljmffmlkbaaDoor
open Go Go.RowKit
set_option linter.unusedVariables false
attribute [local irreducible] kh kid pwm tcm pw chl kmap

theorem invE_bound (n : Int) : 0 ≤ invE n ∧ invE n ≤ 1018 := by
  by_cases h : n % 1019 = 0
  · rw [invE_zero h]; omega
  · obtain ⟨m, h1, h2, h3, _⟩ := invE_ok h
    rw [h3]; omega
theorem invE_is0 (n : Int) : (invE n == 0) = (n % 1019 == 0) := by
  by_cases h : n % 1019 = 0
  · rw [invE_zero h, h]
  · obtain ⟨m, h1, h2, h3, _⟩ := invE_ok h
    rw [h3, beq_eq_false_iff_ne.2 h, beq_eq_false_iff_ne.2 (by omega)]
theorem pwG_addm {g : Int} (h : isG g = true) (n m : Int) : mulG (pwG g n) (pwG g m) = pwG g (n % 1019 + m) := by
  rw [pwG_add h]
  exact pwG_congr (by omega)
theorem dlog_pw {g : Int} (h : isG g = true) (h1 : (g == 1) = false) (n : Int) : dlog g (pwG g n) = n % 1019 := by
  rw [dlog_is (dlok_y h (pwG_el h n) h1) (e := (n % 1019).toNat) (by omega) (pwG_yes h n).symm]
  omega

set_option maxHeartbeats 4000000 in
set_option maxRecDepth 20000 in
theorem fnGroup_walk (a : Option Addr) (len cap : Nat) (zs : List Int) (w : World) (hrow : IsRow .u8 w a len cap zs) (hL : laidMetH Tryd.prog Rows.fnGroupRow.laid w) :
    Calls Tryd.prog 4 #[.slice a len cap] w fun e w' => e = .returned (.bool true) ∧ Below w.heap.size w w' := by
  have HL := Lib.hid (gv_of_laid hL)
  obtain ⟨hr, hl⟩ := row_own hrow
  obtain ⟨s, A, l⟩ : ∃ s, Rd w.heap.size .u8 w (.slice a len cap) s ∧ len = s.length := ⟨zs.take len, hrow.rd, hrow.rd.len_eq⟩
  subst l
  have HA := Lib.hid A
  have HRow := Lib.hid hr
  have HLen := Lib.hid hl
  have hl' : s.length ≤ 9223372036854775807 := by unfold maxLen at hl; omega
  clear hr hrow hl A hL
  by_cases hbig : 1048576 < s.length
  · have e0 : decide ((1048576 : Int) < (s.length : Int)) = true := by simp; omega
    go_enter Tryd.func4, Tryd.ntmps4
    go_wp2_with fail
    refine (big_is a s.length cap _ hl').mono ?_
    rw [e0]
    rintro e w0 ⟨rfl, rfl⟩
    go_wp2_with fail
    go_ret
    exact ⟨rfl, Below.refl _ _⟩
  have e0 : decide ((1048576 : Int) < (s.length : Int)) = false := by simp; omega
  have HS := Lib.hid (show s.length ≤ 1048576 by omega)
  clear hbig
  go_enter Tryd.func4, Tryd.ntmps4
  go_wp2_with fail
  refine (big_is a s.length cap _ hl').mono ?_
  rw [e0]
  rintro e w0 ⟨rfl, hw⟩
  obtain rfl : w = w0 := hw.symm
  clear e0 hw
  go_wp2_with fail
  refine (draw_pg w.heap.size a s.length cap zs _ (Nat.le_refl _) HRow.out HLen.out).mono ?_
  rintro e w1 ⟨g, n, rfl, hgb, hnb, hb⟩
  have HB := Lib.hid hb
  have Wg := Lib.hid (small_wf (x := g) (by omega) (by omega))
  have Wn := Lib.hid (small_wf (x := n) (by omega) (by omega))
  replace HL := Lib.hid (HL.out.next hb)
  replace HA := Lib.hid (HA.out.behind hb)
  have HSz : Hid (w.heap.size ≤ w.heap.size) := Lib.hid (Nat.le_refl _)
  clear hb HRow
  obtain ⟨p, hp⟩ : ∃ p, p = isG g := ⟨_, rfl⟩
  have HP := Lib.hid hp
  clear hp
  go_wp2_with fail
  refine (spec_isg Wg.out).mono ?_
  rw [← HP.out]
  rintro e w2 ⟨rfl, hw⟩
  obtain rfl : w1 = w2 := hw.symm
  clear hw
  cases p with
  | false =>
    have e1 := pwG_no HP.out.symm n
    have e2 := dlok_p (x := 4) HP.out.symm
    have E1 := Lib.hid e1
    have E2 := Lib.hid e2
    clear e1 e2
    go_wp2_with fail
    refine (impl_pwg Wg.out Wn.out).mono ?_
    rw [E1.out]
    rintro e w3 ⟨rfl, hb⟩
    replace HB := Lib.hid (HB.out.trans (hb.mono HB.out.size))
    replace HL := Lib.hid (HL.out.next hb)
    clear hb
    go_wp2_with fail
    refine (impl_dl Wg.out (by decide) HL.out).mono ?_
    rw [E2.out]
    rintro e w4 ⟨rfl, hb⟩
    replace HB := Lib.hid (HB.out.trans (hb.mono HB.out.size))
    clear hb
    go_wp2_with fail
    go_ret
    exact ⟨rfl, HB.out⟩
  | true =>
    go_wp2_with fail
    refine (at_any HA.out 0 (by omega) HS.out).mono ?_
    obtain ⟨x0, hx0⟩ : ∃ x, x = atv s 0 := ⟨_, rfl⟩
    rw [← hx0]
    rintro e w3 ⟨⟨rfl, x00, x01⟩, hw⟩
    obtain rfl := hw.symm
    clear hx0 hw
    obtain ⟨m, hm⟩ : ∃ m, x0 * 5 = m := ⟨_, rfl⟩
    have hmb : 0 ≤ m ∧ m ≤ 1275 := by omega
    have Wm := Lib.hid (small_wf (x := m) (by omega) (by omega))
    have hsum := pwG_addm HP.out.symm n m
    have hlog := fun h1 => dlog_pw HP.out.symm h1 n
    have hxe := pwG_el HP.out.symm n
    have hinv := fun hn => pwG_inv (n := n) HP.out.symm hn
    have hi0 := invE_is0 n
    have hib := invE_bound n
    have Wx' := pwG_wf g n
    have Wy' := pwG_wf g m
    obtain ⟨i, hi⟩ : ∃ i, i = invE n := ⟨_, rfl⟩
    rw [← hi] at hinv hi0 hib
    have HM : Hid (modV n 1019 = n % 1019) := Lib.hid (modV_1019 n)
    obtain ⟨d, hd⟩ : ∃ d, d = n % 1019 := ⟨_, rfl⟩
    rw [← hd] at hsum hlog hinv hi0 HM
    have hdb : 0 ≤ d ∧ d ≤ 1018 := by omega
    obtain ⟨x, hx⟩ : ∃ x, x = pwG g n := ⟨_, rfl⟩
    rw [← hx] at hsum hlog hxe hinv Wx'
    obtain ⟨y, hy⟩ : ∃ y, y = pwG g m := ⟨_, rfl⟩
    rw [← hy] at hsum Wy'
    obtain ⟨q, hq⟩ : ∃ q, q = pwG g (d + m) := ⟨_, rfl⟩
    rw [← hq] at hsum
    have Wi := Lib.hid (small_wf (x := i) (by omega) (by omega))
    have Wx := Lib.hid Wx'
    have Wy := Lib.hid Wy'
    have Wd : Hid ((Lit.int .i64 (d + m)).wf = true) := Lib.hid (wf_i64_of (by omega) (by omega))
    have HSum := Lib.hid hsum
    have HLog := Lib.hid hlog
    have HXe := Lib.hid hxe
    have HInv := Lib.hid hinv
    have HX := Lib.hid hx
    have HY := Lib.hid hy
    have HI := Lib.hid hi
    have HQ := Lib.hid hq
    obtain ⟨z, hz⟩ : ∃ z, z = (d == 0) := ⟨_, rfl⟩
    have ed : (d == 0) = z := hz.symm
    have ei : (i == 0) = z := hi0.trans hz.symm
    have ezz : (z != z) = false := by cases z <;> rfl
    have hnn : -9223372036854775808 ≤ n ∧ n ≤ 9223372036854775807 := by omega
    clear hsum hlog hxe hinv hi0 hx hy hi hq hz hd Wx' Wy'
    go_wp2_with fail
    refine (impl_pwg Wg.out Wn.out).mono ?_
    rw [← HX.out]
    rintro e w4 ⟨rfl, hb⟩
    replace HA := Lib.hid (HA.out.behind (hb.mono (Nat.le_trans HSz.out HB.out.size)))
    replace HB := Lib.hid (HB.out.trans (hb.mono HB.out.size))
    replace HL := Lib.hid (HL.out.next hb)
    clear hb
    go_wp2_with fail
    refine (impl_inv Wn.out).mono ?_
    rw [← HI.out]
    rintro e w5 ⟨rfl, hw⟩
    obtain rfl := hw.symm
    go_wp2_with fail
    refine (impl_isg Wx.out).mono ?_
    rw [HXe.out]
    rintro e w6 ⟨rfl, hb⟩
    replace HA := Lib.hid (HA.out.behind (hb.mono (Nat.le_trans HSz.out HB.out.size)))
    replace HB := Lib.hid (HB.out.trans (hb.mono HB.out.size))
    replace HL := Lib.hid (HL.out.next hb)
    clear hb
    go_wp2_with fail
    refine (impl_pwg Wg.out Wm.out).mono ?_
    rw [← HY.out]
    rintro e w7 ⟨rfl, hb⟩
    replace HA := Lib.hid (HA.out.behind (hb.mono (Nat.le_trans HSz.out HB.out.size)))
    replace HB := Lib.hid (HB.out.trans (hb.mono HB.out.size))
    replace HL := Lib.hid (HL.out.next hb)
    clear hb
    go_wp2_with fail
    refine (impl_mul Wx.out Wy.out).mono ?_
    rw [HSum.out]
    rintro e w8 ⟨rfl, hb⟩
    replace HA := Lib.hid (HA.out.behind (hb.mono (Nat.le_trans HSz.out HB.out.size)))
    replace HB := Lib.hid (HB.out.trans (hb.mono HB.out.size))
    replace HL := Lib.hid (HL.out.next hb)
    clear hb
    go_wp2_with fail
    refine (spec_mod _ _ _ hnn.1 hnn.2).mono ?_
    rw [HM.out]
    rintro e w9 ⟨rfl, hw⟩
    obtain rfl := hw.symm
    go_wp2_with fail
    refine (impl_pwg Wg.out Wd.out).mono ?_
    rw [← HQ.out]
    rintro e w10 ⟨rfl, hb⟩
    replace HA := Lib.hid (HA.out.behind (hb.mono (Nat.le_trans HSz.out HB.out.size)))
    replace HB := Lib.hid (HB.out.trans (hb.mono HB.out.size))
    replace HL := Lib.hid (HL.out.next hb)
    clear hb
    have eqq : (q != q) = false := by simp
    go_wp2_with fail
    refine (spec_mod _ _ _ hnn.1 hnn.2).mono ?_
    rw [HM.out]
    rintro e w11 ⟨rfl, hw⟩
    obtain rfl := hw.symm
    cases z with
    | true =>
      have i0 : i = 0 := beq_iff_eq.1 ei
      have en : (i != 0) = false := by rw [i0]; rfl
      clear i0
      go_wp2_with fail
      refine (at_any HA.out 1 (by omega) HS.out).mono ?_
      obtain ⟨x1, hx1⟩ : ∃ x, x = atv s 1 := ⟨_, rfl⟩
      rw [← hx1]
      rintro e w12 ⟨⟨rfl, x10, x11⟩, hw⟩
      obtain rfl := hw.symm
      clear hx1 hw
      have Wx1 := Lib.hid (small_wf (x := x1) (by omega) (by omega))
      have hh := hgr_ok x1 m
      have hhb := el_bound hh.1
      obtain ⟨h, hhe⟩ : ∃ h, h = hgr x1 m := ⟨_, rfl⟩
      rw [← hhe] at hh hhb
      have Wh := Lib.hid (small_wf (x := h) (by omega) (by omega))
      have HHe := Lib.hid hhe
      have HHg := Lib.hid hh.1
      have e9 : (h != 1) = true := by simpa using hh.2
      clear hhe hh x10 x11
      go_wp2_with fail
      refine (impl_hgr Wx1.out Wm.out).mono ?_
      rw [← HHe.out]
      rintro e w13 ⟨rfl, hb⟩
      replace HA := Lib.hid (HA.out.behind (hb.mono (Nat.le_trans HSz.out HB.out.size)))
      replace HB := Lib.hid (HB.out.trans (hb.mono HB.out.size))
      replace HL := Lib.hid (HL.out.next hb)
      clear hb
      cases h1 : (g == 1) with
      | true =>
        go_wp2_with fail
        refine (impl_isg Wh.out).mono ?_
        rw [HHg.out]
        rintro e w14 ⟨rfl, hb⟩
        replace HA := Lib.hid (HA.out.behind (hb.mono (Nat.le_trans HSz.out HB.out.size)))
        replace HB := Lib.hid (HB.out.trans (hb.mono HB.out.size))
        replace HL := Lib.hid (HL.out.next hb)
        clear hb
        go_wp2_with fail
        go_ret
        exact ⟨rfl, HB.out⟩
      | false =>
        go_wp2_with fail
        refine (impl_dl Wg.out Wx.out HL.out).mono ?_
        rw [HLog.out h1]
        rintro e w14 ⟨rfl, hb⟩
        replace HA := Lib.hid (HA.out.behind (hb.mono (Nat.le_trans HSz.out HB.out.size)))
        replace HB := Lib.hid (HB.out.trans (hb.mono HB.out.size))
        replace HL := Lib.hid (HL.out.next hb)
        clear hb
        go_wp2_with fail
        refine (spec_mod _ _ _ hnn.1 hnn.2).mono ?_
        rw [HM.out]
        rintro e w15 ⟨rfl, hw⟩
        obtain rfl := hw.symm
        go_wp2_with fail
        refine (impl_isg Wh.out).mono ?_
        rw [HHg.out]
        rintro e w16 ⟨rfl, hb⟩
        replace HA := Lib.hid (HA.out.behind (hb.mono (Nat.le_trans HSz.out HB.out.size)))
        replace HB := Lib.hid (HB.out.trans (hb.mono HB.out.size))
        replace HL := Lib.hid (HL.out.next hb)
        clear hb
        have edd : (d == d) = true := by simp
        go_wp2_with fail
        go_ret
        exact ⟨rfl, HB.out⟩
    | false =>
      have HIg : Hid (pwG x i = g) := Lib.hid (HInv.out (by simpa using ed))
      have en : (i != 0) = true := by have := beq_eq_false_iff_ne.1 ei; simp [this]
      have egg : (g != g) = false := by simp
      go_wp2_with fail
      refine (impl_pwg Wx.out Wi.out).mono ?_
      rw [HIg.out]
      rintro e w12 ⟨rfl, hb⟩
      replace HA := Lib.hid (HA.out.behind (hb.mono (Nat.le_trans HSz.out HB.out.size)))
      replace HB := Lib.hid (HB.out.trans (hb.mono HB.out.size))
      replace HL := Lib.hid (HL.out.next hb)
      clear hb
      go_wp2_with fail
      refine (at_any HA.out 1 (by omega) HS.out).mono ?_
      obtain ⟨x1, hx1⟩ : ∃ x, x = atv s 1 := ⟨_, rfl⟩
      rw [← hx1]
      rintro e w13 ⟨⟨rfl, x10, x11⟩, hw⟩
      obtain rfl := hw.symm
      clear hx1 hw
      have Wx1 := Lib.hid (small_wf (x := x1) (by omega) (by omega))
      have hh := hgr_ok x1 m
      have hhb := el_bound hh.1
      obtain ⟨h, hhe⟩ : ∃ h, h = hgr x1 m := ⟨_, rfl⟩
      rw [← hhe] at hh hhb
      have Wh := Lib.hid (small_wf (x := h) (by omega) (by omega))
      have HHe := Lib.hid hhe
      have HHg := Lib.hid hh.1
      have e9 : (h != 1) = true := by simpa using hh.2
      clear hhe hh x10 x11
      go_wp2_with fail
      refine (impl_hgr Wx1.out Wm.out).mono ?_
      rw [← HHe.out]
      rintro e w14 ⟨rfl, hb⟩
      replace HA := Lib.hid (HA.out.behind (hb.mono (Nat.le_trans HSz.out HB.out.size)))
      replace HB := Lib.hid (HB.out.trans (hb.mono HB.out.size))
      replace HL := Lib.hid (HL.out.next hb)
      clear hb
      cases h1 : (g == 1) with
      | true =>
        go_wp2_with fail
        refine (impl_isg Wh.out).mono ?_
        rw [HHg.out]
        rintro e w15 ⟨rfl, hb⟩
        replace HA := Lib.hid (HA.out.behind (hb.mono (Nat.le_trans HSz.out HB.out.size)))
        replace HB := Lib.hid (HB.out.trans (hb.mono HB.out.size))
        replace HL := Lib.hid (HL.out.next hb)
        clear hb
        go_wp2_with fail
        go_ret
        exact ⟨rfl, HB.out⟩
      | false =>
        go_wp2_with fail
        refine (impl_dl Wg.out Wx.out HL.out).mono ?_
        rw [HLog.out h1]
        rintro e w15 ⟨rfl, hb⟩
        replace HA := Lib.hid (HA.out.behind (hb.mono (Nat.le_trans HSz.out HB.out.size)))
        replace HB := Lib.hid (HB.out.trans (hb.mono HB.out.size))
        replace HL := Lib.hid (HL.out.next hb)
        clear hb
        go_wp2_with fail
        refine (spec_mod _ _ _ hnn.1 hnn.2).mono ?_
        rw [HM.out]
        rintro e w16 ⟨rfl, hw⟩
        obtain rfl := hw.symm
        go_wp2_with fail
        refine (impl_isg Wh.out).mono ?_
        rw [HHg.out]
        rintro e w17 ⟨rfl, hb⟩
        replace HA := Lib.hid (HA.out.behind (hb.mono (Nat.le_trans HSz.out HB.out.size)))
        replace HB := Lib.hid (HB.out.trans (hb.mono HB.out.size))
        replace HL := Lib.hid (HL.out.next hb)
        clear hb
        have edd : (d == d) = true := by simp
        go_wp2_with fail
        go_ret
        exact ⟨rfl, HB.out⟩

end Go.Proofs.YtdccljmffmlkbaaDoor
