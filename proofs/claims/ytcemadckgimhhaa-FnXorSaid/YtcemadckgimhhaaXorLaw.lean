/- FnXor: the walk. No conditions. -/
import Derived.Test.YtcemadckgimhhaaDrawX
import Derived.Test.YtcemadckgimhhaaLawBase
import Derived.Test.YtcemadckgimhhaaSameByte
import Derived.Test.YtcemadckgimhhaaMax
import Derived.Test.YtcemadckgimhhaaPad
import Derived.Test.YtcemadckgimhhaaJoin
import Derived.Test.YtcemadckgimhhaaSplit2
import Derived.Test.YtcemadckgimhhaaIval
import Derived.Test.YtcemadckgimhhaaOwnV
namespace Go.Proofs.Ytcemadckgimhhaa
open Go Go.RowKit
set_option linter.unusedVariables false

theorem xorl_back {xs ys : List Int} (hx : U8s xs) (hy : U8s ys) : (xorl (xorl xs ys) ys).length = (xorl xs ys).length ∧ (xorl (xorl xs ys) ys).take xs.length = xs ∧ isz ((xorl (xorl xs ys) ys).drop xs.length) = true := by
  have hl : (xorl (xorl xs ys) ys).length = (xorl xs ys).length := by rw [xorl_len, xorl_len]; omega
  have hg : ∀ i, (xorl (xorl xs ys) ys).getD i 0 = xs.getD i 0 := fun i => by rw [xorl_getD, xorl_getD, bx_bx (hx.get i).1]
  refine ⟨hl, list_eq ?_ fun i hi => ?_, decide_eq_true fun i hi => ?_⟩
  · rw [List.length_take, hl, xorl_len]; omega
  · rw [List.length_take] at hi
    have := hg i
    rw [List.getD_eq_getElem?_getD, List.getElem?_take_of_lt (by omega)]
    rw [List.getD_eq_getElem?_getD] at this
    exact this
  · have := hg (xs.length + i)
    rw [List.getD_eq_getElem?_getD, List.getElem?_drop]
    rw [List.getD_eq_getElem?_getD] at this
    rw [this, getD_out (by omega)]
theorem xorl_self (xs : List Int) : isz (xorl xs xs) = true := decide_eq_true fun i hi => by rw [xorl_getD, bx_self]
theorem pcs_flat (xs : List Int) (n : Nat) : ∀ j, (pcs xs n j).flatten = xs.take (j * n)
  | 0 => by simp [pcs]
  | j + 1 => by
    rw [← pcs_succ, List.flatten_append, pcs_flat xs n j]
    simp only [List.flatten_cons, List.flatten_nil, List.append_nil]
    rw [Nat.succ_mul, List.take_add]
theorem sb_flat {xs : List Int} {n : Nat} (hn : 1 ≤ n ∧ n ≤ 400) : (sb xs (n : Int)).flatten = xs := by
  unfold sb
  rw [if_pos (by omega), Int.toNat_natCast, pcs_flat, List.take_of_length_le]
  have h1 := Nat.div_add_mod (xs.length + n - 1) n
  have h2 := Nat.mod_lt (xs.length + n - 1) (show 0 < n by omega)
  rw [Nat.mul_comm]
  generalize n * ((xs.length + n - 1) / n) = q at h1 ⊢
  omega
theorem sb_len {xs : List Int} (n : Int) : (sb xs n).length ≤ xs.length := by
  unfold sb
  split
  · rename_i h
    rw [pcs_len]
    obtain ⟨m, rfl⟩ : ∃ m : Nat, n = (m : Int) := ⟨n.toNat, by omega⟩
    rw [Int.toNat_natCast]
    by_cases h0 : xs.length = 0
    · rw [Nat.div_eq_of_lt (by omega)]; omega
    · refine Nat.div_le_of_le_mul ?_
      have : xs.length + m ≤ m * xs.length + 1 := by
        obtain ⟨p, hp⟩ : ∃ p, m = p + 1 := ⟨m - 1, by omega⟩
        obtain ⟨q, hq⟩ : ∃ q, xs.length = q + 1 := ⟨xs.length - 1, by omega⟩
        rw [hp, hq, Nat.succ_mul, Nat.mul_succ]
        have := Nat.zero_le (p * q)
        omega
      omega
  · simp
theorem mx_nat (a b : Nat) : mx (a : Int) (b : Int) = ((max a b : Nat) : Int) := by unfold mx; split <;> omega

set_option maxHeartbeats 4000000 in
set_option maxRecDepth 20000 in
theorem xor_walk (a : Option Addr) (len cap : Nat) (zs : List Int) (w : World) (hrow : IsRow .u8 w a len cap zs) :
    Calls Try.prog 3 #[.slice a len cap] w fun e w' => e = .returned (.bool true) ∧ Below w.heap.size w w' := by
  obtain ⟨hr, hl⟩ := row_own hrow
  obtain ⟨s, A, l⟩ : ∃ s, Rd w.heap.size .u8 w (.slice a len cap) s ∧ len = s.length := ⟨zs.take len, hrow.rd, hrow.rd.len_eq⟩
  subst l
  have HR := Lib.hid hr
  have HL := Lib.hid hl
  have hl' : s.length ≤ 9223372036854775807 := by unfold maxLen at hl; omega
  clear hr hrow hl A
  by_cases hbig : 1048576 < s.length
  · have e0 : decide ((1048576 : Int) < (s.length : Int)) = true := by simp; omega
    go_enter Try.func3, Try.ntmps3
    go_wp2_with fail
    refine (big_is a s.length cap _ hl').mono ?_
    rw [e0]
    rintro e w0 ⟨rfl, rfl⟩
    go_wp2_with fail
    go_ret
    exact ⟨rfl, Below.refl _ _⟩
  have e0 : decide ((1048576 : Int) < (s.length : Int)) = false := by simp; omega
  have hs : s.length ≤ 1048576 := by omega
  clear hbig
  obtain ⟨i0, hi, hz0, hz1, hz2⟩ := info_parts infou8
  obtain ⟨i1, hi', hy0, hy1, hy2⟩ := info_parts infou8s
  have Hhi := Lib.hid hi
  have Hhi' := Lib.hid hi'
  clear hi hi'
  go_enter Try.func3, Try.ntmps3
  go_wp2_with fail
  refine (big_is a s.length cap _ hl').mono ?_
  rw [e0]
  rintro e w0 ⟨rfl, hw0⟩
  obtain rfl : w = w0 := hw0.symm
  clear hw0
  go_wp2_with fail
  refine (draw_xb w.heap.size a s.length cap zs _ (Nat.le_refl _) HR.out HL.out).mono ?_
  rintro e w1 ⟨v, u, xs, ys, rfl, hO, hU, hxl, hyl, hb⟩
  have HX := Lib.hid hO.u8s
  have HY := Lib.hid hU.u8s
  have HO := Lib.hid hO
  have HU := Lib.hid hU
  have HB := Lib.hid hb
  obtain ⟨b1, b2, b3⟩ := xorl_back HX.out HY.out
  have B1 := Lib.hid b1
  have B2 := Lib.hid b2
  have B3 := Lib.hid b3
  have C1 := Lib.hid (xorl_comm ys xs)
  have C2 := Lib.hid (xorl_self xs)
  obtain ⟨av, cv, rfl, _⟩ := HO.out.open
  obtain ⟨au, cu, rfl, _⟩ := HU.out.open
  clear hO hU hb b1 b2 b3
  obtain ⟨X, hX⟩ : ∃ X, X = xorl xs ys := ⟨_, rfl⟩
  rw [← hX] at B1 B2 B3 C1
  have hXL : X.length = max xs.length ys.length := by rw [hX, xorl_len]
  have hXn : X.length ≤ 6 := by omega
  have HXe := Lib.hid hX
  have M1 : Hid (mx (xs.length : Int) (ys.length : Int) = (X.length : Int)) := Lib.hid (by rw [mx_nat, hXL])
  clear hX hXL
  -- x
  go_wp2_with fail
  refine (impl_xb HO.out.rd HU.out.rd (Nat.le_refl _) (Nat.le_refl _) (by omega)).mono ?_
  rw [← HXe.out]
  rintro e w2 ⟨x, rfl, h, hb⟩
  have HXO := Lib.hid h
  replace HO := Lib.hid (HO.out.next hb)
  replace HU := Lib.hid (HU.out.next hb)
  replace HB := Lib.hid (HB.out.trans (hb.mono HB.out.size))
  obtain ⟨ax, cx, rfl, _⟩ := HXO.out.open
  clear h hb
  -- back
  go_wp2_with fail
  refine (impl_xb HXO.out.rd HU.out.rd (Nat.le_refl _) (Nat.le_refl _) (by omega)).mono ?_
  rintro e w3 ⟨bk, rfl, h, hb⟩
  obtain ⟨K, hK⟩ : ∃ K, K = xorl X ys := ⟨_, rfl⟩
  rw [← hK] at h B1 B2 B3
  have HK := Lib.hid h

  replace HO := Lib.hid (HO.out.next hb)
  replace HU := Lib.hid (HU.out.next hb)
  replace HXO := Lib.hid (HXO.out.next hb)
  replace HB := Lib.hid (HB.out.trans (hb.mono HB.out.size))
  obtain ⟨ab, cb, rfl, _⟩ := HK.out.open
  clear h hb hK
  have E1 : Hid (((K.length : Int) != (X.length : Int)) = false) := Lib.hid (by rw [B1.out]; simp)
  have hxK : xs.length ≤ K.length := by have := congrArg List.length B2.out; rw [List.length_take] at this; omega
  -- the lengths
  go_wp2_with fail
  refine (spec_max _ _ _).mono ?_
  rw [M1.out]
  rintro e w4 ⟨rfl, hw4⟩
  obtain rfl : w3 = w4 := hw4.symm
  clear hw4
  have e1 := E1.out
  have e2 : ((X.length : Int) != (X.length : Int)) = false := by simp
  -- back[:len(a)]
  go_wp2_with (first | (refine slice_rd_hg _ _ _ _ i0 Try.underlying22 Hhi.out hz1 rfl HK.out.rd (by rfl) _ rfl rfl hxK ?_))
  intro u1 h1
  rw [B2.out] at h1
  have HK1 := Lib.hid h1
  clear h1
  go_wp2_with fail
  refine (sameBytes_same HK1.out HO.out.rd (Nat.le_refl _) (Nat.le_refl _)).mono ?_
  rintro e w5 ⟨rfl, hb⟩
  replace HO := Lib.hid (HO.out.next hb)
  replace HU := Lib.hid (HU.out.next hb)
  replace HXO := Lib.hid (HXO.out.next hb)
  replace HK := Lib.hid (HK.out.next hb)
  replace HB := Lib.hid (HB.out.trans (hb.mono HB.out.size))
  clear hb
  clear HK1
  -- back[len(a):]
  go_wp2_with (first | (refine slice_rd_lg _ _ _ _ i0 Try.underlying22 Hhi.out hz1 rfl HK.out.rd (by rfl) _ rfl rfl hxK ?_))
  intro u2 h2
  have HK2 := Lib.hid h2
  clear h2
  go_wp2_with fail
  refine (impl_iz HK2.out).mono ?_
  rw [B3.out]
  rintro e w6 ⟨rfl, hw6⟩
  obtain rfl : w5 = w6 := hw6.symm
  clear hw6 HK2 HK B1 B2 B3
  -- b and a
  go_wp2_with fail
  refine (impl_xb HU.out.rd HO.out.rd (Nat.le_refl _) (Nat.le_refl _) (by omega)).mono ?_
  rw [C1.out]
  rintro e w7 ⟨y7, rfl, h7, hb⟩
  replace HO := Lib.hid (HO.out.next hb)
  replace HU := Lib.hid (HU.out.next hb)
  replace HXO := Lib.hid (HXO.out.next hb)
  replace HB := Lib.hid (HB.out.trans (hb.mono HB.out.size))
  clear hb
  have H7 := Lib.hid h7
  clear h7
  go_wp2_with fail
  refine (sameBytes_same HXO.out.rd H7.out.rd (Nat.le_refl _) (Nat.le_refl _)).mono ?_
  rintro e w8 ⟨rfl, hb⟩
  replace HO := Lib.hid (HO.out.next hb)
  replace HU := Lib.hid (HU.out.next hb)
  replace HB := Lib.hid (HB.out.trans (hb.mono HB.out.size))
  clear hb
  clear H7 HXO HU HY HXe C1
  -- a and a
  go_wp2_with fail
  refine (impl_xb HO.out.rd HO.out.rd (Nat.le_refl _) (Nat.le_refl _) (by omega)).mono ?_
  rintro e w9 ⟨y9, rfl, h9, hb⟩
  replace HO := Lib.hid (HO.out.next hb)
  replace HB := Lib.hid (HB.out.trans (hb.mono HB.out.size))
  clear hb
  have H9 := Lib.hid h9
  clear h9
  go_wp2_with fail
  refine (impl_iz H9.out.rd).mono ?_
  rw [C2.out]
  rintro e w10 ⟨rfl, hw10⟩
  obtain rfl : w9 = w10 := hw10.symm
  clear hw10 H9 C2
  -- the list
  go_wp2_with fail
  refine (draw_xa w.heap.size a s.length cap zs _ HB.out.size (HR.out.behind HB.out) HL.out).mono ?_
  rintro e w11 ⟨lv, zss, rfl, hLs, n1, n2, hb⟩
  replace HO := Lib.hid (HO.out.next hb)
  replace HB := Lib.hid (HB.out.trans (hb.mono HB.out.size))
  clear hb
  have HLs := Lib.hid hLs
  obtain ⟨al, cl, rfl, _⟩ := hLs.open
  clear hLs
  -- the bytes to split
  go_wp2_with fail
  refine (draw_sp w.heap.size a s.length cap zs _ HB.out.size (HR.out.behind HB.out) HL.out).mono ?_
  rintro e w12 ⟨dv, ds, n, rfl, hD, hdl, hnb, hb⟩
  replace HO := Lib.hid (HO.out.next hb)
  replace HLs := Lib.hid (HLs.out.next hb)
  replace HB := Lib.hid (HB.out.trans (hb.mono HB.out.size))
  clear hb
  have HD := Lib.hid hD
  obtain ⟨ad, cd, rfl, _⟩ := hD.open
  clear hD
  go_wp2_with fail
  refine (impl_sb HD.out.rd (Nat.le_refl _) (wf_i64_of (by omega) (by omega)) (by omega)).mono ?_
  rintro e w13 ⟨pv, rfl, hP, hb⟩
  replace HO := Lib.hid (HO.out.next hb)
  replace HLs := Lib.hid (HLs.out.next hb)
  replace HD := Lib.hid (HD.out.next hb)
  replace HB := Lib.hid (HB.out.trans (hb.mono HB.out.size))
  clear hb
  have HP := Lib.hid hP
  obtain ⟨ap, cp, rfl, _⟩ := hP.open
  clear hP
  have hfl : fl zss ≤ 20 := by omega
  have S1 := sb_len (xs := ds) n
  have S2 := sb_fl ds n
  have htot : tot (sb ds n) ≤ 22 := by unfold tot; omega
  have htl : tot zss ≤ 24 := by unfold tot; omega
  obtain ⟨q, hq⟩ : ∃ q, q = (sb ds n).length := ⟨_, rfl⟩
  rw [← hq]
  have Hqq := Lib.hid hq
  clear S1 S2 hq
  have hcase : (1 ≤ n ∧ n ≤ 400) ∨ ¬ (1 ≤ n) ∨ (1 ≤ n ∧ ¬ n ≤ 400) := by omega
  rcases hcase with hin | hin | ⟨hin1, hin⟩
  case' inl =>
    have e3 : decide (1 ≤ n) = true := decide_eq_true hin.1
    have e4 : decide (n ≤ 400) = true := decide_eq_true hin.2
    have F1 : Hid ((sb ds n).flatten = ds) := Lib.hid (by
      obtain ⟨m, rfl⟩ : ∃ m : Nat, n = (m : Int) := ⟨n.toNat, by omega⟩
      exact sb_flat (by omega))
    go_wp2_with fail
    rw [Hqq.out]
    refine (impl_jb HP.out.rd2 (Nat.le_refl _) (by omega)).mono ?_
    rw [F1.out]
    rintro e w14 ⟨jv, rfl, h14, hb⟩
    replace HO := Lib.hid (HO.out.next hb)
    replace HLs := Lib.hid (HLs.out.next hb)
    replace HD := Lib.hid (HD.out.next hb)
    replace HB := Lib.hid (HB.out.trans (hb.mono HB.out.size))
    clear hb
    have H14 := Lib.hid h14
    clear h14
    go_wp2_with fail
    refine (sameBytes_same H14.out.rd HD.out.rd (Nat.le_refl _) (Nat.le_refl _)).mono ?_
    rintro e w15 ⟨rfl, hb⟩
    replace HO := Lib.hid (HO.out.next hb)
    replace HLs := Lib.hid (HLs.out.next hb)
    replace HB := Lib.hid (HB.out.trans (hb.mono HB.out.size))
    clear hb
    clear H14 HD HP F1 e3 e4 hin Hqq
  case' inr.inl =>
    have e3 : decide (1 ≤ n) = false := decide_eq_false hin
    clear HD HP Hqq
  case' inr.inr =>
    have e3 : decide (1 ≤ n) = true := decide_eq_true hin1
    have e4 : decide (n ≤ 400) = false := decide_eq_false hin
    clear HD HP Hqq
  all_goals
    obtain ⟨us, u1, u2, u3⟩ := HLs.out.rd2
    have U1 := Lib.hid u1
    have U2 := Lib.hid u2
    have U3 := Lib.hid u3
    have HOr := Lib.hid HO.out.rd
    have HBn := Lib.hid HB.out.size
    clear u1 u2 u3
    go_wp2_with (first
      | (at_builtin; refine append_vals _ rfl _ _ 29 rfl 22 i1 24 Try.underlying29 Hhi'.out hy0 hy1 hy2 (by omega) rfl (OwnV.lit 22 (Nat.le_refl _)) rfl (U2.out.behind ((Below.refl _ _).alloc (Nat.le_refl _) _)) (U3o U1.out U3.out) (by have := U1.out; simp; omega) ?_
         intro v16 w16 h16 g16
         have H16 := Lib.hid (h16.alloc (.cells #[.slice av xs.length cv] 22))
         have hb16 := Lib.hid ((((Below.refl _ _).alloc (Nat.le_refl _) (.cells #[] 22)).trans ((OwnV.lit 22 (Nat.le_refl _)).below (Nat.le_refl _) g16)))
         clear h16 g16)
      | (at_builtin; refine append_vals _ rfl _ _ 29 rfl 22 i1 24 Try.underlying29 Hhi'.out hy0 hy1 hy2 (by omega) rfl H16.out rfl (RdV.one _ _ _) (by intro y hy; simp at hy; subst hy; rfl) (by have := U1.out; simp; omega) ?_
         intro v17 w17 h17 g17
         have H17 := Lib.hid h17
         have hb17 := Lib.hid (hb16.out.trans (((Below.refl _ w16).alloc hb16.out.size (.cells #[.slice av xs.length cv] 22)).trans (H16.out.below (Nat.le_refl _) g17)))
         clear h17 g17))
    have HR17 := Lib.hid (show Rd2 w17.heap.size .u8 w17 v17 (zss ++ [xs]) by
      have h := H17.out
      rw [List.nil_append] at h
      exact h.rd2_snoc U1.out U3.out HOr.out hb17.out hb17.out.size)
    have ht17 : tot (zss ++ [xs]) ≤ 31 := by
      unfold tot at htl ⊢
      rw [fl_append, fl_cons, fl_nil, List.length_append]
      simp only [List.length_cons, List.length_nil]
      omega
    have hb := hb17.out
    replace HO := Lib.hid (HO.out.next hb)
    replace HLs := Lib.hid (HLs.out.next hb)
    replace HB := Lib.hid (HB.out.trans (hb.mono HB.out.size))
    clear hb
    clear H16 H17 hb16 hb17 U1 U2 U3 HOr HBn
    refine (impl_xa HR17.out (Nat.le_refl _) (by omega)).mono ?_
    rw [xorAll_snoc]
    rintro e w18 ⟨x18, rfl, h18, hb⟩
    replace HO := Lib.hid (HO.out.next hb)
    replace HLs := Lib.hid (HLs.out.next hb)
    replace HB := Lib.hid (HB.out.trans (hb.mono HB.out.size))
    clear hb
    have H18 := Lib.hid h18
    clear h18 HR17
    go_wp2_with fail
    refine (impl_xa HLs.out.rd2 (Nat.le_refl _) (by omega)).mono ?_
    rintro e w19 ⟨x19, rfl, h19, hb⟩
    replace HO := Lib.hid (HO.out.next hb)
    replace HLs := Lib.hid (HLs.out.next hb)
    replace H18 := Lib.hid (H18.out.next hb)
    replace HB := Lib.hid (HB.out.trans (hb.mono HB.out.size))
    clear hb
    have H19 := Lib.hid h19
    clear h19
    have hxa := xorAll_len zss
    go_wp2_with fail
    refine (impl_xb H19.out.rd HO.out.rd (Nat.le_refl _) (Nat.le_refl _) (by omega)).mono ?_
    rintro e w20 ⟨x20, rfl, h20, hb⟩
    replace HO := Lib.hid (HO.out.next hb)
    replace HLs := Lib.hid (HLs.out.next hb)
    replace H18 := Lib.hid (H18.out.next hb)
    replace HB := Lib.hid (HB.out.trans (hb.mono HB.out.size))
    clear hb
    have H20 := Lib.hid h20
    clear h20 H19
    go_wp2_with fail
    refine (sameBytes_same H18.out.rd H20.out.rd (Nat.le_refl _) (Nat.le_refl _)).mono ?_
    rintro e w21 ⟨rfl, hb⟩
    replace HO := Lib.hid (HO.out.next hb)
    replace HLs := Lib.hid (HLs.out.next hb)
    replace HB := Lib.hid (HB.out.trans (hb.mono HB.out.size))
    clear hb
    clear H18 H20
    go_wp2_with fail
    refine (impl_elb HLs.out.rd2 HLs.out.rd2 (Nat.le_refl _) (Nat.le_refl _)).mono ?_
    rw [el_self]
    rintro e w22 ⟨rfl, hb⟩
    replace HO := Lib.hid (HO.out.next hb)
    replace HB := Lib.hid (HB.out.trans (hb.mono HB.out.size))
    clear hb
    clear HLs
    go_wp2_with fail
    refine (impl_pd (n := 20) HO.out.rd (Nat.le_refl _) (by rfl) (by omega)).mono ?_
    rintro e w23 ⟨x23, rfl, h23, hb⟩
    have P20 : (pd xs 20).length = 20 := by
      have := pd_yes (xs := xs) (n := 20) (by omega)
      rw [show ((20 : Nat) : Int) = 20 from rfl] at this
      rw [this, List.length_append, List.length_replicate]
      omega
    obtain ⟨a23, c23, rfl, _⟩ := h23.open
    rw [P20]
    have M20 : mx 20 (xs.length : Int) = 20 := mx_ge (by omega)
    replace HB := Lib.hid (HB.out.trans (hb.mono HB.out.size))
    clear hb
    go_wp2_with fail
    refine (spec_max _ _ _).mono ?_
    rw [M20]
    rintro e w24 ⟨rfl, hw24⟩
    subst hw24
    go_wp2_with fail
    go_ret
    exact ⟨rfl, HB.out⟩

end Go.Proofs.Ytcemadckgimhhaa
