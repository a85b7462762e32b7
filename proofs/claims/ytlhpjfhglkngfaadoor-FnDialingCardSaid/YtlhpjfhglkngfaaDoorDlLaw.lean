/- FnDialing: the walk. Two persons agree on one key; an invitation is opened by its addressee, tells who called, is not opened with another contact nor in another round. Conditions: the package variables errors.errorType and impl.errNoInvitation, as the row lists them. -/
import Derived.Test.YtlhpjfhglkngfaaDoorDlX
import Derived.Test.YtlhpjfhglkngfaaDoorDl2
import Derived.Test.YtlhpjfhglkngfaaDoorDraw18
import Derived.BigQuiet
namespace Go.Proofs.YtlhpjfhglkngfaaDoor
open Go Go.RowKit
set_option linter.unusedVariables false
attribute [local irreducible] kh kid pwm tcm pw

theorem pwG4_wf (s : Int) : (Lit.int .i64 (pwG 4 s)).wf = true := pwG_wf 4 s

set_option maxHeartbeats 16000000 in
set_option maxRecDepth 100000 in
theorem fnDialing_walk (a : Option Addr) (len cap : Nat) (zs : List Int) (w : World) (hrow : IsRow .u8 w a len cap zs) (hL : laidMetH Tryd.prog Rows.fnDialingRow.laid w) :
    Calls Tryd.prog 3 #[.slice a len cap] w fun e w' => e = .returned (.bool true) ∧ Below w.heap.size w w' := by
  obtain ⟨hg1, aN, hn1⟩ := gvn_of_laid hL
  have HG := Lib.hid hg1
  have HN := Lib.hid hn1
  obtain ⟨hr, hl⟩ := row_own hrow
  obtain ⟨s, A, l⟩ : ∃ s, Rd w.heap.size .u8 w (.slice a len cap) s ∧ len = s.length := ⟨zs.take len, hrow.rd, hrow.rd.len_eq⟩
  subst l
  have HA := Lib.hid A
  have HRow := Lib.hid hr
  have HLen := Lib.hid hl
  have hl' : s.length ≤ 9223372036854775807 := by unfold maxLen at hl; omega
  clear hr hrow hl A hL hg1 hn1
  by_cases hbig : 1048576 < s.length
  · have e0 : decide ((1048576 : Int) < (s.length : Int)) = true := by simp; omega
    go_enter Tryd.func3, Tryd.ntmps3
    go_wp2_with fail
    refine (big_is a s.length cap _ hl').mono ?_
    rw [e0]
    rintro e w0 ⟨rfl, rfl⟩
    go_wp2_with fail
    go_ret
    exact ⟨rfl, Below.refl _ _⟩
  have e0 : decide ((1048576 : Int) < (s.length : Int)) = false := by simp; omega
  have HS := Lib.hid (show s.length ≤ 1048576 by omega)
  clear hbig
  go_enter Tryd.func3, Tryd.ntmps3
  go_wp2_with fail
  refine (big_is a s.length cap _ hl').mono ?_
  rw [e0]
  rintro e w0 ⟨rfl, hw⟩
  obtain rfl : w = w0 := hw.symm
  clear e0 hw hl'
  go_wp2_with fail
  refine (draw_fr w.heap.size a s.length cap zs _ (Nat.le_refl _) HRow.out HLen.out).mono ?_
  rintro e w1 ⟨sa, pa, sb, pb, rfl, ⟨ha1, ha2, hpa⟩, ⟨hb1, hb2, hpb⟩, hb⟩
  have HB := Lib.hid hb
  replace HA := Lib.hid (HA.out.behind hb)
  have HSa := Lib.hid (show 1 ≤ sa ∧ sa ≤ 1018 from ⟨ha1, ha2⟩)
  have HSb := Lib.hid (show 1 ≤ sb ∧ sb ≤ 1018 from ⟨hb1, hb2⟩)
  have HPa := Lib.hid hpa
  have HPb := Lib.hid hpb
  have Wsa : Hid ((Lit.int .i64 sa).wf = true) := Lib.hid (wf_i64_of (by omega) (by omega))
  have Wsb : Hid ((Lit.int .i64 sb).wf = true) := Lib.hid (wf_i64_of (by omega) (by omega))
  have Wpa : Hid ((Lit.int .i64 pa).wf = true) := Lib.hid (by rw [hpa]; exact pwG4_wf _)
  have Wpb : Hid ((Lit.int .i64 pb).wf = true) := Lib.hid (by rw [hpb]; exact pwG4_wf _)
  clear hb ha1 ha2 hpa hb1 hb2 hpb HRow
  obtain ⟨x1, x2, hb⟩ := two_new w1 (.cells #[.int .i64 sa, .int .i64 pa] 25) (.cells #[.int .i64 sb, .int .i64 pb] 25)
  obtain ⟨W2, hW2⟩ : ∃ W, W = (w1.alloc (.cells #[.int .i64 sa, .int .i64 pa] 25)).alloc (.cells #[.int .i64 sb, .int .i64 pb] 25) := ⟨_, rfl⟩
  rw [← hW2] at x1 x2 hb
  have KA := Lib.hid x1
  have KB := Lib.hid x2
  have HW2 := Lib.hid hW2
  replace HA := Lib.hid (HA.out.behind (hb.mono HB.out.size))
  replace HB := Lib.hid (HB.out.trans (hb.mono HB.out.size))
  clear x1 x2 hb hW2
  go_wp2_with fail
  rw [← HW2.out]
  refine (at_any HA.out 0 (by omega) HS.out).mono ?_
  obtain ⟨x0, hx0⟩ : ∃ x, x = atv s 0 := ⟨_, rfl⟩
  rw [← hx0]
  rintro e w3 ⟨⟨rfl, x00, x01⟩, hw⟩
  obtain rfl : W2 = w3 := hw.symm
  clear hx0 hw HA
  have Wx : Hid ((Lit.int .i64 x0).wf = true) := Lib.hid (wf_i64_of (by omega) (by omega))
  have Wx1 : Hid ((Lit.int .i64 (x0 + 1)).wf = true) := Lib.hid (wf_i64_of (by omega) (by omega))
  have HX := Lib.hid (show 0 ≤ x0 ∧ x0 ≤ 255 from ⟨x00, x01⟩)
  -- what the two persons compute
  have hkk := skey_comm HSa.out HSb.out
  have hkp := skey_pos (skq_two HSa.out HSb.out)
  have hi1 := (iok_two HSa.out HSb.out (r := x0) (by omega)).1
  have hv1 := okId_new HSa.out
  have hv2 := okId_new HSb.out
  have hq1 := oq_caller HSa.out HSb.out (r := x0) (by omega)
  have hq3 := oq_late (c := 0) HSa.out HSb.out (r := x0) (by omega)
  obtain ⟨c, hc⟩ : ∃ c, c = 1 + sa % 1018 := ⟨_, rfl⟩
  have hcb : 1 ≤ c ∧ c ≤ 1018 := by omega
  have hne : c ≠ sa := by have := HSa.out; omega
  have hq2 := oq_stranger HSa.out HSb.out hcb hne (r := x0) (by omega)
  have hvc := okId_new hcb
  have hid := idP_new hcb
  obtain ⟨pc, hpc⟩ : ∃ p, p = pwG 4 c := ⟨_, rfl⟩
  rw [← HPa.out] at hkk hi1 hv1 hq1 hq2 hq3
  rw [← HPb.out] at hkk hkp hi1 hv2 hq1 hq2 hq3
  rw [← hpc] at hq2 hvc hid
  obtain ⟨k, hk⟩ : ∃ k, k = skey sa pb := ⟨_, rfl⟩
  rw [← hk] at hkk hkp
  obtain ⟨cl, hcl⟩ : ∃ l, l = icell sa pa pb x0 := ⟨_, rfl⟩
  rw [← hcl] at hq1 hq2 hq3
  have hz1 : ∀ i : Nat, i < 1 → oq sb x0 cl ([1, pa].getD i 0) = false := by
    intro i hi
    obtain rfl : i = 0 := by omega
    exact oq_one _ _ _
  have hz2 : ∀ i : Nat, i < [pc].length → oq sb x0 cl ([pc].getD i 0) = false := by
    intro i hi
    obtain rfl : i = 0 := by simpa using hi
    exact hq2
  have hz3 : ∀ i : Nat, i < [pa].length → oq sb (x0 + 1) cl ([pa].getD i 0) = false := by
    intro i hi
    obtain rfl : i = 0 := by simpa using hi
    exact hq3
  have HR1 := Lib.hid (op_found (s := sb) (p := pb) (r := x0) (b := cl) (cs := [1, pa]) (j := 1) hv2 (by simp) hz1 hq1)
  have HR2 := Lib.hid (op_none (s := sb) (p := pb) (r := x0) (b := cl) (cs := [pc]) hz2)
  have HR3 := Lib.hid (op_none (s := sb) (p := pb) (r := x0 + 1) (b := cl) (cs := [pa]) hz3)
  have HR4 := Lib.hid (op_no HR2.out)
  have HR5 := Lib.hid (op_no HR3.out)
  have HKb : Hid (opK sb pb [1, pa] x0 cl = k) := Lib.hid (by rw [HR1.out.2.2]; exact hkk.symm)
  have HKi : Hid (opI sb pb [1, pa] x0 cl = 1) := Lib.hid HR1.out.2.1
  have HKc := Lib.hid hkk
  have HKk := Lib.hid hk
  have HKv : Hid (inR k 1 2147483646 = true) := Lib.hid (inR_iff.2 hkp)
  have HKw : Hid ((Lit.int .i64 k).wf = true) := Lib.hid (wf_i64_of (by omega) (by omega))
  have HI1 := Lib.hid hi1
  have HV1 := Lib.hid hv1
  have HVc := Lib.hid hvc
  have HCl := Lib.hid hcl
  have HId := Lib.hid hid
  have Wc : Hid ((Lit.int .i64 c).wf = true) := Lib.hid (wf_i64_of (by omega) (by omega))
  have Wpc : Hid ((Lit.int .i64 pc).wf = true) := Lib.hid (by rw [hpc]; exact pwG4_wf _)
  obtain ⟨m, hm⟩ : ∃ m, m = sa % 1018 := ⟨_, rfl⟩
  have HMt : Hid (sa.tmod 1018 = m) := Lib.hid (by rw [hm]; exact tmod_pos (by have := HSa.out; omega))
  have HMb : Hid (0 ≤ m ∧ m ≤ 1017 ∧ 1 + m = c) := Lib.hid (by omega)
  have hdr := drow_in (p := pb) (r := x0) (n := 16) (rowq_iff.2 (by omega))
  obtain ⟨dr, hdre⟩ : ∃ d, d = drow pb x0 16 := ⟨_, rfl⟩
  rw [← hdre] at hdr
  have HDr := Lib.hid hdre
  have HDb := Lib.hid hdr
  obtain ⟨sf, hsf⟩ : ∃ x, x = safe pa pb := ⟨_, rfl⟩
  have HF1 : Hid (safe pa pb = sf) := Lib.hid hsf.symm
  have HF2 : Hid (safe pb pa = sf) := Lib.hid (by rw [safe_turn, hsf])
  obtain ⟨L, hLl⟩ : ∃ L, L = cl.length := ⟨_, rfl⟩
  have HLl := Lib.hid hLl
  clear hz1 hz2 hz3 x00 x01 hkk hkp hi1 hv1 hv2 hq1 hq3 hc hcb hne hq2 hvc hid hpc hk hcl hm hdr hdre hsf hLl
  obtain ⟨q1a, q1b, -⟩ := pcs KA.out
  obtain ⟨q2a, q2b, -⟩ := pcs KB.out
  go_wp2_with fail
  refine (impl_shk Wsa.out Wpb.out).mono ?_
  rw [← HKk.out]
  rintro e w4 ⟨rfl, hb⟩
  clear q1a q1b q2a q2b
  replace KA := Lib.hid (stood KA.out hb)
  replace KB := Lib.hid (stood KB.out hb)
  replace HB := Lib.hid (HB.out.trans (hb.mono HB.out.size))
  clear hb
  obtain ⟨q3a, q3b, -⟩ := pcs KA.out
  obtain ⟨q4a, q4b, -⟩ := pcs KB.out
  go_wp2_with fail
  refine (impl_mki Wsa.out Wpa.out Wpb.out Wx.out).mono ?_
  rw [← HCl.out, HI1.out]
  rintro e w5 ⟨v5, rfl, hO, hb⟩
  obtain ⟨a5, c5, hv5, _⟩ := hO.open
  rw [← HLl.out] at hv5
  subst hv5
  have HC := Lib.hid (show Rd w5.heap.size .u8 w5 (.slice a5 L c5) cl from hO.rd)
  clear hO q3a q3b q4a q4b
  replace KA := Lib.hid (stood KA.out hb)
  replace KB := Lib.hid (stood KB.out hb)
  replace HB := Lib.hid (HB.out.trans (hb.mono HB.out.size))
  clear hb
  obtain ⟨q5a, q5b, -⟩ := pcs KB.out
  obtain ⟨q6a, q6b, -⟩ := pcs KA.out
  go_wp2_with fail
  clear q5a q5b q6a q6b
  have R1 := Lib.hid (Rd.two 3 .i64 w5 1 pa (by decide) Wpa.out)
  have hb : Below w5.heap.size w5 (w5.alloc (.cells #[.int .i64 1, .int .i64 pa] 3)) := (Below.refl _ _).alloc (Nat.le_refl _) _
  obtain ⟨Vw6, hVw6⟩ : ∃ W, W = w5.alloc (.cells #[.int .i64 1, .int .i64 pa] 3) := ⟨_, rfl⟩
  have HZ : Hid (w5.heap.size + 1 ≤ Vw6.heap.size) := Lib.hid (by rw [hVw6]; simp)
  rw [← hVw6] at R1 hb ⊢
  clear hVw6
  replace KA := Lib.hid (stood KA.out hb)
  replace KB := Lib.hid (stood KB.out hb)
  replace HC := Lib.hid ((HC.out.behind hb).mono hb.size)
  replace HB := Lib.hid (HB.out.trans (hb.mono HB.out.size))
  clear hb
  refine (impl_opi R1.out HC.out HZ.out (Nat.le_refl _) Wsb.out Wpb.out Wx.out (HG.out.next HB.out) (HN.out.next HB.out)).mono ?_
  rw [HKi.out, HKb.out, HR1.out.1]
  rintro e w6 ⟨rfl, hb⟩
  clear R1 HZ
  replace KA := Lib.hid (stood KA.out hb)
  replace KB := Lib.hid (stood KB.out hb)
  replace HC := Lib.hid ((HC.out.behind hb).mono hb.size)
  replace HB := Lib.hid (HB.out.trans (hb.mono HB.out.size))
  clear hb
  obtain ⟨q7a, q7b, -⟩ := pcs KA.out
  have ht := HMt.out
  obtain ⟨mb1, mb2, mc⟩ := HMb.out
  go_wp2_with fail
  clear ht mb1 mb2 mc q7a q7b
  refine (impl_nid Wc.out).mono ?_
  rw [HId.out.1, HId.out.2]
  rintro e w7 ⟨rfl, hb⟩
  replace KA := Lib.hid (stood KA.out hb)
  replace KB := Lib.hid (stood KB.out hb)
  replace HC := Lib.hid ((HC.out.behind hb).mono hb.size)
  replace HB := Lib.hid (HB.out.trans (hb.mono HB.out.size))
  clear hb
  have hb := (Below.refl w7.heap.size w7).alloc (Nat.le_refl _) (.cells #[.int .i64 c, .int .i64 pc] 25)
  have x1 := heap_alloc_new w7 (.cells #[.int .i64 c, .int .i64 pc] 25)
  obtain ⟨W8, hW8⟩ : ∃ W, W = w7.alloc (.cells #[.int .i64 c, .int .i64 pc] 25) := ⟨_, rfl⟩
  rw [← hW8] at x1 hb
  have HW8 := Lib.hid hW8
  have HS8 : Hid (W8.heap.size = w7.heap.size + 1) := Lib.hid (by rw [hW8]; simp)
  have KC := Lib.hid x1
  clear x1 hW8
  replace KA := Lib.hid (stood KA.out hb)
  replace KB := Lib.hid (stood KB.out hb)
  replace HC := Lib.hid ((HC.out.behind hb).mono hb.size)
  replace HB := Lib.hid (HB.out.trans (hb.mono HB.out.size))
  clear hb
  obtain ⟨q8a, q8b, -⟩ := pcs KB.out
  obtain ⟨q9a, q9b, -⟩ := pcs KC.out
  rw [HW8.out] at q8a q8b q9a q9b
  go_wp2_with fail
  rw [← HW8.out]
  clear q8a q8b q9a q9b
  have R1 := Lib.hid (Rd.one 3 .i64 W8 pc Wpc.out)
  have hb : Below W8.heap.size W8 (W8.alloc (.cells #[.int .i64 pc] 3)) := (Below.refl _ _).alloc (Nat.le_refl _) _
  obtain ⟨Vw9, hVw9⟩ : ∃ W, W = W8.alloc (.cells #[.int .i64 pc] 3) := ⟨_, rfl⟩
  have HZ : Hid (W8.heap.size + 1 ≤ Vw9.heap.size) := Lib.hid (by rw [hVw9]; simp)
  rw [← hVw9] at R1 hb ⊢
  clear hVw9
  rw [HS8.out] at R1 HZ
  replace KA := Lib.hid (stood KA.out hb)
  replace KB := Lib.hid (stood KB.out hb)
  replace HC := Lib.hid ((HC.out.behind hb).mono hb.size)
  replace KC := Lib.hid (stood KC.out hb)
  replace HB := Lib.hid (HB.out.trans (hb.mono HB.out.size))
  clear hb
  refine (impl_opi R1.out HC.out HZ.out (Nat.le_refl _) Wsb.out Wpb.out Wx.out (HG.out.next HB.out) (HN.out.next HB.out)).mono ?_
  rw [HR4.out.1, HR4.out.2, HR2.out]
  rintro e w9 ⟨rfl, hb⟩
  clear R1 HZ
  replace KA := Lib.hid (stood KA.out hb)
  replace KB := Lib.hid (stood KB.out hb)
  replace HC := Lib.hid ((HC.out.behind hb).mono hb.size)
  replace KC := Lib.hid (stood KC.out hb)
  replace HB := Lib.hid (HB.out.trans (hb.mono HB.out.size))
  clear hb
  have xb := HX.out
  obtain ⟨q10a, q10b, -⟩ := pcs KB.out
  obtain ⟨q11a, q11b, -⟩ := pcs KA.out
  go_wp2_with fail
  clear q10a q10b q11a q11b
  have R1 := Lib.hid (Rd.one 3 .i64 w9 pa Wpa.out)
  have hb : Below w9.heap.size w9 (w9.alloc (.cells #[.int .i64 pa] 3)) := (Below.refl _ _).alloc (Nat.le_refl _) _
  obtain ⟨Vw10, hVw10⟩ : ∃ W, W = w9.alloc (.cells #[.int .i64 pa] 3) := ⟨_, rfl⟩
  have HZ : Hid (w9.heap.size + 1 ≤ Vw10.heap.size) := Lib.hid (by rw [hVw10]; simp)
  rw [← hVw10] at R1 hb ⊢
  clear hVw10
  replace KA := Lib.hid (stood KA.out hb)
  replace KB := Lib.hid (stood KB.out hb)
  replace HC := Lib.hid ((HC.out.behind hb).mono hb.size)
  replace KC := Lib.hid (stood KC.out hb)
  replace HB := Lib.hid (HB.out.trans (hb.mono HB.out.size))
  clear hb
  refine (impl_opi R1.out HC.out HZ.out (Nat.le_refl _) Wsb.out Wpb.out Wx1.out (HG.out.next HB.out) (HN.out.next HB.out)).mono ?_
  rw [HR5.out.1, HR5.out.2, HR3.out]
  rintro e w10 ⟨rfl, hb⟩
  clear R1 HZ
  replace KA := Lib.hid (stood KA.out hb)
  replace KB := Lib.hid (stood KB.out hb)
  replace HC := Lib.hid ((HC.out.behind hb).mono hb.size)
  replace KC := Lib.hid (stood KC.out hb)
  replace HB := Lib.hid (HB.out.trans (hb.mono HB.out.size))
  clear hb
  clear xb
  obtain ⟨q12a, q12b, -⟩ := pcs KB.out
  go_wp2_with fail
  refine (impl_drow Wpb.out Wx.out (by decide)).mono ?_
  rw [← HDr.out]
  rintro e w11 ⟨rfl, hb⟩
  clear q12a q12b
  replace KA := Lib.hid (stood KA.out hb)
  replace KB := Lib.hid (stood KB.out hb)
  replace HC := Lib.hid ((HC.out.behind hb).mono hb.size)
  replace KC := Lib.hid (stood KC.out hb)
  replace HB := Lib.hid (HB.out.trans (hb.mono HB.out.size))
  clear hb
  obtain ⟨dr0, dr1⟩ := HDb.out
  have dq0 : decide (0 ≤ dr) = true := decide_eq_true dr0
  have dq1 : decide (dr < 16) = true := decide_eq_true dr1
  clear dr0 dr1
  go_wp2_with fail
  refine region_quiet_c (C := Below w11.heap.size w11) (by kernel_rfl) (by kernel_rfl) ((Below.refl _ _).drew) ?_
  repeat (first
    | go_big_quiet_skip
    | (apply quiet_on
       · kernel_rfl
       · intro wq hq
         obtain ⟨c0, c1, -⟩ := pcs (stood KA.out hq)
         obtain ⟨d0, d1, -⟩ := pcs (stood KB.out hq)
         obtain ⟨e0, e1, -⟩ := pcs (stood KC.out hq)
         go_simp
         first
           | done
           | (go_at_call 8
              refine (impl_shk Wsb.out Wpa.out).mono ?_
              rintro e' w7 ⟨he, hb⟩
              rw [← HKc.out] at he
              exact ⟨he, hq.trans (hb.mono hq.size)⟩)
           | (go_at_call 13
              refine (impl_vk HKw.out).mono ?_
              rintro e' w7 ⟨he, hw⟩
              rw [HKv.out] at he
              subst hw
              exact ⟨he, hq⟩)
           | (go_at_call 14
              first
                | (with_reducible (show Calls _ _ #[.int .i64 pa, .int .i64 pb] _ _)
                   refine (impl_sfn Wpa.out Wpb.out).mono ?_
                   rintro e' w7 ⟨he, hb⟩
                   rw [HF1.out] at he
                   exact ⟨he, hq.trans (hb.mono hq.size)⟩)
                | (with_reducible (show Calls _ _ #[.int .i64 pb, .int .i64 pa] _ _)
                   refine (impl_sfn Wpb.out Wpa.out).mono ?_
                   rintro e' w7 ⟨he, hb⟩
                   rw [HF2.out] at he
                   exact ⟨he, hq.trans (hb.mono hq.size)⟩))
           | (go_at_call 15
              first
                | (with_reducible (show Calls _ _ #[.agg #[.int .i64 sa, .int .i64 pa]] _ _)
                   refine (impl_vid Wsa.out Wpa.out).mono ?_
                   rintro e' w7 ⟨he, hb⟩
                   rw [HV1.out] at he
                   exact ⟨he, hq.trans (hb.mono hq.size)⟩)
                | (with_reducible (show Calls _ _ #[.agg #[.int .i64 c, .int .i64 pc]] _ _)
                   refine (impl_vid Wc.out Wpc.out).mono ?_
                   rintro e' w7 ⟨he, hb⟩
                   rw [HVc.out] at he
                   exact ⟨he, hq.trans (hb.mono hq.size)⟩))
           | rfl
           | exact ⟨rfl, hq⟩
       simp only [Act.put, List.setIfInBounds_toArray, List.set_cons_zero, List.set_cons_succ]))
  refine wpQuiet_nil ?_
  intro w7 hb
  have HQ7 := Lib.hid (HB.out.trans (hb.mono HB.out.size))
  clear hb
  go_wp2_with fail
  go_ret
  exact ⟨rfl, HQ7.out⟩
end Go.Proofs.YtlhpjfhglkngfaaDoor
