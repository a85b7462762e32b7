/- What chapter 15's draws give: elements and others, exponents, whatever is handed to VerifyEqual. No conditions but sizes that a machine holds. -/
import Derived.Test.YteallhmjjppghaaDrawB
import Derived.Test.YteallhmjjppghaaBaD
import Derived.Test.YteallhmjjppghaaGr3
namespace Go.Proofs.Yteallhmjjppghaa
open Go Go.RowKit
set_option linter.unusedVariables false
attribute [local irreducible] kh kid pwm tcm pw chl

/-- spec.l15Any. -/
theorem any15 (B b : Nat) (w : World) (h : Cur B b w) :
    Calls Try.prog 33 #[.pointer (some ⟨b, 0, none⟩)] w (StepOut B b (-1) 2039 w) := by
  have H := Lib.hid h
  clear h
  go_enter Try.func33, Try.ntmps33
  go_wp2_with fail
  refine (once_any B b _ _ H.out (by omega) (by omega)).mono ?_
  rintro e w1 ⟨t, rfl, hc, hg⟩
  have HC := Lib.hid hc
  have HG := Lib.hid hg
  clear hc hg
  cases t
  · go_wp2_with (first
      | (go_at_call 50
         go_in))
    refine (below_any B b _ _ HC.out (by omega) (by omega)).mono ?_
    rintro e w3 ⟨y, y0, y1, rfl, hc3, hg3⟩
    obtain ⟨n, rfl⟩ : ∃ n : Nat, y = (n : Int) := ⟨y.toNat, by omega⟩
    have HC3 := Lib.hid hc3
    have HG3 := Lib.hid (grown_trans HG.out hg3)
    clear hc3 hg3
    go_wp2_with fail
    refine (spec_pm (n := n) rfl (by omega) (by omega) (by omega)).mono ?_
    have hb := pwm_bound (m := 2039) (g := 4) (n := n) (by omega)
    obtain ⟨x, hx⟩ : ∃ x, x = pwm 2039 4 n := ⟨_, rfl⟩
    rw [← hx] at hb ⊢
    rintro e w4 ⟨rfl, hw⟩
    obtain rfl := hw.symm
    clear hx
    go_wp2_with fail
    go_ret
    exact ⟨x, by omega, by omega, rfl, HC3.out, HG3.out⟩
  · go_wp2_with fail
    refine (int_alloc B b (-1) 2039 [-1, 0, 1, 2, 2038, 2039] _ 6 _ HC.out rfl (by omega) (by omega) (by decide)).mono ?_
    rintro e w2 ⟨y, y0, y1, rfl, hc2, hg2⟩
    go_wp2_with fail
    go_ret
    exact ⟨y, y0, y1, rfl, hc2, grown_trans HG.out hg2⟩

/-- spec.l15Number. -/
theorem num15 (B b : Nat) (w : World) (h : Cur B b w) :
    Calls Try.prog 34 #[.pointer (some ⟨b, 0, none⟩)] w (StepOut B b (-1) 5000 w) := by
  have H := Lib.hid h
  clear h
  go_enter Try.func34, Try.ntmps34
  go_wp2_with fail
  refine (below_any B b _ _ H.out (by omega) (by omega)).mono ?_
  rintro e w1 ⟨x, x0, x1, rfl, hc, hg⟩
  have HC := Lib.hid hc
  have HG := Lib.hid hg
  clear hc hg
  go_wp2_with fail
  refine (below_any B b _ _ HC.out (by omega) (by omega)).mono ?_
  rintro e w2 ⟨y, y0, y1, rfl, hc, hg⟩
  replace HC := Lib.hid hc
  replace HG := Lib.hid (grown_trans HG.out hg)
  clear hc hg
  go_wp2_with fail
  refine (int_alloc B b (-1) 5000 [x, y, -1, 0, 1, 1018, 1019, 5000] _ 8 _ HC.out rfl (by omega) (by omega) (by
    intro z hz
    simp only [List.mem_cons, List.not_mem_nil, or_false] at hz
    omega)).mono ?_
  rintro e w3 ⟨z, z0, z1, rfl, hc2, hg2⟩
  go_wp2_with fail
  go_ret
  exact ⟨z, z0, z1, rfl, hc2, grown_trans HG.out hg2⟩

set_option maxHeartbeats 2000000 in
/-- spec.DrawVerifyEqual. -/
theorem draw_vf (B : Nat) (a : Option Addr) (len cap : Nat) (zs : List Int) (w : World) (hB : B ≤ w.heap.size) (hrow : RowB B .u8 w a len cap zs) (hl : len ≤ maxLen) :
    Calls Try.prog 15 #[.slice a len cap] w fun e w' => ∃ g h u v c r : Int, e = .returned (.tuple #[.int .i64 g, .int .i64 h, .int .i64 u, .int .i64 v, .int .i64 c, .int .i64 r]) ∧ ((Lit.int .i64 g).wf = true ∧ (Lit.int .i64 h).wf = true ∧ (Lit.int .i64 u).wf = true ∧ (Lit.int .i64 v).wf = true ∧ (Lit.int .i64 c).wf = true ∧ (Lit.int .i64 r).wf = true) ∧ Below w.heap.size w w' := by
  have HR := Lib.hid hrow
  clear hrow
  go_enter Try.func15, Try.ntmps15
  go_wp2_with fail
  refine (new_any B a len cap zs _ hB HR.out hl).mono ?_
  rintro e w1 ⟨rfl, hc, hg⟩
  have HC := Lib.hid hc
  have HG := Lib.hid (grown_none (r := some w.heap.size) hg)
  clear hc hg HR
  go_wp2_with fail
  refine (any15 B w.heap.size _ HC.out).mono ?_
  rintro e w2 ⟨g, g0, g1, rfl, hc, hg⟩
  have Wg := Lib.hid (small_wf (x := g) (by omega) (by omega))
  replace HC := Lib.hid hc
  replace HG := Lib.hid (grown_trans HG.out hg)
  clear hc hg g0 g1
  go_wp2_with fail
  refine (any15 B w.heap.size _ HC.out).mono ?_
  rintro e w3 ⟨h, h0, h1, rfl, hc, hg⟩
  have Wh := Lib.hid (small_wf (x := h) (by omega) (by omega))
  replace HC := Lib.hid hc
  replace HG := Lib.hid (grown_trans HG.out hg)
  clear hc hg h0 h1
  go_wp2_with fail
  refine (num15 B w.heap.size _ HC.out).mono ?_
  rintro e w4 ⟨s, s0, s1, rfl, hc, hg⟩
  have Ws := Lib.hid (small_wf (x := s) (by omega) (by omega))
  replace HC := Lib.hid hc
  replace HG := Lib.hid (grown_trans HG.out hg)
  clear hc hg s0 s1
  go_wp2_with fail
  refine (num15 B w.heap.size _ HC.out).mono ?_
  rintro e w5 ⟨t, t0, t1, rfl, hc, hg⟩
  have Wt := Lib.hid (small_wf (x := t) (by omega) (by omega))
  replace HC := Lib.hid hc
  replace HG := Lib.hid (grown_trans HG.out hg)
  clear hc hg t0 t1
  go_wp2_with fail
  refine (spec_pr Wg.out Wh.out Ws.out Wt.out).mono ?_
  have hcb := prC_bound g h s t
  have hrb := prR_bound g h s t
  obtain ⟨c, hc⟩ : ∃ c, c = prC g h s t := ⟨_, rfl⟩
  obtain ⟨r, hr⟩ : ∃ r, r = prR g h s t := ⟨_, rfl⟩
  rw [← hc] at hcb ⊢
  rw [← hr] at hrb ⊢
  have Wc := Lib.hid (small_wf (x := c) (by omega) (by omega))
  have Wr := Lib.hid (small_wf (x := r) (by omega) (by omega))
  clear hc hr hcb hrb
  rintro e w6 ⟨rfl, hb⟩
  replace HC := Lib.hid (HC.out.kept (grown_of_below hb) (by simp) (fun r hr => by cases hr))
  replace HG := Lib.hid (grown_trans HG.out (grown_none (grown_of_below hb)))
  clear hb
  go_wp2_with fail
  refine (spec_pwg Wg.out Ws.out).mono ?_
  have Wu' := pwG_wf g s
  obtain ⟨u, hu⟩ : ∃ x, x = pwG g s := ⟨_, rfl⟩
  rw [← hu] at Wu' ⊢
  have Wu := Lib.hid Wu'
  clear hu Wu'
  rintro e w7 ⟨rfl, hw⟩
  obtain rfl := hw.symm
  go_wp2_with fail
  refine (spec_pwg Wh.out Ws.out).mono ?_
  have Wv' := pwG_wf h s
  obtain ⟨v, hv⟩ : ∃ x, x = pwG h s := ⟨_, rfl⟩
  rw [← hv] at Wv' ⊢
  have Wv := Lib.hid Wv'
  clear hv Wv'
  rintro e w8 ⟨rfl, hw⟩
  obtain rfl := hw.symm
  go_wp2_with fail
  refine (below_any B w.heap.size _ _ HC.out (by omega) (by omega)).mono ?_
  rintro e w9 ⟨x, x0, x1, rfl, hc, hg⟩
  replace HC := Lib.hid hc
  replace HG := Lib.hid (grown_trans HG.out hg)
  clear hc hg
  by_cases q0 : x = 0
  · have e0 : (x == 0) = true := beq_iff_eq.2 q0
    go_wp2_with fail
    refine (any15 B w.heap.size _ HC.out).mono ?_
    rintro e w10 ⟨z, z0, z1, rfl, hc, hg⟩
    have Wz := Lib.hid (small_wf (x := z) (by omega) (by omega))
    have HB := Lib.hid (below_of_grown (B := w.heap.size) (grown_trans HG.out hg) (Nat.le_refl _) (Nat.le_refl _))
    clear hc hg z0 z1
    go_wp2_with fail
    exact bodyPost_ret (v := .tuple #[.int .i64 g, .int .i64 h, .int .i64 u, .int .i64 z, .int .i64 c, .int .i64 r]) (by simp [results, Try.results15, go_sem]) rfl ⟨g, h, u, z, c, r, rfl, ⟨Wg.out, Wh.out, Wu.out, Wz.out, Wc.out, Wr.out⟩, HB.out⟩
  · have e0 : (x == 0) = false := beq_eq_false_iff_ne.2 q0
    by_cases q1 : x = 1
    · have e1 : (x == 1) = true := beq_iff_eq.2 q1
      go_wp2_with fail
      refine (int_alloc B w.heap.size (-1) 1019 [-1, 0, 1018, 1019] _ 4 _ HC.out rfl (by omega) (by omega) (by decide)).mono ?_
      rintro e w10 ⟨z, z0, z1, rfl, hc, hg⟩
      have Wz := Lib.hid (small_wf (x := z) (by omega) (by omega))
      have HB := Lib.hid (below_of_grown (B := w.heap.size) (grown_trans HG.out hg) (Nat.le_refl _) (Nat.le_refl _))
      clear hc hg z0 z1
      go_wp2_with fail
      exact bodyPost_ret (v := .tuple #[.int .i64 g, .int .i64 h, .int .i64 u, .int .i64 v, .int .i64 c, .int .i64 z]) (by simp [results, Try.results15, go_sem]) rfl ⟨g, h, u, v, c, z, rfl, ⟨Wg.out, Wh.out, Wu.out, Wv.out, Wc.out, Wz.out⟩, HB.out⟩
    · have e1 : (x == 1) = false := beq_eq_false_iff_ne.2 q1
      by_cases q2 : x = 2
      · have e2 : (x == 2) = true := beq_iff_eq.2 q2
        go_wp2_with fail
        refine (int_alloc B w.heap.size (-1) 1019 [-1, 0, 1018, 1019] _ 4 _ HC.out rfl (by omega) (by omega) (by decide)).mono ?_
        rintro e w10 ⟨z, z0, z1, rfl, hc, hg⟩
        have Wz := Lib.hid (small_wf (x := z) (by omega) (by omega))
        have HB := Lib.hid (below_of_grown (B := w.heap.size) (grown_trans HG.out hg) (Nat.le_refl _) (Nat.le_refl _))
        clear hc hg z0 z1
        go_wp2_with fail
        exact bodyPost_ret (v := .tuple #[.int .i64 g, .int .i64 h, .int .i64 u, .int .i64 v, .int .i64 z, .int .i64 r]) (by simp [results, Try.results15, go_sem]) rfl ⟨g, h, u, v, z, r, rfl, ⟨Wg.out, Wh.out, Wu.out, Wv.out, Wz.out, Wr.out⟩, HB.out⟩
      · have e2 : (x == 2) = false := beq_eq_false_iff_ne.2 q2
        have HB := Lib.hid (below_of_grown (B := w.heap.size) HG.out (Nat.le_refl _) (Nat.le_refl _))
        go_wp2_with fail
        exact bodyPost_ret (v := .tuple #[.int .i64 g, .int .i64 h, .int .i64 u, .int .i64 v, .int .i64 c, .int .i64 r]) (by simp [results, Try.results15, go_sem]) rfl ⟨g, h, u, v, c, r, rfl, ⟨Wg.out, Wh.out, Wu.out, Wv.out, Wc.out, Wr.out⟩, HB.out⟩

end Go.Proofs.Yteallhmjjppghaa
