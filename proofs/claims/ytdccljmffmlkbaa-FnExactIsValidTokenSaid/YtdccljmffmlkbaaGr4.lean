/- The small group: proofs of equal exponents checked; the program's and the document's. No conditions but numbers that a machine holds. -/
import Derived.Test.YtdccljmffmlkbaaGr3
namespace Go.Proofs.Ytdccljmffmlkbaa
open Go Go.RowKit
set_option linter.unusedVariables false
attribute [local irreducible] kh kid pwm tcm pw chl

theorem arr4 (a b c d : Int) {j : Nat} (h : j < 4) : (#[Value.int .i64 a, .int .i64 b, .int .i64 c, .int .i64 d] : Array Value)[j]? = some (.int .i64 ([a, b, c, d].getD j 0)) := by
  have : j = 0 ∨ j = 1 ∨ j = 2 ∨ j = 3 := by omega
  rcases this with rfl | rfl | rfl | rfl <;> rfl
theorem wf4 {a b c d : Int} (ha : (Lit.int .i64 a).wf = true) (hb : (Lit.int .i64 b).wf = true) (hc : (Lit.int .i64 c).wf = true) (hd : (Lit.int .i64 d).wf = true) {j : Nat} (h : j < 4) : (Lit.int .i64 ([a, b, c, d].getD j 0)).wf = true := by
  have : j = 0 ∨ j = 1 ∨ j = 2 ∨ j = 3 := by omega
  rcases this with rfl | rfl | rfl | rfl <;> assumption
theorem vrq_el {g h u v : Int} (c r : Int) {j : Nat} (hj : j < 4) (hn : isG ([g, h, u, v].getD j 0) = false) : vrf g h u v c r = false := by
  apply vrf_no
  have hq : isG g = false ∨ isG h = false ∨ isG u = false ∨ isG v = false := by
    have : j = 0 ∨ j = 1 ∨ j = 2 ∨ j = 3 := by omega
    rcases this with rfl | rfl | rfl | rfl
    · exact Or.inl hn
    · exact Or.inr (Or.inl hn)
    · exact Or.inr (Or.inr (Or.inl hn))
    · exact Or.inr (Or.inr (Or.inr hn))
  unfold vrq
  rcases hq with h | h | h | h <;> simp [h]
theorem vrf_c {g h u v c r : Int} (hn : inR c 0 1018 = false) : vrf g h u v c r = false := by
  apply vrf_no; unfold vrq; simp [hn]
theorem vrf_r {g h u v c r : Int} (hn : inR r 0 1018 = false) : vrf g h u v c r = false := by
  apply vrf_no; unfold vrq; simp [hn]
theorem vrf_yes {g h u v c r : Int} (h1 : isG g = true) (h2 : isG h = true) (h3 : isG u = true) (h4 : isG v = true) (h5 : inR c 0 1018 = true) (h6 : inR r 0 1018 = true) : vrf g h u v c r = (c == chl g h u v (mulG (pwG g r) (pwG u c)) (mulG (pwG h r) (pwG v c))) := by
  unfold vrf vrq; simp [h1, h2, h3, h4, h5, h6]


set_option maxHeartbeats 4000000 in
/-- impl.VerifyEqual. -/
theorem impl_vf {w : World} {g h u v c r : Int} (hg : (Lit.int .i64 g).wf = true) (hh : (Lit.int .i64 h).wf = true) (hu : (Lit.int .i64 u).wf = true) (hv : (Lit.int .i64 v).wf = true) (hc : (Lit.int .i64 c).wf = true) (hr : (Lit.int .i64 r).wf = true) :
    Calls Try.prog 64 #[.int .i64 g, .int .i64 h, .int .i64 u, .int .i64 v, .int .i64 c, .int .i64 r] w fun e w' => e = .returned (.bool (vrf g h u v c r)) ∧ Below w.heap.size w w' := by
  have W1 := Lib.hid hg
  have W2 := Lib.hid hh
  have W3 := Lib.hid hu
  have W4 := Lib.hid hv
  have W5 := Lib.hid hc
  have W6 := Lib.hid hr
  have k4 := heap_alloc_new w (.cells #[.int .i64 g, .int .i64 h, .int .i64 u, .int .i64 v] 3)
  have b4 := (Below.refl w.heap.size w).alloc (Nat.le_refl _) (.cells #[.int .i64 g, .int .i64 h, .int .i64 u, .int .i64 v] 3)
  obtain ⟨W0, hW0⟩ : ∃ W, W = w.alloc (.cells #[.int .i64 g, .int .i64 h, .int .i64 u, .int .i64 v] 3) := ⟨_, rfl⟩
  rw [← hW0] at k4 b4
  have HW0 := Lib.hid hW0
  have HK4 := Lib.hid k4
  have HB0 := Lib.hid b4
  have HWf := Lib.hid (fun (j : Nat) (hj : j < 4) => wf4 hg hh hu hv hj)
  clear hg hh hu hv hc hr k4 b4 hW0
  go_enter Try.func64, Try.ntmps64
  go_wp2_with fail
  rw [← HW0.out]
  go_loopw [23] (fun i wr => ∃ j : Nat, i = .int .i64 j ∧ j ≤ 4 ∧ (∀ k, k < j → isG ([g, h, u, v].getD k 0) = true) ∧ Below W0.heap.size W0 wr) (fun i _ => 4 - (intOf i).toNat)
  case atStart => exact ⟨0, rfl, by omega, fun k hk => by omega, Below.refl _ _⟩
  case round =>
    obtain ⟨j, rfl, hj, hel, hB⟩ := hrel
    have HEl := Lib.hid hel
    have HBr := Lib.hid hB
    clear hel hB
    by_cases hlt : j < 4
    · have e1 : decide ((j : Int) < 4) = true := by simp; omega
      obtain ⟨z, hz⟩ : ∃ z, z = [g, h, u, v].getD j 0 := ⟨_, rfl⟩
      have HZ := Lib.hid hz
      have HZw := Lib.hid (HWf.out j hlt)
      rw [← hz] at HZw
      have c1 : wr.cell? ⟨w.heap.size, j, none⟩ = some (.int .i64 z) := by
        rw [blk_cell ((HBr.out.block _ (lt_of_block HK4.out)).trans HK4.out) j, arr4 _ _ _ _ hlt, hz]
      clear hz
      go_wp2_with fail
      refine (impl_isg HZw.out).mono ?_
      obtain ⟨q, hq⟩ : ∃ q, q = isG z := ⟨_, rfl⟩
      rw [← hq]
      have HQ := Lib.hid hq
      rintro e w1 ⟨rfl, h1⟩
      replace HBr := Lib.hid (HBr.out.trans (h1.mono HBr.out.size))
      clear h1 hq c1
      cases q with
      | false =>
        have HF := Lib.hid (vrq_el (g := g) (h := h) (u := u) (v := v) c r hlt (by rw [← HZ.out, ← HQ.out]))
        go_wp2_with fail
        go_ret
        exact ⟨by rw [HF.out]; rfl, HB0.out.trans (HBr.out.mono HB0.out.size)⟩
      | true =>
        go_wp2_with fail
        go_roundw
        case rel =>
          refine ⟨j + 1, by simp, hlt, fun k hk => ?_, HBr.out⟩
          by_cases hkj : k = j
          · rw [hkj, ← HZ.out]; exact HQ.out.symm
          · exact HEl.out k (by omega)
        case measure => simp [intOf]; omega
    · have e1 : decide ((j : Int) < 4) = false := by simp; omega
      obtain rfl : j = 4 := by omega
      have q1 : isG g = true := HEl.out 0 (by omega)
      have q2 : isG h = true := HEl.out 1 (by omega)
      have q3 : isG u = true := HEl.out 2 (by omega)
      have q4 : isG v = true := HEl.out 3 (by omega)
      have HB := Lib.hid (HB0.out.trans (HBr.out.mono HB0.out.size))
      have Q1 := Lib.hid q1
      have Q2 := Lib.hid q2
      have Q3 := Lib.hid q3
      have Q4 := Lib.hid q4
      clear q1 q2 q3 q4 HEl
      cases h5 : inR c 0 1018 with
      | false =>
        have H5 := Lib.hid h5
        have HF := Lib.hid (vrf_c (g := g) (h := h) (u := u) (v := v) (r := r) h5)
        clear h5
        go_wp2_with fail
        refine (impl_in _ _ _ _ W5.out).mono ?_
        rw [H5.out]
        rintro e w1 ⟨rfl, hw⟩
        obtain rfl := hw.symm
        go_wp2_with fail
        go_ret
        exact ⟨by rw [HF.out]; rfl, HB.out⟩
      | true =>
       cases h6 : inR r 0 1018 with
       | false =>
        have H5 := Lib.hid h5
        have H6 := Lib.hid h6
        have HF := Lib.hid (vrf_r (g := g) (h := h) (u := u) (v := v) (c := c) h6)
        clear h5 h6
        go_wp2_with fail
        refine (impl_in _ _ _ _ W5.out).mono ?_
        rw [H5.out]
        rintro e w1 ⟨rfl, hw⟩
        obtain rfl := hw.symm
        go_wp2_with fail
        refine (impl_in _ _ _ _ W6.out).mono ?_
        rw [H6.out]
        rintro e w1 ⟨rfl, hw⟩
        obtain rfl := hw.symm
        go_wp2_with fail
        go_ret
        exact ⟨by rw [HF.out]; rfl, HB.out⟩
       | true =>
        have H5 := Lib.hid h5
        have H6 := Lib.hid h6
        have hF := vrf_yes Q1.out Q2.out Q3.out Q4.out h5 h6
        clear h5 h6
        obtain ⟨a1, e1⟩ : ∃ a, a = pwG g r := ⟨_, rfl⟩
        obtain ⟨a2, e2⟩ : ∃ a, a = pwG u c := ⟨_, rfl⟩
        obtain ⟨a3, e3⟩ : ∃ a, a = pwG h r := ⟨_, rfl⟩
        obtain ⟨a4, e4⟩ : ∃ a, a = pwG v c := ⟨_, rfl⟩
        have Y1 := Lib.hid (show (Lit.int .i64 a1).wf = true by rw [e1]; exact pwG_wf _ _)
        have Y2 := Lib.hid (show (Lit.int .i64 a2).wf = true by rw [e2]; exact pwG_wf _ _)
        have Y3 := Lib.hid (show (Lit.int .i64 a3).wf = true by rw [e3]; exact pwG_wf _ _)
        have Y4 := Lib.hid (show (Lit.int .i64 a4).wf = true by rw [e4]; exact pwG_wf _ _)
        obtain ⟨b1, e5⟩ : ∃ a, a = mulG a1 a2 := ⟨_, rfl⟩
        obtain ⟨b2, e6⟩ : ∃ a, a = mulG a3 a4 := ⟨_, rfl⟩
        have Y5 := Lib.hid (show (Lit.int .i64 b1).wf = true by rw [e5]; exact mulG_wf _ _)
        have Y6 := Lib.hid (show (Lit.int .i64 b2).wf = true by rw [e6]; exact mulG_wf _ _)
        rw [← e1, ← e2, ← e3, ← e4, ← e5, ← e6] at hF
        obtain ⟨k, hk⟩ : ∃ k, k = kh 97 [g, h, u, v, b1, b2] % 1019 := ⟨_, rfl⟩
        have HF : Hid (vrf g h u v c r = (c == k)) := Lib.hid (by rw [hF, hk]; unfold chl; rfl)
        have E1 := Lib.hid e1
        have E2 := Lib.hid e2
        have E3 := Lib.hid e3
        have E4 := Lib.hid e4
        have E5 := Lib.hid e5
        have E6 := Lib.hid e6
        have HK := Lib.hid hk
        clear e1 e2 e3 e4 e5 e6 hk hF
        go_wp2_with fail
        refine (impl_in _ _ _ _ W5.out).mono ?_
        rw [H5.out]
        rintro e w1 ⟨rfl, hw⟩
        obtain rfl := hw.symm
        go_wp2_with fail
        refine (impl_in _ _ _ _ W6.out).mono ?_
        rw [H6.out]
        rintro e w1 ⟨rfl, hw⟩
        obtain rfl := hw.symm
        go_wp2_with fail
        refine (impl_pwg W1.out W6.out).mono ?_
        rw [← E1.out]
        rintro e w2 ⟨rfl, h1⟩
        replace HB := Lib.hid (HB.out.trans (h1.mono HB.out.size))
        clear h1
        go_wp2_with fail
        refine (impl_pwg W3.out W5.out).mono ?_
        rw [← E2.out]
        rintro e w3 ⟨rfl, h1⟩
        replace HB := Lib.hid (HB.out.trans (h1.mono HB.out.size))
        clear h1
        go_wp2_with fail
        refine (impl_mul Y1.out Y2.out).mono ?_
        rw [← E5.out]
        rintro e w4 ⟨rfl, h1⟩
        replace HB := Lib.hid (HB.out.trans (h1.mono HB.out.size))
        clear h1
        go_wp2_with fail
        refine (impl_pwg W2.out W6.out).mono ?_
        rw [← E3.out]
        rintro e w5 ⟨rfl, h1⟩
        replace HB := Lib.hid (HB.out.trans (h1.mono HB.out.size))
        clear h1
        go_wp2_with fail
        refine (impl_pwg W4.out W5.out).mono ?_
        rw [← E4.out]
        rintro e w6 ⟨rfl, h1⟩
        replace HB := Lib.hid (HB.out.trans (h1.mono HB.out.size))
        clear h1
        go_wp2_with fail
        refine (impl_mul Y3.out Y4.out).mono ?_
        rw [← E6.out]
        rintro e w7 ⟨rfl, h1⟩
        replace HB := Lib.hid (HB.out.trans (h1.mono HB.out.size))
        clear h1
        have o6 := Own.lits6 (B := w7.heap.size) (w := w7) .i64 3 (Nat.le_refl _) W1.out W2.out W3.out W4.out Y5.out Y6.out
        have HO6 := Lib.hid o6.rd
        replace HB := Lib.hid (HB.out.alloc HB.out.size (.cells #[.int .i64 g, .int .i64 h, .int .i64 u, .int .i64 v, .int .i64 b1, .int .i64 b2] 3))
        clear o6
        go_wp2_with fail
        refine (impl_chg HO6.out (Nat.le_refl _) (by simp)).mono ?_
        rw [← HK.out]
        rintro e w8 ⟨rfl, h1⟩
        replace HB := Lib.hid (HB.out.trans (h1.mono HB.out.size))
        clear h1
        go_wp2_with fail
        go_ret
        exact ⟨by rw [HF.out]; rfl, HB.out⟩

set_option maxHeartbeats 4000000 in
/-- spec.VerifyEqual. -/
theorem spec_vf {w : World} {g h u v c r : Int} (hg : (Lit.int .i64 g).wf = true) (hh : (Lit.int .i64 h).wf = true) (hu : (Lit.int .i64 u).wf = true) (hv : (Lit.int .i64 v).wf = true) (hc : (Lit.int .i64 c).wf = true) (hr : (Lit.int .i64 r).wf = true) :
    Calls Try.prog 42 #[.int .i64 g, .int .i64 h, .int .i64 u, .int .i64 v, .int .i64 c, .int .i64 r] w fun e w' => e = .returned (.bool (vrf g h u v c r)) ∧ Below w.heap.size w w' := by
  have W1 := Lib.hid hg
  have W2 := Lib.hid hh
  have W3 := Lib.hid hu
  have W4 := Lib.hid hv
  have W5 := Lib.hid hc
  have W6 := Lib.hid hr
  have HB := Lib.hid (Below.refl w.heap.size w)
  clear hg hh hu hv hc hr
  cases q1 : isG g with
  | false =>
    have Q1 := Lib.hid q1
    have HF := Lib.hid (vrq_el (g := g) (h := h) (u := u) (v := v) c r (j := 0) (by omega) q1)
    clear q1
    go_enter Try.func42, Try.ntmps42
    go_wp2_with fail
    refine (spec_isg W1.out).mono ?_
    rw [Q1.out]
    rintro e w1 ⟨rfl, hw⟩
    obtain rfl := hw.symm
    go_wp2_with fail
    go_ret
    exact ⟨by rw [HF.out]; rfl, HB.out⟩
  | true =>
    have Q1 := Lib.hid q1
    clear q1
    cases q2 : isG h with
    | false =>
      have Q2 := Lib.hid q2
      have HF := Lib.hid (vrq_el (g := g) (h := h) (u := u) (v := v) c r (j := 1) (by omega) q2)
      clear q2
      go_enter Try.func42, Try.ntmps42
      go_wp2_with fail
      refine (spec_isg W1.out).mono ?_
      rw [Q1.out]
      rintro e w1 ⟨rfl, hw⟩
      obtain rfl := hw.symm
      go_wp2_with fail
      refine (spec_isg W2.out).mono ?_
      rw [Q2.out]
      rintro e w2 ⟨rfl, hw⟩
      obtain rfl := hw.symm
      go_wp2_with fail
      go_ret
      exact ⟨by rw [HF.out]; rfl, HB.out⟩
    | true =>
      have Q2 := Lib.hid q2
      clear q2
      cases q3 : isG u with
      | false =>
        have Q3 := Lib.hid q3
        have HF := Lib.hid (vrq_el (g := g) (h := h) (u := u) (v := v) c r (j := 2) (by omega) q3)
        clear q3
        go_enter Try.func42, Try.ntmps42
        go_wp2_with fail
        refine (spec_isg W1.out).mono ?_
        rw [Q1.out]
        rintro e w1 ⟨rfl, hw⟩
        obtain rfl := hw.symm
        go_wp2_with fail
        refine (spec_isg W2.out).mono ?_
        rw [Q2.out]
        rintro e w2 ⟨rfl, hw⟩
        obtain rfl := hw.symm
        go_wp2_with fail
        refine (spec_isg W3.out).mono ?_
        rw [Q3.out]
        rintro e w3 ⟨rfl, hw⟩
        obtain rfl := hw.symm
        go_wp2_with fail
        go_ret
        exact ⟨by rw [HF.out]; rfl, HB.out⟩
      | true =>
        have Q3 := Lib.hid q3
        clear q3
        cases q4 : isG v with
        | false =>
          have Q4 := Lib.hid q4
          have HF := Lib.hid (vrq_el (g := g) (h := h) (u := u) (v := v) c r (j := 3) (by omega) q4)
          clear q4
          go_enter Try.func42, Try.ntmps42
          go_wp2_with fail
          refine (spec_isg W1.out).mono ?_
          rw [Q1.out]
          rintro e w1 ⟨rfl, hw⟩
          obtain rfl := hw.symm
          go_wp2_with fail
          refine (spec_isg W2.out).mono ?_
          rw [Q2.out]
          rintro e w2 ⟨rfl, hw⟩
          obtain rfl := hw.symm
          go_wp2_with fail
          refine (spec_isg W3.out).mono ?_
          rw [Q3.out]
          rintro e w3 ⟨rfl, hw⟩
          obtain rfl := hw.symm
          go_wp2_with fail
          refine (spec_isg W4.out).mono ?_
          rw [Q4.out]
          rintro e w4 ⟨rfl, hw⟩
          obtain rfl := hw.symm
          go_wp2_with fail
          go_ret
          exact ⟨by rw [HF.out]; rfl, HB.out⟩
        | true =>
          have Q4 := Lib.hid q4
          clear q4
          cases q5 : inR c 0 1018 with
          | false =>
            have Q5 := Lib.hid q5
            have HF := Lib.hid (vrf_c (g := g) (h := h) (u := u) (v := v) (r := r) q5)
            clear q5
            go_enter Try.func42, Try.ntmps42
            go_wp2_with fail
            refine (spec_isg W1.out).mono ?_
            rw [Q1.out]
            rintro e w1 ⟨rfl, hw⟩
            obtain rfl := hw.symm
            go_wp2_with fail
            refine (spec_isg W2.out).mono ?_
            rw [Q2.out]
            rintro e w2 ⟨rfl, hw⟩
            obtain rfl := hw.symm
            go_wp2_with fail
            refine (spec_isg W3.out).mono ?_
            rw [Q3.out]
            rintro e w3 ⟨rfl, hw⟩
            obtain rfl := hw.symm
            go_wp2_with fail
            refine (spec_isg W4.out).mono ?_
            rw [Q4.out]
            rintro e w4 ⟨rfl, hw⟩
            obtain rfl := hw.symm
            go_wp2_with fail
            refine (spec_in _ _ _ _ W5.out).mono ?_
            rw [Q5.out]
            rintro e w5 ⟨rfl, hw⟩
            obtain rfl := hw.symm
            go_wp2_with fail
            go_ret
            exact ⟨by rw [HF.out]; rfl, HB.out⟩
          | true =>
            have Q5 := Lib.hid q5
            clear q5
            cases q6 : inR r 0 1018 with
            | false =>
              have Q6 := Lib.hid q6
              have HF := Lib.hid (vrf_r (g := g) (h := h) (u := u) (v := v) (c := c) q6)
              clear q6
              go_enter Try.func42, Try.ntmps42
              go_wp2_with fail
              refine (spec_isg W1.out).mono ?_
              rw [Q1.out]
              rintro e w1 ⟨rfl, hw⟩
              obtain rfl := hw.symm
              go_wp2_with fail
              refine (spec_isg W2.out).mono ?_
              rw [Q2.out]
              rintro e w2 ⟨rfl, hw⟩
              obtain rfl := hw.symm
              go_wp2_with fail
              refine (spec_isg W3.out).mono ?_
              rw [Q3.out]
              rintro e w3 ⟨rfl, hw⟩
              obtain rfl := hw.symm
              go_wp2_with fail
              refine (spec_isg W4.out).mono ?_
              rw [Q4.out]
              rintro e w4 ⟨rfl, hw⟩
              obtain rfl := hw.symm
              go_wp2_with fail
              refine (spec_in _ _ _ _ W5.out).mono ?_
              rw [Q5.out]
              rintro e w5 ⟨rfl, hw⟩
              obtain rfl := hw.symm
              go_wp2_with fail
              refine (spec_in _ _ _ _ W6.out).mono ?_
              rw [Q6.out]
              rintro e w6 ⟨rfl, hw⟩
              obtain rfl := hw.symm
              go_wp2_with fail
              go_ret
              exact ⟨by rw [HF.out]; rfl, HB.out⟩
            | true =>
              have Q6 := Lib.hid q6
              clear q6
              have hF := vrf_yes Q1.out Q2.out Q3.out Q4.out Q5.out Q6.out
              obtain ⟨a1, e1⟩ : ∃ a, a = pwG g r := ⟨_, rfl⟩
              obtain ⟨a2, e2⟩ : ∃ a, a = pwG u c := ⟨_, rfl⟩
              obtain ⟨a3, e3⟩ : ∃ a, a = pwG h r := ⟨_, rfl⟩
              obtain ⟨a4, e4⟩ : ∃ a, a = pwG v c := ⟨_, rfl⟩
              have Y1 := Lib.hid (show (Lit.int .i64 a1).wf = true by rw [e1]; exact pwG_wf _ _)
              have Y2 := Lib.hid (show (Lit.int .i64 a2).wf = true by rw [e2]; exact pwG_wf _ _)
              have Y3 := Lib.hid (show (Lit.int .i64 a3).wf = true by rw [e3]; exact pwG_wf _ _)
              have Y4 := Lib.hid (show (Lit.int .i64 a4).wf = true by rw [e4]; exact pwG_wf _ _)
              obtain ⟨b1, e5⟩ : ∃ a, a = mulG a1 a2 := ⟨_, rfl⟩
              obtain ⟨b2, e6⟩ : ∃ a, a = mulG a3 a4 := ⟨_, rfl⟩
              have Y5 := Lib.hid (show (Lit.int .i64 b1).wf = true by rw [e5]; exact mulG_wf _ _)
              have Y6 := Lib.hid (show (Lit.int .i64 b2).wf = true by rw [e6]; exact mulG_wf _ _)
              rw [← e1, ← e2, ← e3, ← e4, ← e5, ← e6] at hF
              obtain ⟨k, hk⟩ : ∃ k, k = kh 97 [g, h, u, v, b1, b2] % 1019 := ⟨_, rfl⟩
              have HF : Hid (vrf g h u v c r = (c == k)) := Lib.hid (by rw [hF, hk]; unfold chl; rfl)
              have E1 := Lib.hid e1
              have E2 := Lib.hid e2
              have E3 := Lib.hid e3
              have E4 := Lib.hid e4
              have E5 := Lib.hid e5
              have E6 := Lib.hid e6
              have HK := Lib.hid hk
              clear e1 e2 e3 e4 e5 e6 hk hF
              go_enter Try.func42, Try.ntmps42
              go_wp2_with fail
              refine (spec_isg W1.out).mono ?_
              rw [Q1.out]
              rintro e w1 ⟨rfl, hw⟩
              obtain rfl := hw.symm
              go_wp2_with fail
              refine (spec_isg W2.out).mono ?_
              rw [Q2.out]
              rintro e w2 ⟨rfl, hw⟩
              obtain rfl := hw.symm
              go_wp2_with fail
              refine (spec_isg W3.out).mono ?_
              rw [Q3.out]
              rintro e w3 ⟨rfl, hw⟩
              obtain rfl := hw.symm
              go_wp2_with fail
              refine (spec_isg W4.out).mono ?_
              rw [Q4.out]
              rintro e w4 ⟨rfl, hw⟩
              obtain rfl := hw.symm
              go_wp2_with fail
              refine (spec_in _ _ _ _ W5.out).mono ?_
              rw [Q5.out]
              rintro e w5 ⟨rfl, hw⟩
              obtain rfl := hw.symm
              go_wp2_with fail
              refine (spec_in _ _ _ _ W6.out).mono ?_
              rw [Q6.out]
              rintro e w6 ⟨rfl, hw⟩
              obtain rfl := hw.symm
              go_wp2_with fail
              refine (spec_pwg W1.out W6.out).mono ?_
              rw [← E1.out]
              rintro e w7 ⟨rfl, hw⟩
              obtain rfl := hw.symm
              go_wp2_with fail
              refine (spec_pwg W3.out W5.out).mono ?_
              rw [← E2.out]
              rintro e w8 ⟨rfl, hw⟩
              obtain rfl := hw.symm
              go_wp2_with fail
              refine (spec_mul Y1.out Y2.out).mono ?_
              rw [← E5.out]
              rintro e w9 ⟨rfl, hw⟩
              obtain rfl := hw.symm
              go_wp2_with fail
              refine (spec_pwg W2.out W6.out).mono ?_
              rw [← E3.out]
              rintro e w10 ⟨rfl, hw⟩
              obtain rfl := hw.symm
              go_wp2_with fail
              refine (spec_pwg W4.out W5.out).mono ?_
              rw [← E4.out]
              rintro e w11 ⟨rfl, hw⟩
              obtain rfl := hw.symm
              go_wp2_with fail
              refine (spec_mul Y3.out Y4.out).mono ?_
              rw [← E6.out]
              rintro e w12 ⟨rfl, hw⟩
              obtain rfl := hw.symm
              have o6 := Own.lits6 (B := w.heap.size) (w := w) .i64 3 (Nat.le_refl _) W1.out W2.out W3.out W4.out Y5.out Y6.out
              have HO6 := Lib.hid o6.rd
              replace HB := Lib.hid (HB.out.alloc HB.out.size (.cells #[.int .i64 g, .int .i64 h, .int .i64 u, .int .i64 v, .int .i64 b1, .int .i64 b2] 3))
              clear o6
              go_wp2_with fail
              refine (spec_chg HO6.out (Nat.le_refl _) (by simp)).mono ?_
              rw [← HK.out]
              rintro e w13 ⟨rfl, h1⟩
              replace HB := Lib.hid (HB.out.trans (h1.mono HB.out.size))
              clear h1
              go_wp2_with fail
              go_ret
              exact ⟨by rw [HF.out]; rfl, HB.out⟩

end Go.Proofs.Ytdccljmffmlkbaa
