/- FnSkippedKeys: the walk. A ratchet that is not valid is handed back with no key; of a valid one comes a valid one, with a valid key if there is one; no key is given for a step that lies too far ahead; advancing gives the key and the state that asking for the step gives. No conditions. -/
import Derived.Test.YtlbijjifeaimjaaDraw19c
import Derived.Test.YtlbijjifeaimjaaRt6
import Derived.Test.YtlbijjifeaimjaaRt9
namespace Go.Proofs.Ytlbijjifeaimjaa
open Go Go.RowKit
set_option linter.unusedVariables false
set_option maxRecDepth 20000
attribute [local irreducible] kh kid

theorem er_self (c s : Int) (xs : Kept) : eqRt c s xs c s xs = true := by
  unfold eqRt
  rw [beq_self_eq_true, beq_self_eq_true, decide_eq_true rfl]; rfl
theorem sk_bad {c s t : Int} {xs : Kept} (h : okR c s xs = false) : kfq c s xs t = false ∧ kfC c s xs t = c ∧ kfS c s xs t = s ∧ kfL c s xs t = xs ∧ adq c s xs = false := by
  have h1 := kf_bad (t := t) h
  obtain ⟨e1, e2, e3, _⟩ := kf_no h1
  exact ⟨h1, e1, e2, e3, by unfold adq; rw [h]; rfl⟩
theorem sk_got {c s t : Int} {xs : Kept} (h : okR c s xs = true) (hq : kfq c s xs t = true) : inR (kfM c s xs t) 1 2147483646 = true ∧ (s ≤ t → kfS c s xs t = t + 1 ∧ t < 100000) ∧ t ≤ s + 8 := by
  obtain ⟨_, _, _, hk, _⟩ := okR_iff.1 h
  cases hn : kfn c s xs t with
  | true =>
    obtain ⟨_, _, e2, _, e4⟩ := kf_new hn
    rw [e2, e4]
    have hb := mky_bound (chn c (t - s).toNat)
    unfold kfn at hn
    simp only [Bool.and_eq_true, decide_eq_true_eq] at hn
    refine ⟨?_, fun _ => ⟨rfl, by omega⟩, by omega⟩
    unfold inR
    simp only [Bool.and_eq_true, decide_eq_true_eq]
    omega
  | false =>
    have ho : kfo c s xs t = true := by
      unfold kfq at hq
      rw [hn, Bool.or_false] at hq
      exact hq
    obtain ⟨_, _, _, _, e4⟩ := kf_old ho
    rw [e4]
    unfold kfo at ho
    simp only [Bool.and_eq_true, decide_eq_true_eq] at ho
    obtain ⟨i, x, hx, h1, _, h2⟩ := getK_in ho.2.2.2
    have hm := keyK_lt hk x (List.mem_of_getElem? hx)
    refine ⟨?_, fun h => by omega, by omega⟩
    rw [h2]
    unfold inR
    simp only [Bool.and_eq_true, decide_eq_true_eq]
    omega
theorem sk_adv {c s : Int} {xs : Kept} (h : okR c s xs = true) : kfq c s xs s = adq c s xs ∧ (adq c s xs = true → kfM c s xs s = adM c s xs ∧ kfC c s xs s = adC c s xs ∧ kfS c s xs s = adS c s xs) := by
  obtain ⟨_, hs, _, _, _⟩ := okR_iff.1 h
  by_cases h1 : s = 100000
  · have e1 : adq c s xs = false := by unfold adq; rw [h1, beq_self_eq_true]; simp
    have e2 : kfq c s xs s = false := by
      unfold kfq kfo kfn
      rw [decide_eq_false (show ¬ s < 100000 by omega)]
      simp
    rw [e1, e2]
    exact ⟨rfl, fun h => by cases h⟩
  · have e1 : adq c s xs = true := by unfold adq; rw [h, beq_eq_false_iff_ne.2 h1]; rfl
    have e2 : kfn c s xs s = true := by
      unfold kfn
      rw [h, decide_eq_true (show s < 100000 by omega), decide_eq_true (Int.le_refl s), decide_eq_true (show s - s ≤ 8 by omega)]
      rfl
    obtain ⟨a1, a2, a3, _, a5⟩ := kf_new e2
    obtain ⟨b1, b2, b3⟩ := rad_yes e1
    have e0 : (s - s).toNat = 0 := by omega
    rw [e0] at a2 a5
    rw [e1, a1, a2, a3, a5, b1, b2, b3]
    exact ⟨rfl, fun _ => ⟨rfl, rfl, rfl⟩⟩

set_option maxHeartbeats 16000000 in
theorem fnSkippedKeys_walk (a : Option Addr) (len cap : Nat) (zs : List Int) (w : World) (hrow : IsRow .u8 w a len cap zs) :
    Calls Try.prog 3 #[.slice a len cap] w fun e w' => e = .returned (.bool true) ∧ Below w.heap.size w w' := by
  obtain ⟨hr, hl⟩ := row_own hrow
  obtain ⟨s0, A, l⟩ : ∃ s, Rd w.heap.size .u8 w (.slice a len cap) s ∧ len = s.length := ⟨zs.take len, hrow.rd, hrow.rd.len_eq⟩
  subst l
  have HRow := Lib.hid hr
  have HLen := Lib.hid hl
  have hl' : s0.length ≤ 9223372036854775807 := by unfold maxLen at hl; omega
  clear hr hrow hl A
  by_cases hbig : 1048576 < s0.length
  · have e0 : decide ((1048576 : Int) < (s0.length : Int)) = true := by simp; omega
    go_enter Try.func3, Try.ntmps3
    go_wp2_with fail
    refine (big_is a s0.length cap _ hl').mono ?_
    rw [e0]
    rintro e w0 ⟨rfl, rfl⟩
    go_wp2_with fail
    go_ret
    exact ⟨rfl, Below.refl _ _⟩
  have e0 : decide ((1048576 : Int) < (s0.length : Int)) = false := by simp; omega
  clear hbig
  go_enter Try.func3, Try.ntmps3
  go_wp2_with fail
  refine (big_is a s0.length cap _ hl').mono ?_
  rw [e0]
  rintro e w0 ⟨rfl, hw⟩
  obtain rfl : w = w0 := hw.symm
  clear e0 hw
  go_wp2_with fail
  refine (draw_kf w.heap.size a s0.length cap zs _ (Nat.le_refl _) HRow.out HLen.out).mono ?_
  rintro e w1 ⟨c, s, v, xs, t, rfl, hcb, hsb, hxl, hO, htw, hB⟩
  have HCw : Hid ((Lit.int .i64 c).wf = true) := Lib.hid (w19 (by omega) (by omega))
  have HSw : Hid ((Lit.int .i64 s).wf = true) := Lib.hid (w19 (by omega) (by omega))
  have HTw := Lib.hid htw
  have HXl : Hid (xs.length ≤ 1048576) := Lib.hid (by omega)
  have HSb := Lib.hid hsb
  clear HRow HLen hl' hcb hsb hxl htw

  have HB := Lib.hid hB
  clear hB
  obtain ⟨aR, cR, hv, _⟩ := hO.open
  subst hv
  obtain ⟨nR, hnlR⟩ : ∃ x, x = xs.length := ⟨_, rfl⟩
  rw [← hnlR] at hO ⊢
  have hE := heap_alloc_new w1 (.cells #[.int .i64 c, .int .i64 s, .slice aR nR cR] 26)
  have hb : Below w1.heap.size w1 (w1.alloc (.cells #[.int .i64 c, .int .i64 s, .slice aR nR cR] 26)) := (Below.refl _ _).alloc (Nat.le_refl _) _
  obtain ⟨v1, hWN⟩ : ∃ W, W = w1.alloc (.cells #[.int .i64 c, .int .i64 s, .slice aR nR cR] 26) := ⟨_, rfl⟩
  obtain ⟨G, hGN⟩ : ∃ G, G = w1.heap.size := ⟨_, rfl⟩
  rw [← hWN] at hE hb
  rw [← hGN] at hE
  have KR := Lib.hid hE
  have OR := Lib.hid (hO.next hb)
  have HNlR := Lib.hid hnlR
  have HWR := Lib.hid hWN
  have HGnR := Lib.hid hGN
  replace HB := Lib.hid (HB.out.trans (hb.mono HB.out.size))
  clear hb
  clear hE hO hWN hGN hnlR
  obtain ⟨x0, x1, x2⟩ := rcs KR.out
  go_wp2_with (rw [← HWR.out, ← HGnR.out])
  clear x0 x1 x2
  refine (impl_kf OR.out.rd (Nat.le_refl _) HCw.out HSw.out HTw.out HXl.out).mono ?_
  obtain ⟨C, hC⟩ : ∃ C, C = kfC c s xs t := ⟨_, rfl⟩
  obtain ⟨S, hS⟩ : ∃ S, S = kfS c s xs t := ⟨_, rfl⟩
  obtain ⟨ys, hys⟩ : ∃ L, L = kfL c s xs t := ⟨_, rfl⟩
  obtain ⟨m, hm⟩ : ∃ m, m = kfM c s xs t := ⟨_, rfl⟩
  obtain ⟨q, hq⟩ : ∃ q, q = kfq c s xs t := ⟨_, rfl⟩
  rw [← hC, ← hS, ← hys, ← hm, ← hq]
  have HC := Lib.hid hC
  have HS := Lib.hid hS
  have HY := Lib.hid hys
  have HM := Lib.hid hm
  have HQ := Lib.hid hq
  clear hC hS hys hm hq
  rintro e w2 ⟨v, rfl, hO, hb⟩
  have hB0 := hb.size
  replace HB := Lib.hid (HB.out.trans (hb.mono HB.out.size))
  replace KR := Lib.hid (rstand KR.out hb)
  replace OR := Lib.hid (OR.out.next hb)
  clear hb
  clear hB0
  obtain ⟨aX, cX, hv, _⟩ := hO.open
  subst hv
  obtain ⟨nX, hnlX⟩ : ∃ x, x = ys.length := ⟨_, rfl⟩
  rw [← hnlX] at hO ⊢
  have hE := heap_alloc_new w2 (.cells #[.int .i64 C, .int .i64 S, .slice aX nX cX] 26)
  have hb : Below w2.heap.size w2 (w2.alloc (.cells #[.int .i64 C, .int .i64 S, .slice aX nX cX] 26)) := (Below.refl _ _).alloc (Nat.le_refl _) _
  obtain ⟨v2, hWN⟩ : ∃ W, W = w2.alloc (.cells #[.int .i64 C, .int .i64 S, .slice aX nX cX] 26) := ⟨_, rfl⟩
  obtain ⟨X, hGN⟩ : ∃ G, G = w2.heap.size := ⟨_, rfl⟩
  rw [← hWN] at hE hb
  rw [← hGN] at hE
  have KX := Lib.hid hE
  have OX := Lib.hid (hO.next hb)
  have HNlX := Lib.hid hnlX
  have HWX := Lib.hid hWN
  have HGnX := Lib.hid hGN
  replace HB := Lib.hid (HB.out.trans (hb.mono HB.out.size))
  replace KR := Lib.hid (rstand KR.out hb)
  replace OR := Lib.hid (OR.out.next hb)
  clear hb
  clear hE hO hWN hGN hnlX
  obtain ⟨x0, x1, x2⟩ := rcs KR.out
  go_wp2_with (rw [← HWX.out, ← HGnX.out])
  clear x0 x1 x2
  refine (spec_vr OR.out.rd (Nat.le_refl _) HCw.out HSw.out).mono ?_
  cases hok : okR c s xs with
  | false =>
    obtain ⟨k1, k2, k3, k4, k5⟩ := sk_bad (t := t) hok
    obtain rfl : q = false := HQ.out.trans k1
    obtain rfl : C = c := HC.out.trans k2
    obtain rfl : S = s := HS.out.trans k3
    obtain rfl : ys = xs := HY.out.trans k4
    have HOk := Lib.hid hok
    have HAd := Lib.hid k5
    clear hok k1 k2 k3 k4 k5
    rintro e w3 ⟨rfl, hb⟩
    replace HB := Lib.hid (HB.out.trans (hb.mono HB.out.size))
    replace KR := Lib.hid (rstand KR.out hb)
    replace OR := Lib.hid (OR.out.next hb)
    replace KX := Lib.hid (rstand KX.out hb)
    replace OX := Lib.hid (OX.out.next hb)
    clear hb
    obtain ⟨x0, x1, x2⟩ := rcs KR.out
    go_wp2_with fail
    clear x0 x1 x2
    refine (impl_ad OR.out.rd (Nat.le_refl _) HCw.out HSw.out HXl.out).mono ?_
    rw [HAd.out]
    obtain ⟨m2, hm2⟩ : ∃ m, m = adM C S ys := ⟨_, rfl⟩
    obtain ⟨C2, hC2⟩ : ∃ m, m = adC C S ys := ⟨_, rfl⟩
    obtain ⟨S2, hS2⟩ : ∃ m, m = adS C S ys := ⟨_, rfl⟩
    rw [← hm2, ← hC2, ← hS2]
    clear hm2 hC2 hS2
    rintro e w4 ⟨v, rfl, hO, hb⟩
    replace HB := Lib.hid (HB.out.trans (hb.mono HB.out.size))
    replace KR := Lib.hid (rstand KR.out hb)
    replace OR := Lib.hid (OR.out.next hb)
    replace KX := Lib.hid (rstand KX.out hb)
    replace OX := Lib.hid (OX.out.next hb)
    clear hb
    obtain ⟨aY, cY, hv, _⟩ := hO.open
    subst hv
    obtain ⟨nY, hnlY⟩ : ∃ x, x = ys.length := ⟨_, rfl⟩
    rw [← hnlY] at hO ⊢
    have hE := heap_alloc_new w4 (.cells #[.int .i64 C2, .int .i64 S2, .slice aY nY cY] 26)
    have hb : Below w4.heap.size w4 (w4.alloc (.cells #[.int .i64 C2, .int .i64 S2, .slice aY nY cY] 26)) := (Below.refl _ _).alloc (Nat.le_refl _) _
    obtain ⟨v4, hWN⟩ : ∃ W, W = w4.alloc (.cells #[.int .i64 C2, .int .i64 S2, .slice aY nY cY] 26) := ⟨_, rfl⟩
    obtain ⟨Y, hGN⟩ : ∃ G, G = w4.heap.size := ⟨_, rfl⟩
    rw [← hWN] at hE hb
    rw [← hGN] at hE
    have KY := Lib.hid hE
    have OY := Lib.hid (hO.next hb)
    have HNlY := Lib.hid hnlY
    have HWY := Lib.hid hWN
    have HGnY := Lib.hid hGN
    replace HB := Lib.hid (HB.out.trans (hb.mono HB.out.size))
    replace KR := Lib.hid (rstand KR.out hb)
    replace OR := Lib.hid (OR.out.next hb)
    replace KX := Lib.hid (rstand KX.out hb)
    replace OX := Lib.hid (OX.out.next hb)
    clear hb
    clear hE hO hWN hGN hnlY
    obtain ⟨x0, x1, x2⟩ := rcs KR.out
    obtain ⟨y0, y1, y2⟩ := rcs KX.out
    go_wp2_with (rw [← HWY.out])
    clear x0 x1 x2 y0 y1 y2
    refine (impl_er OX.out.rd OR.out.rd (Nat.le_refl _) (Nat.le_refl _)).mono ?_
    rw [er_self]
    rintro e w5 ⟨rfl, hb⟩
    replace HB := Lib.hid (HB.out.trans (hb.mono HB.out.size))
    replace KR := Lib.hid (rstand KR.out hb)
    replace OR := Lib.hid (OR.out.next hb)
    replace KX := Lib.hid (rstand KX.out hb)
    replace OX := Lib.hid (OX.out.next hb)
    clear hb
    obtain ⟨x0, x1, x2⟩ := rcs KR.out
    go_wp2_with fail
    clear x0 x1 x2
    refine (impl_vr OR.out.rd (Nat.le_refl _) HCw.out HSw.out).mono ?_
    rw [HOk.out]
    rintro e w6 ⟨rfl, hb⟩
    replace HB := Lib.hid (HB.out.trans (hb.mono HB.out.size))
    replace KR := Lib.hid (rstand KR.out hb)
    replace OR := Lib.hid (OR.out.next hb)
    replace KX := Lib.hid (rstand KX.out hb)
    replace OX := Lib.hid (OX.out.next hb)
    clear hb
    go_wp2_with fail
    go_ret
    exact ⟨rfl, HB.out⟩
  | true =>
    have HOk := Lib.hid hok
    have HGot := Lib.hid (fun hq => sk_got (t := t) hok hq)
    have HAdv := Lib.hid (sk_adv hok)
    have hok2 := kf_okR (t := t) hok
    rw [← HC.out, ← HS.out, ← HY.out] at hok2
    have HOk2 := Lib.hid hok2
    have HCw2 : Hid ((Lit.int .i64 C).wf = true) := Lib.hid (w19 (by have := (okR_iff.1 hok2).1; omega) (by have := (okR_iff.1 hok2).1; omega))
    have HSw2 : Hid ((Lit.int .i64 S).wf = true) := Lib.hid (w19 (by have := (okR_iff.1 hok2).2.1; omega) (by have := (okR_iff.1 hok2).2.1; omega))
    have HYl : Hid (ys.length ≤ 8) := Lib.hid (okR_iff.1 hok2).2.2.1
    have HMw : Hid ((Lit.int .i64 m).wf = true) := Lib.hid (by
      cases h : kfq c s xs t with
      | true =>
        have h1 := (sk_got hok h).1
        rw [← HM.out] at h1
        unfold inR at h1
        simp only [Bool.and_eq_true, decide_eq_true_eq] at h1
        exact w19 (by omega) (by omega)
      | false => rw [HM.out, (kf_no h).2.2.2]; decide)
    have HNo : Hid (q = false → C = c ∧ S = s ∧ ys = xs) := Lib.hid (fun h => by
      obtain ⟨e1, e2, e3, _⟩ := kf_no (HQ.out.symm.trans h)
      exact ⟨HC.out.trans e1, HS.out.trans e2, HY.out.trans e3⟩)
    have HYes : Hid (q = true → inR m 1 2147483646 = true ∧ (s ≤ t → S = t + 1 ∧ t < 100000) ∧ t ≤ s + 8) := Lib.hid (fun h => by
      rw [HM.out, HS.out]
      exact HGot.out (HQ.out.symm.trans h))
    clear hok hok2 HGot
    rintro e w3 ⟨rfl, hb⟩
    replace HB := Lib.hid (HB.out.trans (hb.mono HB.out.size))
    replace KR := Lib.hid (rstand KR.out hb)
    replace OR := Lib.hid (OR.out.next hb)
    replace KX := Lib.hid (rstand KX.out hb)
    replace OX := Lib.hid (OX.out.next hb)
    clear hb
    obtain ⟨y0, y1, y2⟩ := rcs KX.out
    go_wp2_with fail
    clear y0 y1 y2
    refine (impl_vr OX.out.rd (Nat.le_refl _) HCw2.out HSw2.out).mono ?_
    rw [HOk2.out]
    rintro e w4 ⟨rfl, hb⟩
    replace HB := Lib.hid (HB.out.trans (hb.mono HB.out.size))
    replace KR := Lib.hid (rstand KR.out hb)
    replace OR := Lib.hid (OR.out.next hb)
    replace KX := Lib.hid (rstand KX.out hb)
    replace OX := Lib.hid (OX.out.next hb)
    clear hb
    have e8 : decide ((8 : Int) < (nX : Int)) = false := decide_eq_false (by have := HYl.out; have := HNlX.out; omega)
    have hS8 : IntKind.i64.wrap (s + 8) = s + 8 := wrap_in19 (by have := HSb.out; omega) (by have := HSb.out; omega)
    cases q with
    | false =>
      obtain ⟨rfl, rfl, rfl⟩ := HNo.out rfl
      clear HNo HYes
      obtain ⟨x0, x1, x2⟩ := rcs KR.out
      obtain ⟨y0, y1, y2⟩ := rcs KX.out
      go_wp2_with fail
      clear x0 x1 x2 y0 y1 y2
      refine (impl_er OX.out.rd OR.out.rd (Nat.le_refl _) (Nat.le_refl _)).mono ?_
      rw [er_self]
      rintro e w5 ⟨rfl, hb⟩
      replace HB := Lib.hid (HB.out.trans (hb.mono HB.out.size))
      replace KR := Lib.hid (rstand KR.out hb)
      replace OR := Lib.hid (OR.out.next hb)
      replace KX := Lib.hid (rstand KX.out hb)
      replace OX := Lib.hid (OX.out.next hb)
      clear hb
      obtain ⟨x0, x1, x2⟩ := rcs KR.out
      obtain ⟨y0, y1, y2⟩ := rcs KX.out
      cases hfar : decide (S + 8 < t) with
      | true =>
        go_wp2_with fail
        clear x0 x1 x2 y0 y1 y2 hfar
        clear e8 hS8
        obtain ⟨x0, x1, x2⟩ := rcs KR.out
        go_wp2_with fail
        clear x0 x1 x2
        refine (impl_ad OR.out.rd (Nat.le_refl _) HCw.out HSw.out HXl.out).mono ?_
        obtain ⟨f, hf⟩ : ∃ f, f = adq C S ys := ⟨_, rfl⟩
        obtain ⟨m2, hm2⟩ : ∃ m, m = adM C S ys := ⟨_, rfl⟩
        obtain ⟨C2, hC2⟩ : ∃ m, m = adC C S ys := ⟨_, rfl⟩
        obtain ⟨S2, hS2⟩ : ∃ m, m = adS C S ys := ⟨_, rfl⟩
        have hav := HAdv.out
        rw [← hm2, ← hC2, ← hS2, ← hf] at hav
        rw [← hm2, ← hC2, ← hS2, ← hf]
        have HAv := Lib.hid hav
        clear hm2 hC2 hS2 hf hav HAdv
        rintro e w7 ⟨v, rfl, hO, hb⟩
        replace HB := Lib.hid (HB.out.trans (hb.mono HB.out.size))
        replace KR := Lib.hid (rstand KR.out hb)
        replace OR := Lib.hid (OR.out.next hb)
        replace KX := Lib.hid (rstand KX.out hb)
        replace OX := Lib.hid (OX.out.next hb)
        clear hb
        obtain ⟨aY, cY, hv, _⟩ := hO.open
        subst hv
        obtain ⟨nY, hnlY⟩ : ∃ x, x = ys.length := ⟨_, rfl⟩
        rw [← hnlY] at hO ⊢
        have hE := heap_alloc_new w7 (.cells #[.int .i64 C2, .int .i64 S2, .slice aY nY cY] 26)
        have hb : Below w7.heap.size w7 (w7.alloc (.cells #[.int .i64 C2, .int .i64 S2, .slice aY nY cY] 26)) := (Below.refl _ _).alloc (Nat.le_refl _) _
        obtain ⟨v7, hWN⟩ : ∃ W, W = w7.alloc (.cells #[.int .i64 C2, .int .i64 S2, .slice aY nY cY] 26) := ⟨_, rfl⟩
        obtain ⟨Y, hGN⟩ : ∃ G, G = w7.heap.size := ⟨_, rfl⟩
        rw [← hWN] at hE hb
        rw [← hGN] at hE
        have KY := Lib.hid hE
        have OY := Lib.hid (hO.next hb)
        have HNlY := Lib.hid hnlY
        have HWY := Lib.hid hWN
        have HGnY := Lib.hid hGN
        replace HB := Lib.hid (HB.out.trans (hb.mono HB.out.size))
        replace KR := Lib.hid (rstand KR.out hb)
        replace OR := Lib.hid (OR.out.next hb)
        replace KX := Lib.hid (rstand KX.out hb)
        replace OX := Lib.hid (OX.out.next hb)
        clear hb
        clear hE hO hWN hGN hnlY
        obtain ⟨x0, x1, x2⟩ := rcs KR.out
        go_wp2_with (rw [← HWY.out, ← HGnY.out])
        clear x0 x1 x2
        refine (impl_kf OR.out.rd (Nat.le_refl _) HCw.out HSw.out HSw.out HXl.out).mono ?_
        rw [HAv.out.1]
        obtain ⟨m3, hm3⟩ : ∃ m, m = kfM C S ys S := ⟨_, rfl⟩
        obtain ⟨C3, hC3⟩ : ∃ m, m = kfC C S ys S := ⟨_, rfl⟩
        obtain ⟨S3, hS3⟩ : ∃ m, m = kfS C S ys S := ⟨_, rfl⟩
        obtain ⟨zs3, hzs3⟩ : ∃ m, m = kfL C S ys S := ⟨_, rfl⟩
        have hav := HAv.out.2
        rw [← hm3, ← hC3, ← hS3] at hav
        rw [← hm3, ← hC3, ← hS3, ← hzs3]
        clear hm3 hC3 hS3 hzs3 HAv
        have HAv := Lib.hid hav
        clear hav
        rintro e w8 ⟨v, rfl, hO, hb⟩
        replace HB := Lib.hid (HB.out.trans (hb.mono HB.out.size))
        replace KR := Lib.hid (rstand KR.out hb)
        replace OR := Lib.hid (OR.out.next hb)
        replace KX := Lib.hid (rstand KX.out hb)
        replace OX := Lib.hid (OX.out.next hb)
        replace KY := Lib.hid (rstand KY.out hb)
        clear hb
        obtain ⟨aZ, cZ, hv, _⟩ := hO.open
        subst hv
        obtain ⟨nZ, hnlZ⟩ : ∃ x, x = zs3.length := ⟨_, rfl⟩
        rw [← hnlZ] at hO ⊢
        have hE := heap_alloc_new w8 (.cells #[.int .i64 C3, .int .i64 S3, .slice aZ nZ cZ] 26)
        have hb : Below w8.heap.size w8 (w8.alloc (.cells #[.int .i64 C3, .int .i64 S3, .slice aZ nZ cZ] 26)) := (Below.refl _ _).alloc (Nat.le_refl _) _
        obtain ⟨v8, hWN⟩ : ∃ W, W = w8.alloc (.cells #[.int .i64 C3, .int .i64 S3, .slice aZ nZ cZ] 26) := ⟨_, rfl⟩
        obtain ⟨Z, hGN⟩ : ∃ G, G = w8.heap.size := ⟨_, rfl⟩
        rw [← hWN] at hE hb
        rw [← hGN] at hE
        have KZ := Lib.hid hE
        have OZ := Lib.hid (hO.next hb)
        have HNlZ := Lib.hid hnlZ
        have HWZ := Lib.hid hWN
        have HGnZ := Lib.hid hGN
        replace HB := Lib.hid (HB.out.trans (hb.mono HB.out.size))
        replace KR := Lib.hid (rstand KR.out hb)
        replace OR := Lib.hid (OR.out.next hb)
        replace KX := Lib.hid (rstand KX.out hb)
        replace OX := Lib.hid (OX.out.next hb)
        replace KY := Lib.hid (rstand KY.out hb)
        clear hb
        clear hE hO hWN hGN hnlZ
        obtain ⟨x0, x1, x2⟩ := rcs KY.out
        obtain ⟨y0, y1, y2⟩ := rcs KZ.out
        cases f with
        | true =>
          obtain ⟨rfl, rfl, rfl⟩ := HAv.out rfl
          go_wp2_with (rw [← HWZ.out, ← HGnZ.out])
          go_ret
          exact ⟨rfl, HB.out⟩
        | false =>
          go_wp2_with (rw [← HWZ.out, ← HGnZ.out])
          go_ret
          exact ⟨rfl, HB.out⟩
      | false =>
        go_wp2_with fail
        clear x0 x1 x2 y0 y1 y2 hfar
        clear e8 hS8
        obtain ⟨x0, x1, x2⟩ := rcs KR.out
        go_wp2_with fail
        clear x0 x1 x2
        refine (impl_ad OR.out.rd (Nat.le_refl _) HCw.out HSw.out HXl.out).mono ?_
        obtain ⟨f, hf⟩ : ∃ f, f = adq C S ys := ⟨_, rfl⟩
        obtain ⟨m2, hm2⟩ : ∃ m, m = adM C S ys := ⟨_, rfl⟩
        obtain ⟨C2, hC2⟩ : ∃ m, m = adC C S ys := ⟨_, rfl⟩
        obtain ⟨S2, hS2⟩ : ∃ m, m = adS C S ys := ⟨_, rfl⟩
        have hav := HAdv.out
        rw [← hm2, ← hC2, ← hS2, ← hf] at hav
        rw [← hm2, ← hC2, ← hS2, ← hf]
        have HAv := Lib.hid hav
        clear hm2 hC2 hS2 hf hav HAdv
        rintro e w7 ⟨v, rfl, hO, hb⟩
        replace HB := Lib.hid (HB.out.trans (hb.mono HB.out.size))
        replace KR := Lib.hid (rstand KR.out hb)
        replace OR := Lib.hid (OR.out.next hb)
        replace KX := Lib.hid (rstand KX.out hb)
        replace OX := Lib.hid (OX.out.next hb)
        clear hb
        obtain ⟨aY, cY, hv, _⟩ := hO.open
        subst hv
        obtain ⟨nY, hnlY⟩ : ∃ x, x = ys.length := ⟨_, rfl⟩
        rw [← hnlY] at hO ⊢
        have hE := heap_alloc_new w7 (.cells #[.int .i64 C2, .int .i64 S2, .slice aY nY cY] 26)
        have hb : Below w7.heap.size w7 (w7.alloc (.cells #[.int .i64 C2, .int .i64 S2, .slice aY nY cY] 26)) := (Below.refl _ _).alloc (Nat.le_refl _) _
        obtain ⟨v7, hWN⟩ : ∃ W, W = w7.alloc (.cells #[.int .i64 C2, .int .i64 S2, .slice aY nY cY] 26) := ⟨_, rfl⟩
        obtain ⟨Y, hGN⟩ : ∃ G, G = w7.heap.size := ⟨_, rfl⟩
        rw [← hWN] at hE hb
        rw [← hGN] at hE
        have KY := Lib.hid hE
        have OY := Lib.hid (hO.next hb)
        have HNlY := Lib.hid hnlY
        have HWY := Lib.hid hWN
        have HGnY := Lib.hid hGN
        replace HB := Lib.hid (HB.out.trans (hb.mono HB.out.size))
        replace KR := Lib.hid (rstand KR.out hb)
        replace OR := Lib.hid (OR.out.next hb)
        replace KX := Lib.hid (rstand KX.out hb)
        replace OX := Lib.hid (OX.out.next hb)
        clear hb
        clear hE hO hWN hGN hnlY
        obtain ⟨x0, x1, x2⟩ := rcs KR.out
        go_wp2_with (rw [← HWY.out, ← HGnY.out])
        clear x0 x1 x2
        refine (impl_kf OR.out.rd (Nat.le_refl _) HCw.out HSw.out HSw.out HXl.out).mono ?_
        rw [HAv.out.1]
        obtain ⟨m3, hm3⟩ : ∃ m, m = kfM C S ys S := ⟨_, rfl⟩
        obtain ⟨C3, hC3⟩ : ∃ m, m = kfC C S ys S := ⟨_, rfl⟩
        obtain ⟨S3, hS3⟩ : ∃ m, m = kfS C S ys S := ⟨_, rfl⟩
        obtain ⟨zs3, hzs3⟩ : ∃ m, m = kfL C S ys S := ⟨_, rfl⟩
        have hav := HAv.out.2
        rw [← hm3, ← hC3, ← hS3] at hav
        rw [← hm3, ← hC3, ← hS3, ← hzs3]
        clear hm3 hC3 hS3 hzs3 HAv
        have HAv := Lib.hid hav
        clear hav
        rintro e w8 ⟨v, rfl, hO, hb⟩
        replace HB := Lib.hid (HB.out.trans (hb.mono HB.out.size))
        replace KR := Lib.hid (rstand KR.out hb)
        replace OR := Lib.hid (OR.out.next hb)
        replace KX := Lib.hid (rstand KX.out hb)
        replace OX := Lib.hid (OX.out.next hb)
        replace KY := Lib.hid (rstand KY.out hb)
        clear hb
        obtain ⟨aZ, cZ, hv, _⟩ := hO.open
        subst hv
        obtain ⟨nZ, hnlZ⟩ : ∃ x, x = zs3.length := ⟨_, rfl⟩
        rw [← hnlZ] at hO ⊢
        have hE := heap_alloc_new w8 (.cells #[.int .i64 C3, .int .i64 S3, .slice aZ nZ cZ] 26)
        have hb : Below w8.heap.size w8 (w8.alloc (.cells #[.int .i64 C3, .int .i64 S3, .slice aZ nZ cZ] 26)) := (Below.refl _ _).alloc (Nat.le_refl _) _
        obtain ⟨v8, hWN⟩ : ∃ W, W = w8.alloc (.cells #[.int .i64 C3, .int .i64 S3, .slice aZ nZ cZ] 26) := ⟨_, rfl⟩
        obtain ⟨Z, hGN⟩ : ∃ G, G = w8.heap.size := ⟨_, rfl⟩
        rw [← hWN] at hE hb
        rw [← hGN] at hE
        have KZ := Lib.hid hE
        have OZ := Lib.hid (hO.next hb)
        have HNlZ := Lib.hid hnlZ
        have HWZ := Lib.hid hWN
        have HGnZ := Lib.hid hGN
        replace HB := Lib.hid (HB.out.trans (hb.mono HB.out.size))
        replace KR := Lib.hid (rstand KR.out hb)
        replace OR := Lib.hid (OR.out.next hb)
        replace KX := Lib.hid (rstand KX.out hb)
        replace OX := Lib.hid (OX.out.next hb)
        replace KY := Lib.hid (rstand KY.out hb)
        clear hb
        clear hE hO hWN hGN hnlZ
        obtain ⟨x0, x1, x2⟩ := rcs KY.out
        obtain ⟨y0, y1, y2⟩ := rcs KZ.out
        cases f with
        | true =>
          obtain ⟨rfl, rfl, rfl⟩ := HAv.out rfl
          go_wp2_with (rw [← HWZ.out, ← HGnZ.out])
          go_ret
          exact ⟨rfl, HB.out⟩
        | false =>
          go_wp2_with (rw [← HWZ.out, ← HGnZ.out])
          go_ret
          exact ⟨rfl, HB.out⟩
    | true =>
      obtain ⟨hk1, hk2, hk3⟩ := HYes.out rfl
      have HK1 := Lib.hid hk1
      have HK2 := Lib.hid hk2
      have hfar : decide (s + 8 < t) = false := decide_eq_false (by omega)
      clear HNo HYes hk1 hk2 hk3
      obtain ⟨x0, x1, x2⟩ := rcs KR.out
      obtain ⟨y0, y1, y2⟩ := rcs KX.out
      go_wp2_with fail
      clear x0 x1 x2 y0 y1 y2
      refine (spec_vk HMw.out).mono ?_
      rw [HK1.out]
      rintro e w5 ⟨rfl, hw⟩
      obtain rfl : w4 = w5 := hw.symm
      clear hw
      obtain ⟨x0, x1, x2⟩ := rcs KR.out
      obtain ⟨y0, y1, y2⟩ := rcs KX.out
      by_cases hst : s ≤ t
      · have e9 : decide (s ≤ t) = true := decide_eq_true hst
        obtain ⟨rfl, ht1⟩ := HK2.out hst
        have ht2 : IntKind.i64.wrap (t + 1) = t + 1 := wrap_in19 (by have := HSb.out; omega) (by have := HSb.out; omega)
        clear hst HK2 ht1
        go_wp2_with fail
        clear x0 x1 x2 y0 y1 y2 hfar e9 ht2
        clear e8 hS8
        obtain ⟨x0, x1, x2⟩ := rcs KR.out
        go_wp2_with fail
        clear x0 x1 x2
        refine (impl_ad OR.out.rd (Nat.le_refl _) HCw.out HSw.out HXl.out).mono ?_
        obtain ⟨f, hf⟩ : ∃ f, f = adq c s xs := ⟨_, rfl⟩
        obtain ⟨m2, hm2⟩ : ∃ m, m = adM c s xs := ⟨_, rfl⟩
        obtain ⟨C2, hC2⟩ : ∃ m, m = adC c s xs := ⟨_, rfl⟩
        obtain ⟨S2, hS2⟩ : ∃ m, m = adS c s xs := ⟨_, rfl⟩
        have hav := HAdv.out
        rw [← hm2, ← hC2, ← hS2, ← hf] at hav
        rw [← hm2, ← hC2, ← hS2, ← hf]
        have HAv := Lib.hid hav
        clear hm2 hC2 hS2 hf hav HAdv
        rintro e w7 ⟨v, rfl, hO, hb⟩
        replace HB := Lib.hid (HB.out.trans (hb.mono HB.out.size))
        replace KR := Lib.hid (rstand KR.out hb)
        replace OR := Lib.hid (OR.out.next hb)
        replace KX := Lib.hid (rstand KX.out hb)
        replace OX := Lib.hid (OX.out.next hb)
        clear hb
        obtain ⟨aY, cY, hv, _⟩ := hO.open
        subst hv
        obtain ⟨nY, hnlY⟩ : ∃ x, x = xs.length := ⟨_, rfl⟩
        rw [← hnlY] at hO ⊢
        have hE := heap_alloc_new w7 (.cells #[.int .i64 C2, .int .i64 S2, .slice aY nY cY] 26)
        have hb : Below w7.heap.size w7 (w7.alloc (.cells #[.int .i64 C2, .int .i64 S2, .slice aY nY cY] 26)) := (Below.refl _ _).alloc (Nat.le_refl _) _
        obtain ⟨v7, hWN⟩ : ∃ W, W = w7.alloc (.cells #[.int .i64 C2, .int .i64 S2, .slice aY nY cY] 26) := ⟨_, rfl⟩
        obtain ⟨Y, hGN⟩ : ∃ G, G = w7.heap.size := ⟨_, rfl⟩
        rw [← hWN] at hE hb
        rw [← hGN] at hE
        have KY := Lib.hid hE
        have OY := Lib.hid (hO.next hb)
        have HNlY := Lib.hid hnlY
        have HWY := Lib.hid hWN
        have HGnY := Lib.hid hGN
        replace HB := Lib.hid (HB.out.trans (hb.mono HB.out.size))
        replace KR := Lib.hid (rstand KR.out hb)
        replace OR := Lib.hid (OR.out.next hb)
        replace KX := Lib.hid (rstand KX.out hb)
        replace OX := Lib.hid (OX.out.next hb)
        clear hb
        clear hE hO hWN hGN hnlY
        obtain ⟨x0, x1, x2⟩ := rcs KR.out
        go_wp2_with (rw [← HWY.out, ← HGnY.out])
        clear x0 x1 x2
        refine (impl_kf OR.out.rd (Nat.le_refl _) HCw.out HSw.out HSw.out HXl.out).mono ?_
        rw [HAv.out.1]
        obtain ⟨m3, hm3⟩ : ∃ m, m = kfM c s xs s := ⟨_, rfl⟩
        obtain ⟨C3, hC3⟩ : ∃ m, m = kfC c s xs s := ⟨_, rfl⟩
        obtain ⟨S3, hS3⟩ : ∃ m, m = kfS c s xs s := ⟨_, rfl⟩
        obtain ⟨zs3, hzs3⟩ : ∃ m, m = kfL c s xs s := ⟨_, rfl⟩
        have hav := HAv.out.2
        rw [← hm3, ← hC3, ← hS3] at hav
        rw [← hm3, ← hC3, ← hS3, ← hzs3]
        clear hm3 hC3 hS3 hzs3 HAv
        have HAv := Lib.hid hav
        clear hav
        rintro e w8 ⟨v, rfl, hO, hb⟩
        replace HB := Lib.hid (HB.out.trans (hb.mono HB.out.size))
        replace KR := Lib.hid (rstand KR.out hb)
        replace OR := Lib.hid (OR.out.next hb)
        replace KX := Lib.hid (rstand KX.out hb)
        replace OX := Lib.hid (OX.out.next hb)
        replace KY := Lib.hid (rstand KY.out hb)
        clear hb
        obtain ⟨aZ, cZ, hv, _⟩ := hO.open
        subst hv
        obtain ⟨nZ, hnlZ⟩ : ∃ x, x = zs3.length := ⟨_, rfl⟩
        rw [← hnlZ] at hO ⊢
        have hE := heap_alloc_new w8 (.cells #[.int .i64 C3, .int .i64 S3, .slice aZ nZ cZ] 26)
        have hb : Below w8.heap.size w8 (w8.alloc (.cells #[.int .i64 C3, .int .i64 S3, .slice aZ nZ cZ] 26)) := (Below.refl _ _).alloc (Nat.le_refl _) _
        obtain ⟨v8, hWN⟩ : ∃ W, W = w8.alloc (.cells #[.int .i64 C3, .int .i64 S3, .slice aZ nZ cZ] 26) := ⟨_, rfl⟩
        obtain ⟨Z, hGN⟩ : ∃ G, G = w8.heap.size := ⟨_, rfl⟩
        rw [← hWN] at hE hb
        rw [← hGN] at hE
        have KZ := Lib.hid hE
        have OZ := Lib.hid (hO.next hb)
        have HNlZ := Lib.hid hnlZ
        have HWZ := Lib.hid hWN
        have HGnZ := Lib.hid hGN
        replace HB := Lib.hid (HB.out.trans (hb.mono HB.out.size))
        replace KR := Lib.hid (rstand KR.out hb)
        replace OR := Lib.hid (OR.out.next hb)
        replace KX := Lib.hid (rstand KX.out hb)
        replace OX := Lib.hid (OX.out.next hb)
        replace KY := Lib.hid (rstand KY.out hb)
        clear hb
        clear hE hO hWN hGN hnlZ
        obtain ⟨x0, x1, x2⟩ := rcs KY.out
        obtain ⟨y0, y1, y2⟩ := rcs KZ.out
        cases f with
        | true =>
          obtain ⟨rfl, rfl, rfl⟩ := HAv.out rfl
          go_wp2_with (rw [← HWZ.out, ← HGnZ.out])
          go_ret
          exact ⟨rfl, HB.out⟩
        | false =>
          go_wp2_with (rw [← HWZ.out, ← HGnZ.out])
          go_ret
          exact ⟨rfl, HB.out⟩
      · have e9 : decide (s ≤ t) = false := decide_eq_false hst
        clear hst HK2
        go_wp2_with fail
        clear x0 x1 x2 y0 y1 y2 hfar e9
        clear e8 hS8
        obtain ⟨x0, x1, x2⟩ := rcs KR.out
        go_wp2_with fail
        clear x0 x1 x2
        refine (impl_ad OR.out.rd (Nat.le_refl _) HCw.out HSw.out HXl.out).mono ?_
        obtain ⟨f, hf⟩ : ∃ f, f = adq c s xs := ⟨_, rfl⟩
        obtain ⟨m2, hm2⟩ : ∃ m, m = adM c s xs := ⟨_, rfl⟩
        obtain ⟨C2, hC2⟩ : ∃ m, m = adC c s xs := ⟨_, rfl⟩
        obtain ⟨S2, hS2⟩ : ∃ m, m = adS c s xs := ⟨_, rfl⟩
        have hav := HAdv.out
        rw [← hm2, ← hC2, ← hS2, ← hf] at hav
        rw [← hm2, ← hC2, ← hS2, ← hf]
        have HAv := Lib.hid hav
        clear hm2 hC2 hS2 hf hav HAdv
        rintro e w7 ⟨v, rfl, hO, hb⟩
        replace HB := Lib.hid (HB.out.trans (hb.mono HB.out.size))
        replace KR := Lib.hid (rstand KR.out hb)
        replace OR := Lib.hid (OR.out.next hb)
        replace KX := Lib.hid (rstand KX.out hb)
        replace OX := Lib.hid (OX.out.next hb)
        clear hb
        obtain ⟨aY, cY, hv, _⟩ := hO.open
        subst hv
        obtain ⟨nY, hnlY⟩ : ∃ x, x = xs.length := ⟨_, rfl⟩
        rw [← hnlY] at hO ⊢
        have hE := heap_alloc_new w7 (.cells #[.int .i64 C2, .int .i64 S2, .slice aY nY cY] 26)
        have hb : Below w7.heap.size w7 (w7.alloc (.cells #[.int .i64 C2, .int .i64 S2, .slice aY nY cY] 26)) := (Below.refl _ _).alloc (Nat.le_refl _) _
        obtain ⟨v7, hWN⟩ : ∃ W, W = w7.alloc (.cells #[.int .i64 C2, .int .i64 S2, .slice aY nY cY] 26) := ⟨_, rfl⟩
        obtain ⟨Y, hGN⟩ : ∃ G, G = w7.heap.size := ⟨_, rfl⟩
        rw [← hWN] at hE hb
        rw [← hGN] at hE
        have KY := Lib.hid hE
        have OY := Lib.hid (hO.next hb)
        have HNlY := Lib.hid hnlY
        have HWY := Lib.hid hWN
        have HGnY := Lib.hid hGN
        replace HB := Lib.hid (HB.out.trans (hb.mono HB.out.size))
        replace KR := Lib.hid (rstand KR.out hb)
        replace OR := Lib.hid (OR.out.next hb)
        replace KX := Lib.hid (rstand KX.out hb)
        replace OX := Lib.hid (OX.out.next hb)
        clear hb
        clear hE hO hWN hGN hnlY
        obtain ⟨x0, x1, x2⟩ := rcs KR.out
        go_wp2_with (rw [← HWY.out, ← HGnY.out])
        clear x0 x1 x2
        refine (impl_kf OR.out.rd (Nat.le_refl _) HCw.out HSw.out HSw.out HXl.out).mono ?_
        rw [HAv.out.1]
        obtain ⟨m3, hm3⟩ : ∃ m, m = kfM c s xs s := ⟨_, rfl⟩
        obtain ⟨C3, hC3⟩ : ∃ m, m = kfC c s xs s := ⟨_, rfl⟩
        obtain ⟨S3, hS3⟩ : ∃ m, m = kfS c s xs s := ⟨_, rfl⟩
        obtain ⟨zs3, hzs3⟩ : ∃ m, m = kfL c s xs s := ⟨_, rfl⟩
        have hav := HAv.out.2
        rw [← hm3, ← hC3, ← hS3] at hav
        rw [← hm3, ← hC3, ← hS3, ← hzs3]
        clear hm3 hC3 hS3 hzs3 HAv
        have HAv := Lib.hid hav
        clear hav
        rintro e w8 ⟨v, rfl, hO, hb⟩
        replace HB := Lib.hid (HB.out.trans (hb.mono HB.out.size))
        replace KR := Lib.hid (rstand KR.out hb)
        replace OR := Lib.hid (OR.out.next hb)
        replace KX := Lib.hid (rstand KX.out hb)
        replace OX := Lib.hid (OX.out.next hb)
        replace KY := Lib.hid (rstand KY.out hb)
        clear hb
        obtain ⟨aZ, cZ, hv, _⟩ := hO.open
        subst hv
        obtain ⟨nZ, hnlZ⟩ : ∃ x, x = zs3.length := ⟨_, rfl⟩
        rw [← hnlZ] at hO ⊢
        have hE := heap_alloc_new w8 (.cells #[.int .i64 C3, .int .i64 S3, .slice aZ nZ cZ] 26)
        have hb : Below w8.heap.size w8 (w8.alloc (.cells #[.int .i64 C3, .int .i64 S3, .slice aZ nZ cZ] 26)) := (Below.refl _ _).alloc (Nat.le_refl _) _
        obtain ⟨v8, hWN⟩ : ∃ W, W = w8.alloc (.cells #[.int .i64 C3, .int .i64 S3, .slice aZ nZ cZ] 26) := ⟨_, rfl⟩
        obtain ⟨Z, hGN⟩ : ∃ G, G = w8.heap.size := ⟨_, rfl⟩
        rw [← hWN] at hE hb
        rw [← hGN] at hE
        have KZ := Lib.hid hE
        have OZ := Lib.hid (hO.next hb)
        have HNlZ := Lib.hid hnlZ
        have HWZ := Lib.hid hWN
        have HGnZ := Lib.hid hGN
        replace HB := Lib.hid (HB.out.trans (hb.mono HB.out.size))
        replace KR := Lib.hid (rstand KR.out hb)
        replace OR := Lib.hid (OR.out.next hb)
        replace KX := Lib.hid (rstand KX.out hb)
        replace OX := Lib.hid (OX.out.next hb)
        replace KY := Lib.hid (rstand KY.out hb)
        clear hb
        clear hE hO hWN hGN hnlZ
        obtain ⟨x0, x1, x2⟩ := rcs KY.out
        obtain ⟨y0, y1, y2⟩ := rcs KZ.out
        cases f with
        | true =>
          obtain ⟨rfl, rfl, rfl⟩ := HAv.out rfl
          go_wp2_with (rw [← HWZ.out, ← HGnZ.out])
          go_ret
          exact ⟨rfl, HB.out⟩
        | false =>
          go_wp2_with (rw [← HWZ.out, ← HGnZ.out])
          go_ret
          exact ⟨rfl, HB.out⟩

end Go.Proofs.Ytlbijjifeaimjaa
