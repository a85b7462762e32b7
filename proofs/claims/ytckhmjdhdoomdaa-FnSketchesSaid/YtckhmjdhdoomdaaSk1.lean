/- Checks of writes: challenges, field vectors, lengths, what is accepted; the program's and the document's. No conditions but numbers that a machine holds. -/
import Derived.Test.YtckhmjdhdoomdaaSkN
import Derived.Test.YtckhmjdhdoomdaaSh1
import Derived.Test.YtckhmjdhdoomdaaBa6
namespace Go.Proofs.Ytckhmjdhdoomdaa
open Go Go.RowKit
set_option linter.unusedVariables false
attribute [local irreducible] kh kid

theorem modV_1018 (x : Int) : modV x 1018 = x % 1018 := if_pos (by omega)
theorem wrap64_wf (x : Int) : (Lit.int .i64 (wrap64 x)).wf = true := wf_i64_of (by unfold wrap64; omega) (by unfold wrap64; omega)
theorem chl_wf (s c : Int) : (Lit.int .i64 (chl s c)).wf = true := by
  have := chl_bound s c
  revert this
  generalize chl s c = q
  intro h
  exact wf_i64_of (by omega) (by omega)

/-- impl.Challenge. -/
theorem impl_ch {w : World} {s c : Int} (hs : (Lit.int .i64 s).wf = true) (hc : (Lit.int .i64 c).wf = true) :
    Calls Try.prog 19 #[.int .i64 s, .int .i64 c] w fun e w' => e = .returned (.int .i64 (chl s (wrap64 (7000 + c)))) ∧ Below w.heap.size w w' := by
  have HS := Lib.hid hs
  have HW := Lib.hid (wrap64_wf (7000 + c))
  have HE : Hid (chl s (wrap64 (7000 + c)) = 1 + kid s (wrap64 (7000 + c)) % 1018) := Lib.hid (chl_eq _ _)
  have HK := Lib.hid (kid_bound s (wrap64 (7000 + c)))
  clear hs hc
  go_enter Try.func19, Try.ntmps19
  go_wp2_with fail
  refine (impl_cs HS.out HW.out).mono ?_
  obtain ⟨q, hq⟩ : ∃ q, q = kid s (wrap64 (7000 + c)) := ⟨_, rfl⟩
  rw [← hq] at HK HE ⊢
  have HQ := Lib.hid hq
  clear hq
  rintro e w1 ⟨rfl, hb⟩
  have HB := Lib.hid hb
  clear hb
  go_wp2_with fail
  refine (impl_mod _ _ _ (by have := HK.out; omega) (by have := HK.out; omega)).mono ?_
  rw [modV_1018]
  obtain ⟨p, hp⟩ : ∃ p, p = q % 1018 := ⟨_, rfl⟩
  rw [← hp] at HE ⊢
  have hpb : 0 ≤ p ∧ p ≤ 1017 := by omega
  clear hp
  rintro e w2 ⟨rfl, hw⟩
  subst hw
  go_wp2_with fail
  go_ret
  exact ⟨rint HE.out.symm, HB.out⟩

/-- spec.Challenge. -/
theorem spec_ch {w : World} {s c : Int} (hs : (Lit.int .i64 s).wf = true) (hc : (Lit.int .i64 c).wf = true) :
    Calls Try.prog 23 #[.int .i64 s, .int .i64 c] w fun e w' => e = .returned (.int .i64 (chl s (wrap64 (7000 + c)))) ∧ Below w.heap.size w w' := by
  have HS := Lib.hid hs
  have HW := Lib.hid (wrap64_wf (7000 + c))
  have HE : Hid (chl s (wrap64 (7000 + c)) = 1 + kid s (wrap64 (7000 + c)) % 1018) := Lib.hid (chl_eq _ _)
  have HK := Lib.hid (kid_bound s (wrap64 (7000 + c)))
  clear hs hc
  go_enter Try.func23, Try.ntmps23
  go_wp2_with fail
  refine (spec_cs HS.out HW.out).mono ?_
  obtain ⟨q, hq⟩ : ∃ q, q = kid s (wrap64 (7000 + c)) := ⟨_, rfl⟩
  rw [← hq] at HK HE ⊢
  have HQ := Lib.hid hq
  have hk := HK.out
  clear hq HK
  rintro e w1 ⟨rfl, hb⟩
  have HB := Lib.hid hb
  clear hb
  go_wp2_with fail
  go_ret
  exact ⟨rint HE.out.symm, HB.out⟩

theorem fitS_any {w : World} {a : Option Addr} {n cap : Nat} (hn : n ≤ 9223372036854775807) : Calls Try.prog 40 #[.slice a n cap] w fun e w' => e = .returned (.bool (inR (n : Int) 2 4)) ∧ w' = w := by
  go_enter Try.func40, Try.ntmps40
  go_wp2_with fail
  refine (impl_in _ _ _ _ (wf_i64_of (by omega) (by omega))).mono ?_
  rintro e w1 ⟨rfl, hw⟩
  subst hw
  go_wp2_with fail
  go_ret
  exact ⟨rfl, rfl⟩

set_option maxHeartbeats 1000000 in
/-- impl.haveOneLength, of numbers. -/
theorem holI_any {lim : Nat} {w : World} {v : Value} {zss : List (List Int)} (h : Rd2 lim .i64 w v zss) (hlim : lim ≤ w.heap.size) :
    Calls Try.prog 41 #[v] w fun e w' => e = .returned (.bool (same zss)) ∧ w' = w := by
  obtain ⟨q, hq⟩ : ∃ q, q = same zss := ⟨_, rfl⟩
  rw [← hq]
  have Hq := Lib.hid hq
  obtain ⟨a, cap, rfl, h1, h2, hc⟩ := h.open
  have Hc := Lib.hid hc
  unfold maxLen at h2
  clear h hc hq
  go_enter Try.func41, Try.ntmps41
  go_wp2_with fail
  go_loopw [7] (fun i wr => ∃ j : Nat, i = .int .i64 j ∧ j ≤ zss.length ∧ (∀ i, i < j → (zss.getD i []).length = (zss.getD 0 []).length) ∧ wr = w) (fun i _ => zss.length - (intOf i).toNat)
  case atStart => exact ⟨0, rfl, Nat.zero_le _, fun i hi => by omega, rfl⟩
  case round =>
    obtain ⟨j, rfl, hj, hs, rfl⟩ := hrel
    have HS := Lib.hid hs
    clear hs
    by_cases hlt : j < zss.length
    · have e1 : decide ((j : Int) < (zss.length : Int)) = true := by simp; omega
      have hpos : 0 < zss.length := by omega
      obtain ⟨b, o, rfl, hbl, hcell⟩ := Hc.out hpos
      obtain ⟨z0, hz0⟩ : ∃ zs, zss[0]? = some zs := ⟨_, List.getElem?_eq_getElem hpos⟩
      obtain ⟨u0, c0, hr0⟩ := hcell _ (Below.refl _ _) 0 z0 hz0
      obtain ⟨a0, k0, rfl, _⟩ := hr0.open
      obtain ⟨zs, hzs⟩ : ∃ zs, zss[j]? = some zs := ⟨_, List.getElem?_eq_getElem hlt⟩
      obtain ⟨u, c1, hr⟩ := hcell _ (Below.refl _ _) j zs hzs
      obtain ⟨a1, k1, rfl, _⟩ := hr.open
      have hlz := hr.len
      have hlz0 := hr0.len
      unfold maxLen at hlz hlz0
      have HG : Hid ((zss.getD j []).length = zs.length ∧ (zss.getD 0 []).length = z0.length) := Lib.hid ⟨by rw [getD_of hzs], by rw [getD_of hz0]⟩
      rw [Nat.add_zero] at c0
      clear hcell hr hr0
      rcases Nat.eq_zero_or_pos j with hj0 | hp
      · subst hj0
        rw [hz0] at hzs
        injection hzs with hzs
        subst hzs
        rw [Nat.add_zero, c0] at c1
        clear c1 hz0
        go_wp2
        go_roundw
        case rel =>
          refine ⟨0 + 1, by simp, hlt, fun i hi => ?_, by first | rfl | trivial⟩
          obtain rfl : i = 0 := by omega
          rfl
        case measure => simp [intOf]; omega
      · clear hz0 hzs
        obtain ⟨L, hL⟩ : ∃ L, L = zs.length := ⟨_, rfl⟩
        obtain ⟨L0, hL0⟩ : ∃ L, L = z0.length := ⟨_, rfl⟩
        rw [← hL] at c1 HG hlz
        rw [← hL0] at c0 HG hlz0
        clear hL hL0
        by_cases he : L = L0
        · have e2 : ((L : Int) != (L0 : Int)) = false := by simp [he]
          have HE := Lib.hid he
          clear he
          go_wp2
          go_roundw
          case rel =>
            refine ⟨j + 1, by simp, hlt, fun i hi => ?_, by first | rfl | trivial⟩
            by_cases hij : i = j
            · subst hij; rw [HG.out.1, HG.out.2, HE.out]
            · exact HS.out i (by omega)
          case measure => simp [intOf]; omega
        · have e2 : ((L : Int) != (L0 : Int)) = true := by simp; omega
          have HE := Lib.hid he
          clear he
          go_wp2
          go_ret
          refine ⟨?_, rfl⟩
          have e : q = false := by rw [Hq.out]; exact decide_eq_false fun h => HE.out (by rw [← HG.out.1, ← HG.out.2]; exact h j hlt)
          rw [e]; rfl
    · have e1 : decide ((j : Int) < (zss.length : Int)) = false := by simp; omega
      go_wp2
      go_ret
      refine ⟨?_, rfl⟩
      have e : q = true := by rw [Hq.out]; exact decide_eq_true fun i hi => HS.out i (by omega)
      rw [e]; rfl


set_option maxHeartbeats 1000000 in
/-- impl.isFieldVector. -/
theorem ifv_any {lim : Nat} {w : World} {v : Value} {zs : List Int} (h : Rd lim .i64 w v zs) :
    Calls Try.prog 42 #[v] w fun e w' => e = .returned (.bool (fvec zs)) ∧ w' = w := by
  obtain ⟨q, hq⟩ : ∃ q, q = fvec zs := ⟨_, rfl⟩
  rw [← hq]
  have Hq := Lib.hid hq
  have H := Lib.hid h
  obtain ⟨a, cap, rfl, h1, h2, hc⟩ := h.open
  have Hc := Lib.hid hc
  unfold maxLen at h2
  clear h hc hq
  by_cases hl : zs.length ≤ 64
  · have e0 : decide ((zs.length : Int) > 64) = false := by simp; omega
    go_enter Try.func42, Try.ntmps42
    go_wp2_with fail
    go_loopw [10] (fun i wr => ∃ j : Nat, i = .int .i64 j ∧ j ≤ zs.length ∧ (∀ i, i < j → 0 ≤ zs.getD i 0 ∧ zs.getD i 0 ≤ 1018) ∧ wr = w) (fun i _ => zs.length - (intOf i).toNat)
    case atStart => exact ⟨0, rfl, Nat.zero_le _, fun i hi => by omega, rfl⟩
    case round =>
      obtain ⟨j, rfl, hj, hs, rfl⟩ := hrel
      have HS := Lib.hid hs
      clear hs
      by_cases hlt : j < zs.length
      · have e1 : decide ((j : Int) < (zs.length : Int)) = true := by simp; omega
        obtain ⟨b, o, rfl, hb, hcell⟩ := Hc.out (by omega)
        have c1 := hcell _ (Below.refl _ _) j hlt
        have HZ := Lib.hid (H.out.wf hlt)
        obtain ⟨z, hz⟩ : ∃ z, z = zs.getD j 0 := ⟨_, rfl⟩
        rw [← hz] at c1 HZ
        have HZz := Lib.hid hz
        clear hcell hz
        go_wp2_with fail
        refine (impl_in _ _ _ _ HZ.out).mono ?_
        by_cases hin : 0 ≤ z ∧ z ≤ 1018
        · have HI := Lib.hid hin
          rw [inR_yes hin]
          rintro e w1 ⟨rfl, hw⟩
          subst hw
          clear hin
          go_wp2_with fail
          go_roundw
          case rel =>
            refine ⟨j + 1, by simp, hlt, fun i hi => ?_, by first | rfl | trivial⟩
            by_cases hij : i = j
            · subst hij; rw [← HZz.out]; exact HI.out
            · exact HS.out i (by omega)
          case measure => simp [intOf]; omega
        · have HI := Lib.hid hin
          have hno : inR z 0 1018 = false := by unfold inR; simp; omega
          rw [hno]
          rintro e w1 ⟨rfl, hw⟩
          subst hw
          clear hin hno
          go_wp2_with fail
          go_ret
          refine ⟨?_, rfl⟩
          have e : q = false := by
            rw [Hq.out, Bool.eq_false_iff]
            exact fun e => HI.out (by rw [HZz.out]; exact (fvec_iff.1 e).2 j hlt)
          rw [e]; rfl
      · have e1 : decide ((j : Int) < (zs.length : Int)) = false := by simp; omega
        go_wp2
        go_ret
        refine ⟨?_, rfl⟩
        have e : q = true := by rw [Hq.out]; exact fvec_iff.2 ⟨hl, fun i hi => HS.out i (by omega)⟩
        rw [e]; rfl
  · have e0 : decide ((zs.length : Int) > 64) = true := by simp; omega
    have HL := Lib.hid hl
    go_enter Try.func42, Try.ntmps42
    go_wp2_with fail
    go_ret
    refine ⟨?_, rfl⟩
    have e : q = false := by rw [Hq.out, Bool.eq_false_iff]; exact fun e => HL.out (fvec_iff.1 e).1
    rw [e]; rfl

set_option maxHeartbeats 1000000 in
/-- spec.l12Ok. -/
theorem ok12_any {lim : Nat} {w : World} {v : Value} {zs : List Int} (h : Rd lim .i64 w v zs) :
    Calls Try.prog 50 #[v] w fun e w' => e = .returned (.bool (fvec zs)) ∧ w' = w := by
  obtain ⟨q, hq⟩ : ∃ q, q = fvec zs := ⟨_, rfl⟩
  rw [← hq]
  have Hq := Lib.hid hq
  have H := Lib.hid h
  obtain ⟨a, cap, rfl, h1, h2, hc⟩ := h.open
  have Hc := Lib.hid hc
  unfold maxLen at h2
  clear h hc hq
  go_enter Try.func50, Try.ntmps50
  go_wp2_with fail
  go_loopw [3] (fun i wr => ∃ j : Nat, i = .int .i64 j ∧ j ≤ zs.length ∧ (∀ i, i < j → 0 ≤ zs.getD i 0 ∧ zs.getD i 0 ≤ 1018) ∧ wr = w) (fun i _ => zs.length - (intOf i).toNat)
  case atStart => exact ⟨0, rfl, Nat.zero_le _, fun i hi => by omega, rfl⟩
  case round =>
    obtain ⟨j, rfl, hj, hs, rfl⟩ := hrel
    have HS := Lib.hid hs
    clear hs
    by_cases hlt : j < zs.length
    · have e1 : decide ((j : Int) < (zs.length : Int)) = true := by simp; omega
      obtain ⟨b, o, rfl, hb, hcell⟩ := Hc.out (by omega)
      have c1 := hcell _ (Below.refl _ _) j hlt
      have HZ := Lib.hid (H.out.wf hlt)
      obtain ⟨z, hz⟩ : ∃ z, z = zs.getD j 0 := ⟨_, rfl⟩
      rw [← hz] at c1 HZ
      have HZz := Lib.hid hz
      clear hcell hz
      go_wp2_with fail
      refine (spec_in _ _ _ _ HZ.out).mono ?_
      by_cases hin : 0 ≤ z ∧ z ≤ 1018
      · have HI := Lib.hid hin
        rw [inR_yes hin]
        rintro e w1 ⟨rfl, hw⟩
        subst hw
        clear hin
        go_wp2_with fail
        go_roundw
        case rel =>
          refine ⟨j + 1, by simp, hlt, fun i hi => ?_, by first | rfl | trivial⟩
          by_cases hij : i = j
          · subst hij; rw [← HZz.out]; exact HI.out
          · exact HS.out i (by omega)
        case measure => simp [intOf]; omega
      · have HI := Lib.hid hin
        have hno : inR z 0 1018 = false := by unfold inR; simp; omega
        rw [hno]
        rintro e w1 ⟨rfl, hw⟩
        subst hw
        clear hin hno
        go_wp2_with fail
        go_ret
        refine ⟨?_, rfl⟩
        have e : q = false := by
          rw [Hq.out, Bool.eq_false_iff]
          exact fun e => HI.out (by rw [HZz.out]; exact (fvec_iff.1 e).2 j hlt)
        rw [e]; rfl
    · have e1 : decide ((j : Int) < (zs.length : Int)) = false := by simp; omega
      by_cases hl : zs.length ≤ 64
      · have e0 : decide ((zs.length : Int) ≤ 64) = true := by simp; omega
        go_wp2
        go_ret
        refine ⟨?_, rfl⟩
        have e : q = true := by rw [Hq.out]; exact fvec_iff.2 ⟨hl, fun i hi => HS.out i (by omega)⟩
        rw [e]; rfl
      · have e0 : decide ((zs.length : Int) ≤ 64) = false := by simp; omega
        have HL := Lib.hid hl
        go_wp2
        go_ret
        refine ⟨?_, rfl⟩
        have e : q = false := by rw [Hq.out, Bool.eq_false_iff]; exact fun e => HL.out (fvec_iff.1 e).1
        rw [e]; rfl

theorem sq_bounds {x y : Int} (hx : 0 ≤ x ∧ x ≤ 1018) (hy : 0 ≤ y ∧ y ≤ 1018) : 0 ≤ x * y ∧ x * y ≤ 1036324 :=
  ⟨Int.mul_nonneg hx.1 hy.1, Int.le_trans (Int.mul_le_mul hx.2 hy.2 hy.1 (by decide)) (by decide)⟩

set_option maxHeartbeats 1000000 in
/-- impl.AcceptsSketch. -/
theorem impl_acc {w : World} {a b m : Int} (ha : (Lit.int .i64 a).wf = true) (hb : (Lit.int .i64 b).wf = true) (hm : (Lit.int .i64 m).wf = true) :
    Calls Try.prog 36 #[.int .i64 a, .int .i64 b, .int .i64 m] w fun e w' => e = .returned (.bool (acc a b m)) ∧ w' = w := by
  obtain ⟨q, hq⟩ : ∃ q, q = acc a b m := ⟨_, rfl⟩
  rw [← hq]
  unfold acc at hq
  have HA := Lib.hid ha
  have HB := Lib.hid hb
  have HM := Lib.hid hm
  have e1 := m1019 a
  have e2 := m1019 b
  have e3 := m1019 m
  obtain ⟨x, hx⟩ : ∃ x, x = a % 1019 := ⟨_, rfl⟩
  obtain ⟨y, hy⟩ : ∃ y, y = b % 1019 := ⟨_, rfl⟩
  obtain ⟨z, hz⟩ : ∃ z, z = m % 1019 := ⟨_, rfl⟩
  rw [← hx] at e1 hq
  rw [← hy] at e2 hq
  rw [← hz] at e3 hq
  have HX := Lib.hid hx
  have HY := Lib.hid hy
  have HZ := Lib.hid hz
  have s1 := sq_bounds e1 e1
  have s2 := sq_bounds e2 e3
  have f1 := m1019 (x * x)
  have f2 := m1019 (y * z)
  have w1 : Hid ((Lit.int .i64 (x * x)).wf = true) := Lib.hid (wf_i64_of (by omega) (by omega))
  have w2 : Hid ((Lit.int .i64 (y * z)).wf = true) := Lib.hid (wf_i64_of (by omega) (by omega))
  have Hq := Lib.hid hq
  clear hx hy hz ha hb hm hq e1 e2 e3
  go_enter Try.func36, Try.ntmps36
  go_wp2_with fail
  refine (fe_any HA.out).mono ?_
  rw [← HX.out]
  rintro e w3 ⟨rfl, hw⟩
  subst hw
  go_wp2_with fail
  refine (fe_any HB.out).mono ?_
  rw [← HY.out]
  rintro e w3 ⟨rfl, hw⟩
  subst hw
  go_wp2_with fail
  refine (fe_any HM.out).mono ?_
  rw [← HZ.out]
  rintro e w3 ⟨rfl, hw⟩
  subst hw
  go_wp2_with fail
  refine (fe_any w1.out).mono ?_
  obtain ⟨p, hp⟩ : ∃ p, p = x * x % 1019 := ⟨_, rfl⟩
  rw [← hp] at Hq ⊢
  clear hp
  rintro e w3 ⟨rfl, hw⟩
  subst hw
  go_wp2_with fail
  refine (fe_any w2.out).mono ?_
  obtain ⟨r, hr⟩ : ∃ r, r = y * z % 1019 := ⟨_, rfl⟩
  rw [← hr] at Hq ⊢
  clear hr
  rintro e w3 ⟨rfl, hw⟩
  subst hw
  go_wp2_with fail
  go_ret
  exact ⟨by rw [Hq.out]; rfl, rfl⟩

set_option maxHeartbeats 1000000 in
/-- spec.AcceptsSketch. -/
theorem spec_acc {w : World} {a b m : Int} (ha : (Lit.int .i64 a).wf = true) (hb : (Lit.int .i64 b).wf = true) (hm : (Lit.int .i64 m).wf = true) :
    Calls Try.prog 35 #[.int .i64 a, .int .i64 b, .int .i64 m] w fun e w' => e = .returned (.bool (acc a b m)) ∧ w' = w := by
  obtain ⟨q, hq⟩ : ∃ q, q = acc a b m := ⟨_, rfl⟩
  rw [← hq]
  unfold acc at hq
  have HA := Lib.hid (wf_i64 ha)
  have HB := Lib.hid (wf_i64 hb)
  have HM := Lib.hid (wf_i64 hm)
  have e1 := m1019 a
  have e2 := m1019 b
  have e3 := m1019 m
  obtain ⟨x, hx⟩ : ∃ x, x = a % 1019 := ⟨_, rfl⟩
  obtain ⟨y, hy⟩ : ∃ y, y = b % 1019 := ⟨_, rfl⟩
  obtain ⟨z, hz⟩ : ∃ z, z = m % 1019 := ⟨_, rfl⟩
  rw [← hx] at e1 hq
  rw [← hy] at e2 hq
  rw [← hz] at e3 hq
  have HX : Hid (modV a 1019 = x) := Lib.hid (by rw [modV_1019, hx])
  have HY : Hid (modV b 1019 = y) := Lib.hid (by rw [modV_1019, hy])
  have HZ : Hid (modV m 1019 = z) := Lib.hid (by rw [modV_1019, hz])
  have s1 := sq_bounds e1 e1
  have s2 := sq_bounds e2 e3
  have Hq := Lib.hid hq
  clear hx hy hz ha hb hm hq e1 e2 e3
  go_enter Try.func35, Try.ntmps35
  go_wp2_with fail
  refine (spec_mod _ _ _ HA.out.1 HA.out.2).mono ?_
  rw [HX.out]
  rintro e w3 ⟨rfl, hw⟩
  subst hw
  go_wp2_with fail
  refine (spec_mod _ _ _ HB.out.1 HB.out.2).mono ?_
  rw [HY.out]
  rintro e w3 ⟨rfl, hw⟩
  subst hw
  go_wp2_with fail
  refine (spec_mod _ _ _ HM.out.1 HM.out.2).mono ?_
  rw [HZ.out]
  rintro e w3 ⟨rfl, hw⟩
  subst hw
  go_wp2_with fail
  go_ret
  exact ⟨by rw [Hq.out]; rfl, rfl⟩

end Go.Proofs.Ytckhmjdhdoomdaa
