/- Shares: how many, how long, what is joined and completed; the program's and the document's. No conditions but a size that a machine holds. -/
import Derived.Test.YtlogljbbegklbaaShN
import Derived.Test.YtlogljbbegklbaaBa6
import Derived.Test.YtlogljbbegklbaaBaM
namespace Go.Proofs.Ytlogljbbegklbaa
open Go Go.RowKit
set_option linter.unusedVariables false
attribute [local irreducible] kh

theorem fitB_any {w : World} {a : Option Addr} {n cap : Nat} (hn : n ≤ 140737488355328) : Calls Try.prog 49 #[.slice a n cap] w fun e w' => e = .returned (.bool (inR (n : Int) 2 4)) ∧ w' = w := by
  go_enter Try.func49, Try.ntmps49
  go_wp2_with fail
  refine (impl_in _ _ _ _ (wf_i64_of (by omega) (by omega))).mono ?_
  rintro e w1 ⟨rfl, hw⟩
  subst hw
  go_wp2_with fail
  go_ret
  exact ⟨rfl, rfl⟩
theorem fitI_any {w : World} {a : Option Addr} {n cap : Nat} (hn : n ≤ 140737488355328) : Calls Try.prog 72 #[.slice a n cap] w fun e w' => e = .returned (.bool (inR (n : Int) 2 4)) ∧ w' = w := by
  go_enter Try.func72, Try.ntmps72
  go_wp2_with fail
  refine (impl_in _ _ _ _ (wf_i64_of (by omega) (by omega))).mono ?_
  rintro e w1 ⟨rfl, hw⟩
  subst hw
  go_wp2_with fail
  go_ret
  exact ⟨rfl, rfl⟩
theorem count_any {w : World} {n : Int} (hn : (Lit.int .i64 n).wf = true) : Calls Try.prog 58 #[.int .i64 n] w fun e w' => e = .returned (.bool (inR n 2 4)) ∧ w' = w := by
  go_enter Try.func58, Try.ntmps58
  go_wp2_with fail
  refine (spec_in _ _ _ _ hn).mono ?_
  rintro e w1 ⟨rfl, hw⟩
  subst hw
  go_wp2_with fail
  go_ret
  exact ⟨rfl, rfl⟩

/-! ### Numbers -/

theorem modV_1019 (x : Int) : modV x 1019 = x % 1019 := if_pos (by omega)

theorem fe_any {w : World} {x : Int} (hx : (Lit.int .i64 x).wf = true) : Calls Try.prog 55 #[.int .i64 x] w fun e w' => e = .returned (.int .i64 (x % 1019)) ∧ w' = w := by
  have hb := wf_i64 hx
  have HM := Lib.hid (modV_1019 x)
  clear hx
  go_enter Try.func55, Try.ntmps55
  go_wp2_with fail
  refine (impl_mod _ _ _ hb.1 hb.2).mono ?_
  rw [HM.out]
  obtain ⟨q, hq⟩ : ∃ q, q = x % 1019 := ⟨_, rfl⟩
  rw [← hq]
  have HQ := Lib.hid hq
  clear hq HM
  rintro e w1 ⟨rfl, hw⟩
  subst hw
  go_wp2_with fail
  go_ret
  exact ⟨rint HQ.out, rfl⟩

set_option maxHeartbeats 1000000 in
/-- impl.JoinNumber. -/
theorem impl_jn {lim : Nat} {w : World} {v : Value} {zs : List Int} (h : Rd lim .i64 w v zs) :
    Calls Try.prog 21 #[v] w fun e w' => e = .returned (.int .i64 (jn zs)) ∧ w' = w := by
  obtain ⟨a, cap, rfl, h1, h2, hc⟩ := h.open
  have Hc := Lib.hid hc
  have H := Lib.hid h
  unfold maxLen at h2
  clear h hc
  go_enter Try.func21, Try.ntmps21
  go_wp2_with fail
  go_loopw [3, 8] (fun s i wr => ∃ j : Nat, i = .int .i64 j ∧ j ≤ zs.length ∧ s = .int .i64 (wsum (zs.take j)) ∧ wr = w) (fun _ i _ => zs.length - (intOf i).toNat)
  case atStart => exact ⟨0, rfl, Nat.zero_le _, rfl, rfl⟩
  case round =>
    obtain ⟨j, rfl, hj, rfl, rfl⟩ := hrel
    by_cases hlt : j < zs.length
    · have e1 : decide ((j : Int) < (zs.length : Int)) = true := by simp; omega
      obtain ⟨b, o, rfl, hbl, hcell⟩ := Hc.out (by omega)
      have c1 := hcell _ (Below.refl _ _) j hlt
      have hs := wsum_succ hlt
      have HW := Lib.hid (wf_i64 (H.out.wf hlt))
      have HU := Lib.hid (wsum_bound (zs.take j))
      obtain ⟨z, hz⟩ : ∃ z, z = zs.getD j 0 := ⟨_, rfl⟩
      obtain ⟨t, ht⟩ : ∃ t, t = wsum (zs.take j) := ⟨_, rfl⟩
      rw [← hz, ← ht] at hs
      rw [← hz] at c1
      rw [← ht]
      have HS := Lib.hid hs
      clear hcell hz ht hs
      go_wp2
      go_roundw
      case rel => exact ⟨j + 1, by simp, hlt, by rw [← HS.out], by first | rfl | trivial⟩
      case measure => simp [intOf]; omega
    · have e1 : decide ((j : Int) < (zs.length : Int)) = false := by simp; omega
      have HE : Hid (wsum (zs.take j) % 1019 = jn zs) := Lib.hid (by rw [List.take_of_length_le (by omega)]; rfl)
      have hW := wf_i64_of (wsum_bound (zs.take j)).1 (wsum_bound (zs.take j)).2
      obtain ⟨t, ht⟩ : ∃ t, t = wsum (zs.take j) := ⟨_, rfl⟩
      rw [← ht] at HE hW
      rw [← ht]
      have HW := Lib.hid hW
      clear ht hW
      go_wp2_with fail
      refine (fe_any HW.out).mono ?_
      rw [HE.out]
      rintro e w1 ⟨rfl, hw⟩
      subst hw
      go_wp2_with fail
      go_ret
      exact ⟨rfl, rfl⟩

set_option maxHeartbeats 1000000 in
/-- spec.JoinNumber. -/
theorem spec_jn {lim : Nat} {w : World} {v : Value} {zs : List Int} (h : Rd lim .i64 w v zs) :
    Calls Try.prog 41 #[v] w fun e w' => e = .returned (.int .i64 (jn zs)) ∧ w' = w := by
  obtain ⟨a, cap, rfl, h1, h2, hc⟩ := h.open
  have Hc := Lib.hid hc
  have H := Lib.hid h
  unfold maxLen at h2
  clear h hc
  go_enter Try.func41, Try.ntmps41
  go_wp2_with fail
  go_loopw [3, 4] (fun s i wr => ∃ j : Nat, i = .int .i64 j ∧ j ≤ zs.length ∧ s = .int .i64 (wsum (zs.take j)) ∧ wr = w) (fun _ i _ => zs.length - (intOf i).toNat)
  case atStart => exact ⟨0, rfl, Nat.zero_le _, rfl, rfl⟩
  case round =>
    obtain ⟨j, rfl, hj, rfl, rfl⟩ := hrel
    by_cases hlt : j < zs.length
    · have e1 : decide ((j : Int) < (zs.length : Int)) = true := by simp; omega
      obtain ⟨b, o, rfl, hbl, hcell⟩ := Hc.out (by omega)
      have c1 := hcell _ (Below.refl _ _) j hlt
      have hs := wsum_succ hlt
      obtain ⟨z, hz⟩ : ∃ z, z = zs.getD j 0 := ⟨_, rfl⟩
      obtain ⟨t, ht⟩ : ∃ t, t = wsum (zs.take j) := ⟨_, rfl⟩
      rw [← hz, ← ht] at hs
      rw [← hz] at c1
      rw [← ht]
      have HS := Lib.hid hs
      clear hcell hz ht hs
      go_wp2
      go_roundw
      case rel => exact ⟨j + 1, by simp, hlt, by rw [← HS.out], by first | rfl | trivial⟩
      case measure => simp [intOf]; omega
    · have e1 : decide ((j : Int) < (zs.length : Int)) = false := by simp; omega
      have HE : Hid (modV (wsum (zs.take j)) 1019 = jn zs) := Lib.hid (by rw [modV_1019, List.take_of_length_le (by omega)]; rfl)
      have HU := Lib.hid (wsum_bound (zs.take j))
      obtain ⟨t, ht⟩ : ∃ t, t = wsum (zs.take j) := ⟨_, rfl⟩
      rw [← ht] at HE HU
      rw [← ht]
      clear ht
      go_wp2_with fail
      refine (spec_mod _ _ _ HU.out.1 HU.out.2).mono ?_
      rw [HE.out]
      rintro e w1 ⟨rfl, hw⟩
      subst hw
      go_wp2_with fail
      go_ret
      exact ⟨rfl, rfl⟩

/-- impl.missingNumber, of field elements. -/
theorem mnum_any {lim : Nat} {w : World} {v : Value} {s : List Int} {x : Int} (h : Rd lim .i64 w v (fes s)) (hx : (Lit.int .i64 x).wf = true) (hl : s.length ≤ 3) :
    Calls Try.prog 56 #[v, .int .i64 x] w fun e w' => e = .returned (.int .i64 (lastN x s s.length)) ∧ w' = w := by
  have H := Lib.hid h
  have HX := Lib.hid hx
  have hm := miss_num x hl
  have hj := jn_bound (fes s)
  have HD : Hid (jn (fes s) = jn (fes s)) := Lib.hid rfl
  obtain ⟨q, hq⟩ : ∃ q, q = jn (fes s) := ⟨_, rfl⟩
  rw [← hq] at hm hj
  obtain ⟨p, hp⟩ : ∃ p, p = x % 1019 := ⟨_, rfl⟩
  have hpb : 0 ≤ p ∧ p ≤ 1018 := by omega
  rw [← hp] at hm
  have HQ := Lib.hid hq
  have HP := Lib.hid hp
  have HM := Lib.hid hm
  clear h hx hm hq hp
  go_enter Try.func56, Try.ntmps56
  go_wp2_with fail
  refine (fe_any HX.out).mono ?_
  rw [← HP.out]
  rintro e w1 ⟨rfl, hw⟩
  subst hw
  go_wp2_with fail
  refine (impl_jn H.out).mono ?_
  rw [← HQ.out]
  rintro e w1 ⟨rfl, hw⟩
  subst hw
  go_wp2_with fail
  refine (fe_any (wf_i64_of (by omega) (by omega))).mono ?_
  rw [HM.out]
  rintro e w1 ⟨rfl, hw⟩
  subst hw
  go_wp2_with fail
  go_ret
  exact ⟨rfl, rfl⟩

/-! ### Byte strings -/

/-- impl.MissingShare. -/
theorem impl_ms {l1 l2 : Nat} {w : World} {u v : Value} {zss : List (List Int)} {xs : List Int} (hu : Rd2 l1 .u8 w u zss) (hv : Rd l2 .u8 w v xs) (hl1 : l1 ≤ w.heap.size) (hl2 : l2 ≤ w.heap.size) (hn : tot zss ≤ 1099511627776) (hx : xs.length ≤ 1099511627776) :
    Calls Try.prog 18 #[u, v] w fun e w' => ∃ v', e = .returned v' ∧ Own 5 .u8 w.heap.size w' v' (xorl (xorAll zss) xs) ∧ Below w.heap.size w w' := by
  have HU := Lib.hid hu
  have HV := Lib.hid hv
  have HL : Hid ((xorAll zss).length + xs.length ≤ 140737488355328) := Lib.hid (by
    have h1 := xorAll_len zss
    unfold tot at hn
    omega)
  clear hu hv
  go_enter Try.func18, Try.ntmps18
  go_wp2_with fail
  refine (impl_xa HU.out hl1 hn).mono ?_
  rintro e w1 ⟨v1, rfl, h1, hb⟩
  have H1 := Lib.hid h1
  have HB := Lib.hid hb
  replace HV := Lib.hid (HV.out.behind (hb.mono hl2))
  clear h1 hb
  go_wp2_with fail
  refine (xorInto_any H1.out HV.out hl2 HL.out).mono ?_
  rintro e w2 ⟨v2, rfl, h3, h4⟩
  have H3 := Lib.hid h3
  have H4 := Lib.hid (HB.out.trans h4)
  clear h3 h4
  go_wp2_with fail
  go_ret
  exact ⟨_, rfl, H3.out, H4.out⟩

/-- spec.MissingShare. -/
theorem spec_ms {l1 l2 : Nat} {w : World} {u v : Value} {zss : List (List Int)} {xs : List Int} (hu : Rd2 l1 .u8 w u zss) (hv : Rd l2 .u8 w v xs) (hl1 : l1 ≤ w.heap.size) (hl2 : l2 ≤ w.heap.size) (hn : tot zss ≤ 1099511627776) (hx : xs.length ≤ 1099511627776) :
    Calls Try.prog 38 #[u, v] w fun e w' => ∃ v', e = .returned v' ∧ Own 5 .u8 w.heap.size w' v' (xorl (xorAll zss) xs) ∧ Below w.heap.size w w' := by
  have HU := Lib.hid hu
  have HV := Lib.hid hv
  have HL : Hid ((xorAll zss).length + xs.length ≤ 140737488355328) := Lib.hid (by
    have h1 := xorAll_len zss
    unfold tot at hn
    omega)
  clear hu hv
  go_enter Try.func38, Try.ntmps38
  go_wp2_with fail
  refine (spec_xa HU.out hl1 hn).mono ?_
  rintro e w1 ⟨v1, rfl, h1, hb⟩
  have H1 := Lib.hid h1
  have HB := Lib.hid hb
  replace HV := Lib.hid (HV.out.behind (hb.mono hl2))
  clear h1 hb
  go_wp2_with fail
  refine (spec_xb H1.out.rd HV.out (Nat.le_refl _) (Nat.le_trans hl2 HB.out.size) HL.out).mono ?_
  rintro e w2 ⟨v2, rfl, h3, h4⟩
  have H3 := Lib.hid (h3.mono HB.out.size)
  have H4 := Lib.hid (HB.out.trans (h4.mono HB.out.size))
  clear h3 h4
  go_wp2_with fail
  go_ret
  exact ⟨_, rfl, H3.out, H4.out⟩

set_option maxHeartbeats 1000000 in
/-- impl.haveOneLength, of bytes. -/
theorem hol_any {lim : Nat} {w : World} {v : Value} {zss : List (List Int)} (h : Rd2 lim .u8 w v zss) (hlim : lim ≤ w.heap.size) :
    Calls Try.prog 50 #[v] w fun e w' => e = .returned (.bool (same zss)) ∧ w' = w := by
  obtain ⟨q, hq⟩ : ∃ q, q = same zss := ⟨_, rfl⟩
  rw [← hq]
  have Hq := Lib.hid hq
  obtain ⟨a, cap, rfl, h1, h2, hc⟩ := h.open
  have Hc := Lib.hid hc
  unfold maxLen at h2
  clear h hc hq
  go_enter Try.func50, Try.ntmps50
  go_wp2_with fail
  go_loopw [7] (fun i wr => ∃ j : Nat, i = .int .i64 j ∧ j ≤ zss.length ∧ (∀ i, i < j → (zss.getD i []).length = (zss.getD 0 []).length) ∧ wr = w) (fun i _ => zss.length - (intOf i).toNat)
  case atStart => exact ⟨0, rfl, Nat.zero_le _, fun i hi => by omega, rfl⟩
  case round =>
    obtain ⟨j, rfl, hj, hs, rfl⟩ := hrel
    have HS := Lib.hid hs
    clear hs
    by_cases hlt : j < zss.length
    · have e1 : decide ((j : Int) < (zss.length : Int)) = true := by simp; omega
      have hpos : 0 < zss.length := by omega
      obtain ⟨b, o, rfl, hbl, hcell⟩ := Hc.out hpos
      obtain ⟨z0, hz0⟩ : ∃ zs, zss[0]? = some zs := ⟨_, List.getElem?_eq_getElem hpos⟩
      obtain ⟨u0, c0, hr0⟩ := hcell _ (Below.refl _ _) 0 z0 hz0
      obtain ⟨a0, k0, rfl, _⟩ := hr0.open
      obtain ⟨zs, hzs⟩ : ∃ zs, zss[j]? = some zs := ⟨_, List.getElem?_eq_getElem hlt⟩
      obtain ⟨u, c1, hr⟩ := hcell _ (Below.refl _ _) j zs hzs
      obtain ⟨a1, k1, rfl, _⟩ := hr.open
      have hlz := hr.len
      have hlz0 := hr0.len
      unfold maxLen at hlz hlz0
      have HG : Hid ((zss.getD j []).length = zs.length ∧ (zss.getD 0 []).length = z0.length) := Lib.hid ⟨by rw [getD_of hzs], by rw [getD_of hz0]⟩
      rw [Nat.add_zero] at c0
      clear hcell hr hr0
      rcases Nat.eq_zero_or_pos j with hj0 | hp
      · subst hj0
        rw [hz0] at hzs
        injection hzs with hzs
        subst hzs
        rw [Nat.add_zero, c0] at c1
        clear c1 hz0
        go_wp2
        go_roundw
        case rel =>
          refine ⟨0 + 1, by simp, hlt, fun i hi => ?_, by first | rfl | trivial⟩
          obtain rfl : i = 0 := by omega
          rfl
        case measure => simp [intOf]; omega
      · clear hz0 hzs
        obtain ⟨L, hL⟩ : ∃ L, L = zs.length := ⟨_, rfl⟩
        obtain ⟨L0, hL0⟩ : ∃ L, L = z0.length := ⟨_, rfl⟩
        rw [← hL] at c1 HG hlz
        rw [← hL0] at c0 HG hlz0
        clear hL hL0
        by_cases he : L = L0
        · have e2 : ((L : Int) != (L0 : Int)) = false := by simp [he]
          have HE := Lib.hid he
          clear he
          go_wp2
          go_roundw
          case rel =>
            refine ⟨j + 1, by simp, hlt, fun i hi => ?_, by first | rfl | trivial⟩
            by_cases hij : i = j
            · subst hij; rw [HG.out.1, HG.out.2, HE.out]
            · exact HS.out i (by omega)
          case measure => simp [intOf]; omega
        · have e2 : ((L : Int) != (L0 : Int)) = true := by simp; omega
          have HE := Lib.hid he
          clear he
          go_wp2
          go_ret
          refine ⟨?_, rfl⟩
          have e : q = false := by rw [Hq.out]; exact decide_eq_false fun h => HE.out (by rw [← HG.out.1, ← HG.out.2]; exact h j hlt)
          rw [e]; rfl
    · have e1 : decide ((j : Int) < (zss.length : Int)) = false := by simp; omega
      go_wp2
      go_ret
      refine ⟨?_, rfl⟩
      have e : q = true := by rw [Hq.out]; exact decide_eq_true fun i hi => HS.out i (by omega)
      rw [e]; rfl

set_option maxHeartbeats 1000000 in
/-- spec.l7Same. -/
theorem same_any {lim : Nat} {w : World} {v : Value} {zss : List (List Int)} (h : Rd2 lim .u8 w v zss) (hlim : lim ≤ w.heap.size) :
    Calls Try.prog 62 #[v] w fun e w' => e = .returned (.bool (okS zss)) ∧ ∃ m, w' = w.drewN m := by
  obtain ⟨q, hq⟩ : ∃ q, q = okS zss := ⟨_, rfl⟩
  rw [← hq]
  have Hq := Lib.hid hq
  obtain ⟨a, cap, rfl, h1, h2, hc⟩ := h.open
  have Hc := Lib.hid hc
  unfold maxLen at h2
  clear h hc hq
  go_enter Try.func62, Try.ntmps62
  go_wp2_with fail
  go_loopw [3] (fun i wr => ∃ j : Nat, i = .int .i64 j ∧ j ≤ zss.length ∧ (∀ i, i < j → (zss.getD i []).length = (zss.getD 0 []).length) ∧ ∃ m, wr = w.drewN m) (fun i _ => zss.length - (intOf i).toNat)
  case atStart => exact ⟨0, rfl, Nat.zero_le _, fun i hi => by omega, 0, rfl⟩
  case round =>
    obtain ⟨j, rfl, hj, hs, hB⟩ := hrel
    have HB := Lib.hid (below_drewN (B := w.heap.size) hB)
    have HD := Lib.hid hB
    have HS := Lib.hid hs
    clear hs hB
    by_cases hlt : j < zss.length
    · have e1 : decide ((j : Int) < (zss.length : Int)) = true := by simp; omega
      have hpos : 0 < zss.length := by omega
      have hposi : (0 : Int) < (zss.length : Int) := by omega
      obtain ⟨b, o, rfl, hbl, hcell⟩ := Hc.out hpos
      obtain ⟨z0, hz0⟩ : ∃ zs, zss[0]? = some zs := ⟨_, List.getElem?_eq_getElem hpos⟩
      obtain ⟨u0, c0, hr0⟩ := hcell wr (HB.out.mono hlim) 0 z0 hz0
      obtain ⟨a0, k0, rfl, _⟩ := hr0.open
      obtain ⟨zs, hzs⟩ : ∃ zs, zss[j]? = some zs := ⟨_, List.getElem?_eq_getElem hlt⟩
      obtain ⟨u, c1, hr⟩ := hcell wr (HB.out.mono hlim) j zs hzs
      obtain ⟨a1, k1, rfl, _⟩ := hr.open
      have hlz := hr.len
      have hlz0 := hr0.len
      unfold maxLen at hlz hlz0
      have HG : Hid ((zss.getD j []).length = zs.length ∧ (zss.getD 0 []).length = z0.length) := Lib.hid ⟨by rw [getD_of hzs], by rw [getD_of hz0]⟩
      rw [Nat.add_zero] at c0
      clear hcell hr hr0
      rcases Nat.eq_zero_or_pos j with hj0 | hp
      · subst hj0
        rw [hz0] at hzs
        injection hzs with hzs
        subst hzs
        rw [Nat.add_zero, c0] at c1
        clear c1 hz0
        go_wp2
        go_quiet (fail)
        go_wp2
        go_roundw
        case rel =>
          refine ⟨0 + 1, by simp, hlt, fun i hi => ?_, drewN_more HD.out _⟩
          obtain rfl : i = 0 := by omega
          rfl
        case measure => simp [intOf]; omega
      · clear hz0 hzs
        obtain ⟨L, hL⟩ : ∃ L, L = zs.length := ⟨_, rfl⟩
        obtain ⟨L0, hL0⟩ : ∃ L, L = z0.length := ⟨_, rfl⟩
        rw [← hL] at c1 HG hlz
        rw [← hL0] at c0 HG hlz0
        clear hL hL0
        by_cases he : L = L0
        · have e2 : ((L : Int) != (L0 : Int)) = false := by simp [he]
          have HE := Lib.hid he
          clear he
          go_wp2
          go_quiet (fail)
          go_wp2
          go_roundw
          case rel =>
            refine ⟨j + 1, by simp, hlt, fun i hi => ?_, drewN_more HD.out _⟩
            by_cases hij : i = j
            · subst hij; rw [HG.out.1, HG.out.2, HE.out]
            · exact HS.out i (by omega)
          case measure => simp [intOf]; omega
        · have e2 : ((L : Int) != (L0 : Int)) = true := by simp; omega
          have HE := Lib.hid he
          clear he
          go_wp2
          go_quiet (fail)
          go_wp2
          go_ret
          refine ⟨?_, drewN_more HD.out _⟩
          have e : q = false := by
            rw [Hq.out]
            unfold okS
            have : same zss = false := decide_eq_false fun h => HE.out (by rw [← HG.out.1, ← HG.out.2]; exact h j hlt)
            rw [this, Bool.and_false]
          rw [e]; rfl
    · have e1 : decide ((j : Int) < (zss.length : Int)) = false := by simp; omega
      have HE : Hid (inR (zss.length : Int) 2 4 = q) := Lib.hid (by
        rw [Hq.out]
        unfold okS
        have : same zss = true := decide_eq_true fun i hi => HS.out i (by omega)
        rw [this, Bool.and_true])
      go_wp2_with fail
      refine (count_any (wf_i64_of (by omega) (by omega))).mono ?_
      rw [HE.out]
      rintro e w1 ⟨rfl, hw⟩
      subst hw
      go_wp2_with fail
      go_ret
      exact ⟨rfl, HD.out⟩

set_option maxHeartbeats 1000000 in
/-- impl.JoinShares. -/
theorem impl_js {lim : Nat} {w : World} {v : Value} {zss : List (List Int)} (h : Rd2 lim .u8 w v zss) (hlim : lim ≤ w.heap.size) (hn : tot zss ≤ 1099511627776) :
    Calls Try.prog 14 #[v] w fun e w' => ∃ v', e = .returned (.tuple #[v', .bool (okS zss)]) ∧ Own 5 .u8 w.heap.size w' v' (jsh zss) ∧ Below w.heap.size w w' := by
  have H := Lib.hid h
  obtain ⟨a, cap, rfl, h1, h2, hc⟩ := h.open
  have hl : zss.length ≤ 140737488355328 := by unfold tot at hn; omega
  have HK : Hid (okS zss = (inR (zss.length : Int) 2 4 && same zss)) := Lib.hid rfl
  have HYes := Lib.hid (jsh_yes (zss := zss))
  have HNo := Lib.hid (jsh_no (zss := zss))
  have HF := Lib.hid (fitB_any (w := w) (a := a) (n := zss.length) (cap := cap) hl)
  have HO := Lib.hid (hol_any H.out hlim)
  obtain ⟨p, hp⟩ : ∃ p, p = inR (zss.length : Int) 2 4 := ⟨_, rfl⟩
  obtain ⟨q, hq⟩ : ∃ q, q = same zss := ⟨_, rfl⟩
  rw [← hp, ← hq] at HK
  rw [← hp] at HF
  rw [← hq] at HO
  clear h hc hp hq
  have HOl : Hid (Own 5 .u8 w.heap.size (w.alloc (.cells #[] 5)) (.slice (some ⟨w.heap.size, 0, none⟩) 0 0) []) := Lib.hid (Own.lit _ _ (Nat.le_refl _))
  have HBl := Lib.hid ((Below.refl w.heap.size w).alloc (Nat.le_refl _) (.cells #[] 5))
  cases p
  · have hk : okS zss = false := by rw [HK.out]; rfl
    rw [hk]
    have HJ := Lib.hid (HNo.out hk)
    clear hk
    go_enter Try.func14, Try.ntmps14
    go_wp2_with fail
    refine HF.out.mono ?_
    rintro e w1 ⟨rfl, hw⟩
    subst hw
    go_wp2_with fail
    go_ret2
    exact ⟨_, rfl, by rw [HJ.out]; exact HOl.out, HBl.out⟩
  · cases q
    · have hk : okS zss = false := by rw [HK.out]; rfl
      rw [hk]
      have HJ := Lib.hid (HNo.out hk)
      clear hk
      go_enter Try.func14, Try.ntmps14
      go_wp2_with fail
      refine HF.out.mono ?_
      rintro e w1 ⟨rfl, hw⟩
      subst hw
      go_wp2_with fail
      refine HO.out.mono ?_
      rintro e w1 ⟨rfl, hw⟩
      subst hw
      go_wp2_with fail
      go_ret2
      exact ⟨_, rfl, by rw [HJ.out]; exact HOl.out, HBl.out⟩
    · have hk : okS zss = true := by rw [HK.out]; rfl
      rw [hk]
      have HJ := Lib.hid (HYes.out hk)
      clear hk
      go_enter Try.func14, Try.ntmps14
      go_wp2_with fail
      refine HF.out.mono ?_
      rintro e w1 ⟨rfl, hw⟩
      subst hw
      go_wp2_with fail
      refine HO.out.mono ?_
      rintro e w1 ⟨rfl, hw⟩
      subst hw
      go_wp2_with fail
      refine (impl_xa H.out hlim hn).mono ?_
      rintro e w2 ⟨v2, rfl, h3, hb⟩
      rw [← HJ.out] at h3
      have H3 := Lib.hid h3
      have HB := Lib.hid hb
      clear h3 hb
      go_wp2_with fail
      go_ret2
      exact ⟨_, rfl, H3.out, HB.out⟩

set_option maxHeartbeats 1000000 in
/-- spec.JoinShares. -/
theorem spec_js {lim : Nat} {w : World} {v : Value} {zss : List (List Int)} (h : Rd2 lim .u8 w v zss) (hlim : lim ≤ w.heap.size) (hn : tot zss ≤ 1099511627776) :
    Calls Try.prog 34 #[v] w fun e w' => ∃ v', e = .returned (.tuple #[v', .bool (okS zss)]) ∧ Own 5 .u8 w.heap.size w' v' (jsh zss) ∧ Below w.heap.size w w' := by
  have H := Lib.hid h
  have HYes := Lib.hid (jsh_yes (zss := zss))
  have HNo := Lib.hid (jsh_no (zss := zss))
  have HF := Lib.hid (same_any H.out hlim)
  obtain ⟨q, hq⟩ : ∃ q, q = okS zss := ⟨_, rfl⟩
  rw [← hq] at HYes HNo HF ⊢
  clear h hq
  cases q
  · have HJ := Lib.hid (HNo.out rfl)
    go_enter Try.func34, Try.ntmps34
    go_wp2_with fail
    refine HF.out.mono ?_
    rintro e w1 ⟨rfl, hw⟩
    have HB := Lib.hid (below_drewN (B := w.heap.size) hw)
    have HOl : Hid (Own 5 .u8 w.heap.size (w1.alloc (.cells #[] 5)) (.slice (some ⟨w1.heap.size, 0, none⟩) 0 0) []) := Lib.hid (Own.lit _ _ HB.out.size)
    clear hw
    go_wp2_with fail
    go_ret2
    exact ⟨_, rfl, by rw [HJ.out]; exact HOl.out, HB.out.alloc HB.out.size _⟩
  · have HJ := Lib.hid (HYes.out rfl)
    go_enter Try.func34, Try.ntmps34
    go_wp2_with fail
    refine HF.out.mono ?_
    rintro e w1 ⟨rfl, hw⟩
    have HB := Lib.hid (below_drewN (B := w.heap.size) hw)
    have H1 := Lib.hid (H.out.behind (HB.out.mono hlim))
    clear hw
    go_wp2_with fail
    refine (spec_xa H1.out (Nat.le_trans hlim HB.out.size) hn).mono ?_
    rintro e w2 ⟨v2, rfl, h3, hb⟩
    rw [← HJ.out] at h3
    have H3 := Lib.hid (h3.mono HB.out.size)
    have HB2 := Lib.hid (HB.out.trans (hb.mono HB.out.size))
    clear h3 hb
    go_wp2_with fail
    go_ret2
    exact ⟨_, rfl, H3.out, HB2.out⟩

end Go.Proofs.Ytlogljbbegklbaa
