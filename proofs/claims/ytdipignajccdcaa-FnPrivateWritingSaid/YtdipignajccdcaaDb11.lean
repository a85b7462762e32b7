/- EqualDatabases, the program's and the document's: what each gives. No conditions but a size that a machine holds. -/
import Derived.Test.YtdipignajccdcaaDb10
import Derived.Test.YtdipignajccdcaaXor2
namespace Go.Proofs.Ytdipignajccdcaa
open Go Go.RowKit
set_option linter.unusedVariables false
attribute [local irreducible] kh

theorem c24_eq {xs ys : List Int} {s : Nat} (hl : xs.length = ys.length) : c24 xs s = c24 ys s ↔ (xs.drop s).take 24 = (ys.drop s).take 24 := by
  unfold c24
  rw [hl]
  exact List.append_left_inj _
theorem take_step {xs ys : List Int} {s : Nat} (h : xs.take s = ys.take s) (h2 : (xs.drop s).take 24 = (ys.drop s).take 24) : xs.take (s + 24) = ys.take (s + 24) := by
  rw [List.take_add, List.take_add, h, h2]

set_option maxHeartbeats 2000000 in
/-- impl.equalRows -/
theorem eqRows_any {l1 l2 : Nat} {w : World} {u v : Value} {xs ys : List Int} (hu : Rd l1 .u8 w u xs) (hv : Rd l2 .u8 w v ys) (hl1 : l1 ≤ w.heap.size) (hl2 : l2 ≤ w.heap.size) (hn : xs.length ≤ 1099511627776) :
    Calls Try.prog 77 #[u, v] w fun e w' => e = .returned (.bool (decide (xs = ys))) ∧ Below w.heap.size w w' := by
  obtain ⟨q, hq⟩ : ∃ q, q = decide (xs = ys) := ⟨_, rfl⟩
  rw [← hq]
  have HQ := Lib.hid hq
  obtain ⟨a, cap, rfl, h1, h2, _⟩ := hu.open
  obtain ⟨a', cap', rfl, h1', h2', _⟩ := hv.open
  have HU := Lib.hid hu
  have HV := Lib.hid hv
  unfold maxLen at h2 h2'
  clear hu hv hq
  have HB := Lib.hid (Below.refl w.heap.size w)
  by_cases hlen : xs.length = ys.length
  · have e0 : ((xs.length : Int) != (ys.length : Int)) = false := by simp [hlen]
    have HLn := Lib.hid hlen
    clear hlen
    go_enter Try.func77, Try.ntmps77
    go_wp2_with fail
    go_loopw [5] (fun i wr => ∃ s : Nat, i = .int .i64 (s : Int) ∧ s ≤ xs.length + 23 ∧ xs.take s = ys.take s ∧ Below w.heap.size w wr) (fun i _ => xs.length + 24 - (intOf i).toNat)
    case atStart => exact ⟨0, rfl, Nat.zero_le _, by simp, HB.out⟩
    case round =>
      obtain ⟨s, rfl, hs, ht, hB⟩ := hrel
      replace HB := Lib.hid hB
      have HT := Lib.hid ht
      clear hB ht
      by_cases hlt : s < xs.length
      · have e1 : decide ((s : Int) < (xs.length : Int)) = true := by simp; omega
        have HSx : Hid (s ≤ xs.length) := Lib.hid (by omega)
        have HSy : Hid (s ≤ ys.length) := Lib.hid (by have := HLn.out; omega)
        have HUr := Lib.hid (HU.out.behind (HB.out.mono hl1))
        have HVr := Lib.hid (HV.out.behind (HB.out.mono hl2))
        have he : ∀ w', (Op.equalIn 10000 93 (.agg (arr (c24 xs s))) (.agg (arr (c24 ys s)))).run Try.prog w' = .ok (decide (c24 xs s = c24 ys s)) w' := fun w' => eq_arr (c24_len _ _) (c24_len _ _)
        obtain ⟨X, hX⟩ : ∃ X, X = arr (c24 xs s) := ⟨_, rfl⟩
        obtain ⟨Y, hY⟩ : ∃ Y, Y = arr (c24 ys s) := ⟨_, rfl⟩
        obtain ⟨p, hp⟩ : ∃ p, p = decide (c24 xs s = c24 ys s) := ⟨_, rfl⟩
        rw [← hX, ← hY, ← hp] at he
        have HX := Lib.hid hX
        have HY := Lib.hid hY
        have HP := Lib.hid hp
        clear hX hY hp
        cases p
        · have HE : Hid (q = false) := Lib.hid (by
            rw [HQ.out]
            refine decide_eq_false fun h => ?_
            have h2 := HP.out
            rw [h] at h2
            simp at h2)
          go_wp2_with fail
          refine (cellAt_any HUr.out (Nat.le_trans hl1 HB.out.size) HSx.out).mono ?_
          rw [← HX.out]
          rintro e w2 ⟨rfl, hb2⟩
          have HB2 := Lib.hid (HB.out.trans (hb2.mono HB.out.size))
          have HV2 := Lib.hid (HVr.out.behind (hb2.mono (Nat.le_trans hl2 HB.out.size)))
          clear hb2
          go_wp2_with fail
          refine (cellAt_any HV2.out (Nat.le_trans hl2 HB2.out.size) HSy.out).mono ?_
          rw [← HY.out]
          rintro e w3 ⟨rfl, hb3⟩
          have HB3 := Lib.hid (HB2.out.trans (hb3.mono HB2.out.size))
          clear hb3
          go_wp2_with fail
          go_ret
          exact ⟨by rw [HE.out]; rfl, HB3.out⟩
        · have HC : Hid (xs.take (s + 24) = ys.take (s + 24)) := Lib.hid (take_step HT.out ((c24_eq HLn.out).1 (of_decide_eq_true HP.out.symm)))
          go_wp2_with fail
          refine (cellAt_any HUr.out (Nat.le_trans hl1 HB.out.size) HSx.out).mono ?_
          rw [← HX.out]
          rintro e w2 ⟨rfl, hb2⟩
          have HB2 := Lib.hid (HB.out.trans (hb2.mono HB.out.size))
          have HV2 := Lib.hid (HVr.out.behind (hb2.mono (Nat.le_trans hl2 HB.out.size)))
          clear hb2
          go_wp2_with fail
          refine (cellAt_any HV2.out (Nat.le_trans hl2 HB2.out.size) HSy.out).mono ?_
          rw [← HY.out]
          rintro e w3 ⟨rfl, hb3⟩
          have HB3 := Lib.hid (HB2.out.trans (hb3.mono HB2.out.size))
          clear hb3
          go_wp2_with fail
          go_roundw
          case rel => exact ⟨s + 24, by simp, by omega, HC.out, HB3.out⟩
          case measure => simp [intOf]; omega
      · have e1 : decide ((s : Int) < (xs.length : Int)) = false := by simp; omega
        have HE : Hid (q = true) := Lib.hid (by
          rw [HQ.out]
          refine decide_eq_true ?_
          have h3 := HT.out
          have h4 := HLn.out
          rwa [List.take_of_length_le (by omega), List.take_of_length_le (by omega)] at h3)
        go_wp2_with fail
        go_ret
        exact ⟨by rw [HE.out]; rfl, HB.out⟩
  · have e0 : ((xs.length : Int) != (ys.length : Int)) = true := by simp; omega
    have HE : Hid (q = false) := Lib.hid (by rw [HQ.out]; exact decide_eq_false fun h => hlen (by rw [h]))
    clear hlen
    go_enter Try.func77, Try.ntmps77
    go_wp2_with fail
    go_ret
    exact ⟨by rw [HE.out]; rfl, HB.out⟩

theorem el_iff {xss yss : List (List Int)} (h1 : ∀ (i : Nat) (xs : List Int), xss[i]? = some xs → U8s xs) (h2 : ∀ (i : Nat) (ys : List Int), yss[i]? = some ys → U8s ys) : el xss yss = decide (xss = yss) := by
  unfold el
  refine decide_eq_decide.2 ⟨fun ⟨hl, h⟩ => List.ext_getElem hl fun i hi hi' => ?_, fun h => by subst h; exact ⟨rfl, fun _ _ => eqb_self _⟩⟩
  have h3 := h i hi
  have e1 := List.getElem?_eq_getElem hi
  have e2 := List.getElem?_eq_getElem hi'
  rw [getD_of e1, getD_of e2, eqb_iff (h1 i _ e1) (h2 i _ e2)] at h3
  exact of_decide_eq_true h3
theorem Rd2.u8s {lim : Nat} {w : World} {v : Value} {zss : List (List Int)} (h : Rd2 lim .u8 w v zss) : ∀ (i : Nat) (zs : List Int), zss[i]? = some zs → U8s zs := fun i zs hz => by
  obtain ⟨us, e, _, h2⟩ := h
  have hi := (List.getElem?_eq_some_iff.1 hz).1
  exact (h2 i _ zs (List.getElem?_eq_getElem (by omega)) hz).u8s

set_option maxHeartbeats 2000000 in
/-- slices.EqualFunc with equalRows -/
theorem slices_er {l1 l2 : Nat} {w : World} {u v : Value} {xss yss : List (List Int)} (hu : Rd2 l1 .u8 w u xss) (hv : Rd2 l2 .u8 w v yss) (hl1 : l1 ≤ w.heap.size) (hl2 : l2 ≤ w.heap.size) (hn : tot xss ≤ 1099511627776) :
    Calls Try.prog 76 #[u, v, .func (.func 77) #[] #[]] w fun e w' => e = .returned (.bool (decide (xss = yss))) ∧ Below w.heap.size w w' := by
  obtain ⟨q, hq⟩ : ∃ q, q = decide (xss = yss) := ⟨_, rfl⟩
  rw [← hq]
  have HQ := Lib.hid hq
  obtain ⟨a, cap, rfl, h1, h2, hc⟩ := hu.open
  obtain ⟨a', cap', rfl, h1', h2', hc'⟩ := hv.open
  have Hc := Lib.hid hc
  have Hc' := Lib.hid hc'
  have HN := Lib.hid hn
  unfold maxLen at h2 h2'
  have HB := Lib.hid (Below.refl w.heap.size w)
  clear hu hv hc hc' hq hn
  by_cases hlen : xss.length = yss.length
  · have e0 : ((xss.length : Int) != (yss.length : Int)) = false := by simp [hlen]
    have HLn := Lib.hid hlen
    clear hlen
    go_enter Try.func76, Try.ntmps76
    go_wp2_with fail
    go_loopw [17] (fun i wr => ∃ j : Nat, i = .int .i64 j ∧ j ≤ xss.length ∧ xss.take j = yss.take j ∧ Below w.heap.size w wr) (fun i _ => xss.length - (intOf i).toNat)
    case atStart => exact ⟨0, rfl, Nat.zero_le _, by simp, HB.out⟩
    case round =>
      obtain ⟨j, rfl, hj, hs, hB⟩ := hrel
      replace HB := Lib.hid hB
      have HS := Lib.hid hs
      clear hB hs
      by_cases hlt : j < xss.length
      · have e1 : decide ((j : Int) < (xss.length : Int)) = true := by simp; omega
        have hlt'' : j < yss.length := by have := HLn.out; omega
        have hlt' : (j : Int) < (yss.length : Int) := by omega
        obtain ⟨b, o, rfl, hbl, hcell⟩ := Hc.out (by omega)
        obtain ⟨b', o', rfl, hbl', hcell'⟩ := Hc'.out (by omega)
        obtain ⟨xs, hxs⟩ : ∃ xs, xss[j]? = some xs := ⟨_, List.getElem?_eq_getElem hlt⟩
        obtain ⟨ys, hys⟩ : ∃ ys, yss[j]? = some ys := ⟨_, List.getElem?_eq_getElem hlt''⟩
        obtain ⟨x, c1, hr⟩ := hcell wr (HB.out.mono hl1) j xs hxs
        obtain ⟨x', c2, hr'⟩ := hcell' wr (HB.out.mono hl2) j ys hys
        have Hr := Lib.hid hr
        have Hr' := Lib.hid hr'
        have HLx : Hid (xs.length ≤ 1099511627776) := Lib.hid (by have := tot_at hxs; have := HN.out; omega)
        obtain ⟨p, hp⟩ : ∃ p, p = decide (xs = ys) := ⟨_, rfl⟩
        have Hp := Lib.hid hp
        have Hxs := Lib.hid hxs
        have Hys := Lib.hid hys
        clear hcell hcell' hxs hys hr hr' hp
        cases p
        · have HE : Hid (q = false) := Lib.hid (by
            rw [HQ.out]
            refine decide_eq_false fun h => ?_
            have h3 := Hxs.out
            rw [h, Hys.out] at h3
            injection h3 with h3
            have h4 := Hp.out
            rw [decide_eq_true h3.symm] at h4
            cases h4)
          go_wp2_with fail
          refine (eqRows_any Hr.out Hr'.out (Nat.le_trans hl1 HB.out.size) (Nat.le_trans hl2 HB.out.size) HLx.out).mono ?_
          rw [← Hp.out]
          rintro e w2 ⟨rfl, hb2⟩
          have HB2 := Lib.hid (HB.out.trans (hb2.mono HB.out.size))
          clear hb2
          go_wp2
          go_ret
          exact ⟨by rw [HE.out]; rfl, HB2.out⟩
        · have HC : Hid (xss.take (j + 1) = yss.take (j + 1)) := Lib.hid (by
            rw [List.take_add_one, List.take_add_one, HS.out, Hxs.out, Hys.out, of_decide_eq_true Hp.out.symm])
          go_wp2_with fail
          refine (eqRows_any Hr.out Hr'.out (Nat.le_trans hl1 HB.out.size) (Nat.le_trans hl2 HB.out.size) HLx.out).mono ?_
          rw [← Hp.out]
          rintro e w2 ⟨rfl, hb2⟩
          have HB2 := Lib.hid (HB.out.trans (hb2.mono HB.out.size))
          clear hb2
          go_wp2
          go_roundw
          case rel => exact ⟨j + 1, by simp, hlt, HC.out, HB2.out⟩
          case measure => simp [intOf]; omega
      · have e1 : decide ((j : Int) < (xss.length : Int)) = false := by simp; omega
        have HE : Hid (q = true) := Lib.hid (by
          rw [HQ.out]
          refine decide_eq_true ?_
          have h3 := HS.out
          have h4 := HLn.out
          rwa [List.take_of_length_le (by omega), List.take_of_length_le (by omega)] at h3)
        go_wp2
        go_ret
        exact ⟨by rw [HE.out]; rfl, HB.out⟩
  · have e0 : ((xss.length : Int) != (yss.length : Int)) = true := by simp; omega
    have HE : Hid (q = false) := Lib.hid (by rw [HQ.out]; exact decide_eq_false fun h => hlen (by rw [h]))
    clear hlen
    go_enter Try.func76, Try.ntmps76
    go_wp2_with fail
    go_ret
    exact ⟨by rw [HE.out]; rfl, HB.out⟩

set_option maxHeartbeats 1000000 in
/-- impl.EqualDatabases -/
theorem impl_ed {l1 l2 : Nat} {w : World} {u v : Value} {xss yss : List (List Int)} (hu : Rd2 l1 .u8 w u xss) (hv : Rd2 l2 .u8 w v yss) (hl1 : l1 ≤ w.heap.size) (hl2 : l2 ≤ w.heap.size) (hn : tot xss ≤ 1099511627776) :
    Calls Try.prog 45 #[.agg #[u], .agg #[v]] w fun e w' => e = .returned (.bool (decide (xss = yss))) ∧ Below w.heap.size w w' := by
  obtain ⟨a, cap, rfl, _⟩ := hu.open
  obtain ⟨a', cap', rfl, _⟩ := hv.open
  have HB := Lib.hid (((Below.refl w.heap.size w).alloc (Nat.le_refl _) (.cells #[.slice a xss.length cap] 39)).alloc (by simp) (.cells #[.slice a' yss.length cap'] 39))
  have HU := Lib.hid (hu.behind (HB.out.mono hl1))
  have HV := Lib.hid (hv.behind (HB.out.mono hl2))
  clear hu hv
  go_enter Try.func45, Try.ntmps45
  go_wp2_with fail
  refine (slices_er HU.out HV.out (Nat.le_trans hl1 HB.out.size) (Nat.le_trans hl2 HB.out.size) hn).mono ?_
  rintro e w3 ⟨rfl, hb⟩
  have HB3 := Lib.hid (HB.out.trans (hb.mono HB.out.size))
  clear hb
  go_wp2_with fail
  go_ret
  exact ⟨rfl, HB3.out⟩

end Go.Proofs.Ytdipignajccdcaa
