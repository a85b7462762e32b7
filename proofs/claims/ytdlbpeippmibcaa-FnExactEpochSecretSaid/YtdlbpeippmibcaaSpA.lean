/- Spent lists: new ones, valid ones, whether a number is spent, equality, secrets of epochs; the program's and the document's. No conditions but numbers that a machine holds. Spent lists: whether a number is spent, equality, secrets of epochs; the program's and the document's; what the program takes from slices. No conditions but numbers and lengths that a machine holds. -/
import Derived.Test.YtdlbpeippmibcaaSpD
import Derived.Test.YtdlbpeippmibcaaEqInt
import Derived.Test.YtdlbpeippmibcaaBcG
import Derived.Test.YtdlbpeippmibcaaQuietC
import Derived.BigQuiet
import Derived.Test.YtdlbpeippmibcaaBbT
import Derived.Lib.SliceRun

/-! Sp1 -/
namespace Go.Proofs.Ytdlbpeippmibcaa
open Go Go.RowKit
set_option linter.unusedVariables false
set_option maxRecDepth 20000
attribute [local irreducible] kh kid pwm tcm pw chl

theorem sc0 (x y : Value) : (#[x, y] : Array Value)[0]? = some x := rfl
theorem sc1 (x y : Value) : (#[x, y] : Array Value)[1]? = some y := rfl
/-- A block of two cells: what it holds; both written. -/
theorem scs {w : World} {b : Nat} {y0 y1 : Value} {t : TypeId} (h : w.heap[b]? = some (.cells #[y0, y1] t (0, 0))) : w.cell? ⟨b, 0, none⟩ = some y0 ∧ w.cell? ⟨b, 1, none⟩ = some y1 ∧ w.frozen? ⟨b, 0, none⟩ = false ∧ w.frozen? ⟨b, 1, none⟩ = false :=
  ⟨(blk_cell h 0).trans (sc0 _ _), (blk_cell h 1).trans (sc1 _ _), blk_free h 0, blk_free h 1⟩
theorem sst {w : World} {b : Nat} {y0 y1 : Value} {t : TypeId} (h : w.heap[b]? = some (.cells #[y0, y1] t (0, 0))) (x0 x1 : Value) :
    ((w.setCell ⟨b, 0, none⟩ x0).setCell ⟨b, 1, none⟩ x1).heap[b]? = some (.cells #[x0, x1] t (0, 0)) ∧ w.grownBy ((w.setCell ⟨b, 0, none⟩ x0).setCell ⟨b, 1, none⟩ x1) (some b) :=
  ⟨blk_set (blk_set h 0 x0) 1 x1, grown_trans (grown_set _ _ _ _) (grown_set _ _ _ _)⟩
/-- A block that lies below stands in every later world. -/
theorem stands {l : Nat} {w w' : World} {b : Nat} {o : Obj} (h : w.heap[b]? = some o) (hb : Below w.heap.size w w') : w'.heap[b]? = some o := (hb.block _ (lt_of_block h)).trans h

/-- impl.isEpoch. -/
theorem isEpoch_any {x : Int} {w : World} (hx : (Lit.int .i64 x).wf = true) : Calls Try.prog 60 #[.int .i64 x] w fun e w' => e = .returned (.bool (inR x 0 1000000000000)) ∧ w' = w := by
  go_enter Try.func60, Try.ntmps60
  go_wp2_with fail
  refine (impl_in _ _ _ _ hx).mono ?_
  rintro e w1 ⟨rfl, rfl⟩
  go_wp2_with fail
  go_ret
  exact ⟨rfl, rfl⟩

set_option maxHeartbeats 1000000 in
/-- impl.NewSpentList. -/
theorem impl_nsl {n : Int} {w : World} (hn : (Lit.int .i64 n).wf = true) :
    Calls Try.prog 29 #[.int .i64 n] w fun e w' => e = .returned (.agg #[.int .i64 (epN n), .slice none 0 0]) ∧ Below w.heap.size w w' := by
  have HB := fun x : Int => (Below.refl w.heap.size w).alloc (Nat.le_refl _) (.cells #[.int .i64 x, .slice none 0 0] 26)
  cases hr : inR n 0 1000000000000 with
  | false =>
    have HR := Lib.hid hr
    have HE : Hid (epN n = 0) := Lib.hid (if_neg (by rw [hr]; decide))
    clear hr
    go_enter Try.func29, Try.ntmps29
    go_wp2_with fail
    refine (isEpoch_any hn).mono ?_
    rw [HR.out]
    rintro e w1 ⟨rfl, hw⟩
    subst hw
    go_wp2_with fail
    rw [HE.out]
    exact bodyPost_ret (v := .agg #[.int .i64 0, .slice none 0 0]) (by simp [results, Try.results29, go_sem]) rfl ⟨rfl, HB _⟩
  | true =>
    have HR := Lib.hid hr
    have HE : Hid (epN n = n) := Lib.hid (if_pos hr)
    clear hr
    go_enter Try.func29, Try.ntmps29
    go_wp2_with fail
    refine (isEpoch_any hn).mono ?_
    rw [HR.out]
    rintro e w1 ⟨rfl, hw⟩
    subst hw
    go_wp2_with fail
    rw [HE.out]
    exact bodyPost_ret (v := .agg #[.int .i64 n, .slice none 0 0]) (by simp [results, Try.results29, go_sem]) rfl ⟨rfl, HB _⟩

set_option maxHeartbeats 1000000 in
/-- spec.NewSpentList. -/
theorem spec_nsl {n : Int} {w : World} (hn : (Lit.int .i64 n).wf = true) :
    Calls Try.prog 28 #[.int .i64 n] w fun e w' => e = .returned (.agg #[.int .i64 (epN n), .slice none 0 0]) ∧ Below w.heap.size w w' := by
  have HB := fun x : Int => (Below.refl w.heap.size w).alloc (Nat.le_refl _) (.cells #[.int .i64 x, .slice none 0 0] 26)
  cases hr : inR n 0 1000000000000 with
  | false =>
    have HR := Lib.hid hr
    have HE : Hid (epN n = 0) := Lib.hid (if_neg (by rw [hr]; decide))
    clear hr
    go_enter Try.func28, Try.ntmps28
    go_wp2_with fail
    refine (spec_in _ _ _ _ hn).mono ?_
    rw [HR.out]
    rintro e w1 ⟨rfl, hw⟩
    subst hw
    go_wp2_with fail
    rw [HE.out]
    exact bodyPost_ret (v := .agg #[.int .i64 0, .slice none 0 0]) (by simp [results, Try.results28, go_sem]) rfl ⟨rfl, HB _⟩
  | true =>
    have HR := Lib.hid hr
    have HE : Hid (epN n = n) := Lib.hid (if_pos hr)
    clear hr
    go_enter Try.func28, Try.ntmps28
    go_wp2_with fail
    refine (spec_in _ _ _ _ hn).mono ?_
    rw [HR.out]
    rintro e w1 ⟨rfl, hw⟩
    subst hw
    go_wp2_with fail
    rw [HE.out]
    exact bodyPost_ret (v := .agg #[.int .i64 n, .slice none 0 0]) (by simp [results, Try.results28, go_sem]) rfl ⟨rfl, HB _⟩

/-- What a loop over a list has found: in range, ascending. -/
def okUp (zs : List Int) (j : Nat) : Prop := ∀ i, i < j → (0 ≤ zs.getD i 0 ∧ zs.getD i 0 ≤ 100000) ∧ (0 < i → zs.getD (i - 1) 0 < zs.getD i 0)
def leastN (zs : List Int) : Nat → Int
  | 0 => 0
  | k + 1 => zs.getD k 0 + 1
theorem okUp_zero (zs : List Int) : okUp zs 0 := fun i hi => by omega
theorem okUp_full {zs : List Int} (h : okUp zs zs.length) : okSl zs = true := decide_eq_true h
theorem okUp_step {zs : List Int} {j : Nat} (h : okUp zs j) (h1 : 0 ≤ zs.getD j 0 ∧ zs.getD j 0 ≤ 100000) (h2 : 0 < j → zs.getD (j - 1) 0 < zs.getD j 0) : okUp zs (j + 1) := by
  intro i hi
  by_cases hij : i = j
  · subst hij; exact ⟨h1, h2⟩
  · exact h i (by omega)
theorem okUp_stop {zs : List Int} {j : Nat} (hj : j < zs.length) (h : ¬ ((0 ≤ zs.getD j 0 ∧ zs.getD j 0 ≤ 100000) ∧ (0 < j → zs.getD (j - 1) 0 < zs.getD j 0))) : okSl zs = false :=
  decide_eq_false (fun hc => h (hc j hj))
theorem inRi {x a b : Int} : inR x a b = true ↔ a ≤ x ∧ x ≤ b := by unfold inR; simp
theorem inRn {x a b : Int} : inR x a b = false ↔ ¬ (a ≤ x ∧ x ≤ b) := by rw [← inRi]; cases inR x a b <;> simp
theorem least_bound {zs : List Int} {j : Nat} (h : okUp zs j) : 0 ≤ leastN zs j ∧ leastN zs j ≤ 100001 := by
  cases j with
  | zero => exact ⟨Int.le_refl _, by show (0 : Int) ≤ 100001; omega⟩
  | succ k =>
    have := (h k (by omega)).1
    show 0 ≤ zs.getD k 0 + 1 ∧ zs.getD k 0 + 1 ≤ 100001
    omega
theorem least_yes {zs : List Int} {j : Nat} (h : okUp zs j) (hr : inR (zs.getD j 0) (leastN zs j) 100000 = true) : okUp zs (j + 1) := by
  have hb := least_bound h
  rw [inRi] at hr
  refine okUp_step h ⟨by omega, hr.2⟩ (fun h0 => ?_)
  cases j with
  | zero => omega
  | succ k =>
    have : leastN zs (k + 1) = zs.getD k 0 + 1 := rfl
    show zs.getD k 0 < _
    omega
theorem least_no {zs : List Int} {j : Nat} (hj : j < zs.length) (hr : inR (zs.getD j 0) (leastN zs j) 100000 = false) : okSl zs = false := by
  rw [inRn] at hr
  refine okUp_stop hj (fun hc => hr ⟨?_, hc.1.2⟩)
  cases j with
  | zero => exact hc.1.1
  | succ k =>
    have := hc.2 (by omega)
    show zs.getD k 0 + 1 ≤ _
    have e : zs.getD (k + 1 - 1) 0 = zs.getD k 0 := rfl
    omega

set_option maxHeartbeats 2000000 in
/-- impl.IsValidSpentList. -/
theorem impl_vsl {lim : Nat} {w : World} {v : Value} {zs : List Int} {e : Int} (h : Rd lim .i64 w v zs) (hlim : lim ≤ w.heap.size) (he : (Lit.int .i64 e).wf = true) :
    Calls Try.prog 22 #[.agg #[.int .i64 e, v]] w fun x w' => x = .returned (.bool (slv e zs)) ∧ Below w.heap.size w w' := by
  obtain ⟨q, hq⟩ : ∃ q, q = slv e zs := ⟨_, rfl⟩
  have HQ := Lib.hid hq
  rw [← hq]
  clear hq
  obtain ⟨p, cap, rfl, h1, h2, hc⟩ := h.open
  have hk := heap_alloc_new w (.cells #[.int .i64 e, .slice p zs.length cap] 26)
  obtain ⟨W0, hW0⟩ : ∃ W, W = w.alloc (.cells #[.int .i64 e, .slice p zs.length cap] 26) := ⟨_, rfl⟩
  have hb0 : Below w.heap.size w W0 := by rw [hW0]; exact (Below.refl w.heap.size w).alloc (Nat.le_refl _) _
  rw [← hW0] at hk
  have HW0 := Lib.hid hW0
  have Hc := Lib.hid hc
  have H := Lib.hid h
  have HK := Lib.hid hk
  have HB0 := Lib.hid hb0
  have hlen : zs.length ≤ 9223372036854775807 := by unfold maxLen at h2; omega
  clear h hc hk hW0 hb0
  unfold maxLen at h2
  obtain ⟨c0, c1, _⟩ := scs HK.out
  rw [HW0.out] at c0 c1
  cases hr : inR e 0 1000000000000 with
  | false =>
    have HR := Lib.hid hr
    have HE : Hid (q = false) := Lib.hid (by rw [HQ.out]; unfold slv; rw [hr]; simp)
    clear hr
    go_enter Try.func22, Try.ntmps22
    go_wp2_with fail
    refine (isEpoch_any he).mono ?_
    rw [HR.out]
    rintro e' w1 ⟨rfl, hw⟩
    subst hw
    go_wp2_with fail
    go_ret
    exact ⟨by rw [HE.out]; rfl, by rw [← HW0.out]; exact HB0.out⟩
  | true =>
  have HR := Lib.hid hr
  clear hr
  by_cases h40 : zs.length ≤ 40
  case neg =>
    have e1 : decide ((40 : Int) < (zs.length : Int)) = true := by simp; omega
    have HE : Hid (q = false) := Lib.hid (by rw [HQ.out]; unfold slv; rw [decide_eq_false h40]; simp)
    go_enter Try.func22, Try.ntmps22
    go_wp2_with fail
    refine (isEpoch_any he).mono ?_
    rw [HR.out]
    rintro e' w1 ⟨rfl, hw⟩
    subst hw
    go_wp2_with fail
    go_ret
    exact ⟨by rw [HE.out]; rfl, by rw [← HW0.out]; exact HB0.out⟩
  have e1 : decide ((40 : Int) < (zs.length : Int)) = false := by simp; omega
  have HE : Hid (q = okSl zs) := Lib.hid (by rw [HQ.out]; unfold slv; rw [HR.out, decide_eq_true h40]; simp)
  go_enter Try.func22, Try.ntmps22
  go_wp2_with fail
  refine (isEpoch_any he).mono ?_
  rw [HR.out]
  rintro e' w1 ⟨rfl, hw⟩
  subst hw
  go_wp2_with fail
  rw [← HW0.out]
  go_loopw [3, 19] (fun m i wr => ∃ j : Nat, i = .int .i64 j ∧ j ≤ zs.length ∧ m = .int .i64 (leastN zs j) ∧ okUp zs j ∧ wr = W0) (fun _ i _ => zs.length - (intOf i).toNat)
  case atStart => exact ⟨0, rfl, Nat.zero_le _, rfl, okUp_zero _, rfl⟩
  case round =>
    obtain ⟨j, rfl, hj, rfl, hU, rfl⟩ := hrel
    have HU := Lib.hid hU
    have hmb := least_bound hU
    obtain ⟨m, hm⟩ : ∃ m, m = leastN zs j := ⟨_, rfl⟩
    rw [← hm] at hmb ⊢
    have HM := Lib.hid hm
    clear hU hm c0 c1
    by_cases hlt : j < zs.length
    · have e2 : decide ((j : Int) < (zs.length : Int)) = true := by simp; omega
      obtain ⟨b, o, rfl, hb, hcell⟩ := Hc.out (by omega)
      have d1 := hcell _ (HB0.out.mono hlim) j hlt
      have hw := H.out.wf hlt
      obtain ⟨z, hz⟩ : ∃ z, z = zs.getD j 0 := ⟨_, rfl⟩
      rw [← hz] at d1 hw
      have HZ := Lib.hid hz
      have HZw := Lib.hid hw
      clear hcell hz hw
      cases hin : inR z m 100000 with
      | false =>
        have HI := Lib.hid hin
        have HN : Hid (q = false) := Lib.hid (by rw [HE.out]; exact least_no hlt (by rw [← HZ.out, ← HM.out]; exact hin))
        clear hin
        go_wp2_with fail
        refine (impl_in _ _ _ _ HZw.out).mono ?_
        rw [HI.out]
        rintro e' w2 ⟨rfl, hw⟩
        obtain rfl := hw.symm
        go_wp2_with fail
        go_ret
        exact ⟨by rw [HN.out]; rfl, HB0.out⟩
      | true =>
        have HI := Lib.hid hin
        have HY := Lib.hid (least_yes HU.out (by rw [← HZ.out, ← HM.out]; exact hin))
        have hzb := inRi.1 hin
        clear hin
        go_wp2_with fail
        refine (impl_in _ _ _ _ HZw.out).mono ?_
        rw [HI.out]
        rintro e' w2 ⟨rfl, hw⟩
        obtain rfl := hw.symm
        go_wp2_with fail
        go_roundw
        case rel => exact ⟨j + 1, by simp, hlt, by rw [HZ.out]; rfl, HY.out, by first | rfl | trivial⟩
        case measure => simp [intOf]; omega
    · have e2 : decide ((j : Int) < (zs.length : Int)) = false := by simp; omega
      have HN : Hid (q = true) := Lib.hid (by rw [HE.out]; exact okUp_full (by rw [← show j = zs.length by omega]; exact HU.out))
      go_wp2_with fail
      go_ret
      exact ⟨by rw [HN.out]; rfl, HB0.out⟩

set_option maxHeartbeats 4000000 in
/-- spec.IsValidSpentList. -/
theorem spec_vsl {lim : Nat} {w : World} {v : Value} {zs : List Int} {e : Int} (h : Rd lim .i64 w v zs) (hlim : lim ≤ w.heap.size) (he : (Lit.int .i64 e).wf = true) :
    Calls Try.prog 25 #[.agg #[.int .i64 e, v]] w fun x w' => x = .returned (.bool (slv e zs)) ∧ Below w.heap.size w w' := by
  obtain ⟨q, hq⟩ : ∃ q, q = slv e zs := ⟨_, rfl⟩
  have HQ := Lib.hid hq
  rw [← hq]
  clear hq
  obtain ⟨p, cap, rfl, h1, h2, hc⟩ := h.open
  have hk := heap_alloc_new w (.cells #[.int .i64 e, .slice p zs.length cap] 26)
  obtain ⟨W0, hW0⟩ : ∃ W, W = w.alloc (.cells #[.int .i64 e, .slice p zs.length cap] 26) := ⟨_, rfl⟩
  have hb0 : Below w.heap.size w W0 := by rw [hW0]; exact (Below.refl w.heap.size w).alloc (Nat.le_refl _) _
  rw [← hW0] at hk
  have HW0 := Lib.hid hW0
  have Hc := Lib.hid hc
  have H := Lib.hid h
  have HK := Lib.hid hk
  have HB0 := Lib.hid hb0
  have hlen : zs.length ≤ 9223372036854775807 := by unfold maxLen at h2; omega
  clear h hc hk hW0 hb0
  unfold maxLen at h2
  have HEw := Lib.hid he
  clear he
  go_enter Try.func25, Try.ntmps25
  go_wp2_with fail
  rw [← HW0.out]
  go_loopw [3] (fun i wr => ∃ j : Nat, i = .int .i64 j ∧ j ≤ zs.length ∧ okUp zs j ∧ Below W0.heap.size W0 wr) (fun i _ => zs.length - (intOf i).toNat)
  case atStart => exact ⟨0, rfl, Nat.zero_le _, okUp_zero _, Below.refl _ _⟩
  case round =>
    obtain ⟨j, rfl, hj, hU, hB⟩ := hrel
    have HU := Lib.hid hU
    have HB := Lib.hid hB
    obtain ⟨c0, c1, _⟩ := scs (stands HK.out hB (l := 0))
    clear hU hB
    by_cases hlt : j < zs.length
    · have e2 : decide ((j : Int) < (zs.length : Int)) = true := by simp; omega
      have hji : (j : Int) < (zs.length : Int) := by omega
      obtain ⟨b, o, rfl, hb, hcell⟩ := Hc.out (by omega)
      have HCell := Lib.hid hcell
      have d1 := hcell _ (HB0.out.mono hlim |>.trans (HB.out.mono (Nat.le_trans hlim HB0.out.size))) j hlt
      have hw := H.out.wf hlt
      obtain ⟨z, hz⟩ : ∃ z, z = zs.getD j 0 := ⟨_, rfl⟩
      rw [← hz] at d1 hw
      have HZ := Lib.hid hz
      have HZw := Lib.hid hw
      clear hcell hz hw
      cases hin : inR z 0 100000 with
      | false =>
        have HN : Hid (q = false) := Lib.hid (by rw [HQ.out]; unfold slv; rw [okUp_stop hlt (fun hc => by rw [← HZ.out] at hc; exact inRn.1 hin hc.1)]; rfl)
        go_wp2_with fail
        go_quiet ((go_at_call 62; exact Calls.quiet_of ((spec_in _ _ _ _ HZw.out).mono (by rintro e' w' ⟨he, rfl⟩; rw [hin] at he; exact ⟨he, 0, rfl⟩))))
        go_wp2_with fail
        go_ret
        exact ⟨by rw [HN.out]; rfl, (HB0.out.trans (HB.out.mono HB0.out.size)).trans ((below_drewN ⟨_, rfl⟩))⟩
      | true =>
        cases j with
        | zero =>
          have HY := Lib.hid (okUp_step HU.out (by rw [← HZ.out]; exact inRi.1 hin) (fun h => absurd h (by omega)))
          have d1z : wr.cell? ⟨b, o, none⟩ = some (.int .i64 z) := d1
          go_wp2_with fail
          go_quiet ((go_at_call 62; exact Calls.quiet_of ((spec_in _ _ _ _ HZw.out).mono (by rintro e' w' ⟨he, rfl⟩; rw [hin] at he; exact ⟨he, 0, rfl⟩))))
          go_wp2_with fail
          go_roundw
          case rel => exact ⟨1, by simp, hlt, HY.out, HB.out.trans (below_drewN ⟨_, rfl⟩)⟩
          case measure => simp [intOf]; omega
        | succ k =>
          have d0 := HCell.out _ (HB0.out.mono hlim |>.trans (HB.out.mono (Nat.le_trans hlim HB0.out.size))) k (by omega)
          obtain ⟨y, hy⟩ : ∃ y, y = zs.getD k 0 := ⟨_, rfl⟩
          rw [← hy] at d0
          have HY0 := Lib.hid hy
          have hk0 : (k : Int) < (zs.length : Int) := by omega
          clear hy
          by_cases hzy : z ≤ y
          · have e3 : decide (z ≤ y) = true := decide_eq_true hzy
            have HN : Hid (q = false) := Lib.hid (by rw [HQ.out]; unfold slv; rw [okUp_stop hlt (fun hc => by have := hc.2 (by omega); rw [← HZ.out, show k + 1 - 1 = k from rfl, ← HY0.out] at this; omega)]; rfl)
            clear hzy
            go_wp2_with fail
            go_quiet ((go_at_call 62; exact Calls.quiet_of ((spec_in _ _ _ _ HZw.out).mono (by rintro e' w' ⟨he, rfl⟩; rw [hin] at he; exact ⟨he, 0, rfl⟩))))
            go_wp2_with fail
            go_ret
            exact ⟨by rw [HN.out]; rfl, (HB0.out.trans (HB.out.mono HB0.out.size)).trans ((below_drewN ⟨_, rfl⟩))⟩
          · have e3 : decide (z ≤ y) = false := decide_eq_false hzy
            have HY := Lib.hid (okUp_step HU.out (by rw [← HZ.out]; exact inRi.1 hin) (fun h => by rw [← HZ.out, show k + 1 - 1 = k from rfl, ← HY0.out]; omega))
            clear hzy
            go_wp2_with fail
            go_quiet ((go_at_call 62; exact Calls.quiet_of ((spec_in _ _ _ _ HZw.out).mono (by rintro e' w' ⟨he, rfl⟩; rw [hin] at he; exact ⟨he, 0, rfl⟩))))
            go_wp2_with fail
            go_roundw
            case rel => exact ⟨k + 1 + 1, by simp, hlt, HY.out, HB.out.trans (below_drewN ⟨_, rfl⟩)⟩
            case measure => simp [intOf]; omega
    · have e2 : decide ((j : Int) < (zs.length : Int)) = false := by simp; omega
      have HO := Lib.hid (okUp_full (by rw [← show j = zs.length by omega]; exact HU.out))
      cases hr : inR e 0 1000000000000 with
      | false =>
        have HR := Lib.hid hr
        have HN : Hid (q = false) := Lib.hid (by rw [HQ.out]; unfold slv; rw [hr]; simp)
        clear hr
        go_wp2_with fail
        refine (spec_in _ _ _ _ HEw.out).mono ?_
        rw [HR.out]
        rintro e' w2 ⟨rfl, hw⟩
        obtain rfl := hw.symm
        go_wp2_with fail
        go_ret
        exact ⟨by rw [HN.out]; rfl, HB0.out.trans (HB.out.mono HB0.out.size)⟩
      | true =>
        have HR := Lib.hid hr
        clear hr
        by_cases h40 : zs.length ≤ 40
        · have e3 : decide ((zs.length : Int) ≤ 40) = true := by simp; omega
          have HN : Hid (q = true) := Lib.hid (by rw [HQ.out]; unfold slv; rw [HO.out, HR.out, decide_eq_true h40]; rfl)
          go_wp2_with fail
          refine (spec_in _ _ _ _ HEw.out).mono ?_
          rw [HR.out]
          rintro e' w2 ⟨rfl, hw⟩
          obtain rfl := hw.symm
          go_wp2_with fail
          go_ret
          exact ⟨by rw [HN.out]; rfl, HB0.out.trans (HB.out.mono HB0.out.size)⟩
        · have e3 : decide ((zs.length : Int) ≤ 40) = false := by simp; omega
          have HN : Hid (q = false) := Lib.hid (by rw [HQ.out]; unfold slv; rw [decide_eq_false h40]; simp)
          go_wp2_with fail
          refine (spec_in _ _ _ _ HEw.out).mono ?_
          rw [HR.out]
          rintro e' w2 ⟨rfl, hw⟩
          obtain rfl := hw.symm
          go_wp2_with fail
          go_ret
          exact ⟨by rw [HN.out]; rfl, HB0.out.trans (HB.out.mono HB0.out.size)⟩

end Go.Proofs.Ytdlbpeippmibcaa


/-! Sp2 -/
namespace Go.Proofs.Ytdlbpeippmibcaa
open Go Go.RowKit
set_option linter.unusedVariables false
set_option maxRecDepth 20000
attribute [local irreducible] kh kid pwm tcm pw chl

theorem mem_at {zs : List Int} {n : Int} {j : Nat} (hj : j < zs.length) (h : zs.getD j 0 = n) : memS zs n = true := by
  rw [memS_iff, ← h, List.getD_eq_getElem?_getD, List.getElem?_eq_getElem hj]
  exact List.getElem_mem hj
theorem mem_none {zs : List Int} {n : Int} (h : ∀ i, i < zs.length → zs.getD i 0 ≠ n) : memS zs n = false := by
  rw [memS_no]
  intro hc
  obtain ⟨i, hi, he⟩ := List.mem_iff_getElem.1 hc
  exact h i hi (by rw [List.getD_eq_getElem?_getD, List.getElem?_eq_getElem hi]; exact he)
/-- Whether two lists are the same. -/
def eqSL (e f : Int) (xs ys : List Int) : Bool := (e == f) && decide (xs = ys)

set_option maxHeartbeats 1000000 in
/-- slices.Index -/
theorem index_any {lim : Nat} {w : World} {v : Value} {zs : List Int} {n : Int} (h : Rd lim .i64 w v zs) (hlim : lim ≤ w.heap.size) :
    Calls Try.prog 85 #[v, .int .i64 n] w fun x w' => ∃ r : Int, x = .returned (.int .i64 r) ∧ decide (0 ≤ r) = memS zs n ∧ w' = w := by
  obtain ⟨p, cap, rfl, h1, h2, hc⟩ := h.open
  have Hc := Lib.hid hc
  have hlen : zs.length ≤ 9223372036854775807 := by unfold maxLen at h2; omega
  clear h hc
  unfold maxLen at h2
  go_enter Try.func85, Try.ntmps85
  go_wp2_with fail
  go_loopw [8] (fun i wr => ∃ j : Nat, i = .int .i64 j ∧ j ≤ zs.length ∧ (∀ i, i < j → zs.getD i 0 ≠ n) ∧ wr = w) (fun i _ => zs.length - (intOf i).toNat)
  case atStart => exact ⟨0, rfl, Nat.zero_le _, fun i hi => by omega, rfl⟩
  case round =>
    obtain ⟨j, rfl, hj, hno, rfl⟩ := hrel
    have HNo := Lib.hid hno
    clear hno
    by_cases hlt : j < zs.length
    · have e1 : decide ((j : Int) < (zs.length : Int)) = true := by simp; omega
      have hji : (j : Int) < (zs.length : Int) := by omega
      obtain ⟨b, o, rfl, hb, hcell⟩ := Hc.out (by omega)
      have d1 := hcell _ (Below.refl _ _ |>.mono hlim) j hlt
      obtain ⟨z, hz⟩ : ∃ z, z = zs.getD j 0 := ⟨_, rfl⟩
      rw [← hz] at d1
      have HZ := Lib.hid hz
      clear hcell hz
      by_cases hzn : n = z
      · have e2 : (n == z) = true := beq_iff_eq.2 hzn
        have HN := Lib.hid (mem_at (n := n) hlt (by rw [← HZ.out]; exact hzn.symm))
        clear hzn
        go_wp2_with fail
        go_ret
        exact ⟨j, rfl, by rw [HN.out]; exact decide_eq_true (by omega), rfl⟩
      · have e2 : (n == z) = false := beq_eq_false_iff_ne.2 hzn
        have HN : Hid (z ≠ n) := Lib.hid (fun h => hzn h.symm)
        clear hzn
        go_wp2_with fail
        go_roundw
        case rel =>
          refine ⟨j + 1, by simp, hlt, fun i hi => ?_, by first | rfl | trivial⟩
          by_cases hij : i = j
          · rw [hij, ← HZ.out]; exact HN.out
          · exact HNo.out i (by omega)
        case measure => simp [intOf]; omega
    · have e1 : decide ((j : Int) < (zs.length : Int)) = false := by simp; omega
      have HN := Lib.hid (mem_none (n := n) (fun i hi => HNo.out i (by omega)))
      go_wp2_with fail
      go_ret
      exact ⟨-1, rfl, by rw [HN.out]; rfl, rfl⟩

/-- slices.Contains -/
theorem contains_any {lim : Nat} {w : World} {v : Value} {zs : List Int} {n : Int} (h : Rd lim .i64 w v zs) (hlim : lim ≤ w.heap.size) :
    Calls Try.prog 59 #[v, .int .i64 n] w fun x w' => x = .returned (.bool (memS zs n)) ∧ w' = w := by
  have H := Lib.hid h
  obtain ⟨p, cap, rfl, _⟩ := h.open
  clear h
  obtain ⟨q, hq⟩ : ∃ q, q = memS zs n := ⟨_, rfl⟩
  have HQ := Lib.hid hq
  rw [← hq]
  clear hq
  go_enter Try.func59, Try.ntmps59
  go_wp2_with fail
  refine (index_any H.out hlim).mono ?_
  rintro e w1 ⟨r, rfl, hr, hw⟩
  subst hw
  rw [← HQ.out] at hr
  go_wp2_with fail
  go_ret
  exact ⟨rfl, rfl⟩

set_option maxHeartbeats 2000000 in
/-- slices.Clone -/
theorem clone_ints {l : Nat} {w : World} {v : Value} {zs : List Int} (h : Rd l .i64 w v zs) (hl : l ≤ w.heap.size) (hb : zs.length ≤ 17592186044415) :
    Calls Try.prog 79 #[v] w fun e w' => ∃ v', e = .returned v' ∧ Own 3 .i64 w.heap.size w' v' zs ∧ Below w.heap.size w w' := by
  obtain ⟨i0, hi, hz0, hz1, hz2⟩ := info_parts infoi64
  have Hhi := Lib.hid hi
  have HB := Lib.hid hb
  have hb0 := (Below.refl w.heap.size w).alloc (Nat.le_refl _) (.cells #[] 3)
  have O1 := Lib.hid (Own.lit (w := w) (B := w.heap.size) 3 .i64 (Nat.le_refl _))
  have R1 := Lib.hid ((h.mono hl).behind hb0)
  have B1 := Lib.hid hb0
  obtain ⟨p, cap, rfl, h1, h2, hc⟩ := h.open
  clear h hi hb hb0
  cases p with
  | none =>
    have hnl : ∀ w' : World, (binOp .eql 24 (.slice none 0 cap) (.slice none 0 0)).run Try.prog w' = .ok (.bool true) w' := fun w' => Lib.run_eql_slice_nil (P := Try.prog) w' 24 3 none 0 cap 0 0 Try.underlying24
    have hz : zs.length = 0 := by
      rcases Nat.eq_zero_or_pos zs.length with h | h
      · exact h
      · obtain ⟨b, o, he, _⟩ := hc h
        cases he
    obtain rfl : zs = [] := List.eq_nil_of_length_eq_zero hz
    clear hc hz
    go_enter Try.func79, Try.ntmps79
    go_wp2_with fail
    go_ret
    exact ⟨_, rfl, Own.nil _ _ (Nat.le_refl _), Below.refl _ _⟩
  | some g =>
    have hnl : ∀ w' : World, (binOp .eql 24 (.slice (some g) zs.length cap) (.slice none 0 0)).run Try.prog w' = .ok (.bool false) w' := fun w' => Lib.run_eql_slice_nil (P := Try.prog) w' 24 3 (some g) zs.length cap 0 0 Try.underlying24
    clear hc
    go_enter Try.func79, Try.ntmps79
    go_wp2_with (first | (at_builtin; refine append_rd _ rfl _ _ 24 rfl 3 i0 (.int .i64 0) 8 Try.underlying24 Hhi.out hz0 hz1 hz2 rfl (by omega) rfl O1.out rfl R1.out (by have := HB.out; simp only [List.length_nil]; omega) ?_))
    intro v8 w8 h8 hg8
    have H8 := Lib.hid (show Own 3 .i64 w.heap.size w8 v8 zs from h8)
    have B8 := Lib.hid (B1.out.trans (O1.out.below (Nat.le_refl _) hg8))
    clear h8 hg8
    go_wp2_with fail
    go_ret
    exact ⟨_, rfl, H8.out, B8.out⟩

set_option maxHeartbeats 1000000 in
/-- impl.IsSpent -/
theorem impl_iss {lim : Nat} {w : World} {v : Value} {zs : List Int} {e n : Int} (h : Rd lim .i64 w v zs) (hlim : lim ≤ w.heap.size) :
    Calls Try.prog 21 #[.agg #[.int .i64 e, v], .int .i64 n] w fun x w' => x = .returned (.bool (memS zs n)) ∧ Below w.heap.size w w' := by
  obtain ⟨p, cap, rfl, h1, h2, hc⟩ := h.open
  have hk := heap_alloc_new w (.cells #[.int .i64 e, .slice p zs.length cap] 26)
  obtain ⟨W0, hW0⟩ : ∃ W, W = w.alloc (.cells #[.int .i64 e, .slice p zs.length cap] 26) := ⟨_, rfl⟩
  have hb0 : Below w.heap.size w W0 := by rw [hW0]; exact (Below.refl w.heap.size w).alloc (Nat.le_refl _) _
  rw [← hW0] at hk
  have HW0 := Lib.hid hW0
  have Hc := Lib.hid hc
  have H := Lib.hid h
  have HK := Lib.hid hk
  have HB0 := Lib.hid hb0
  have hlen : zs.length ≤ 9223372036854775807 := by unfold maxLen at h2; omega
  clear h hc hk hW0 hb0
  unfold maxLen at h2
  obtain ⟨c0, c1, _⟩ := scs HK.out
  rw [HW0.out] at c0 c1
  have HRd := Lib.hid (H.out.behind (HB0.out.mono hlim))
  clear h2
  go_enter Try.func21, Try.ntmps21
  go_wp2_with fail
  rw [← HW0.out]
  refine (contains_any HRd.out (Nat.le_trans hlim HB0.out.size)).mono ?_
  rintro e w1 ⟨rfl, hw⟩
  obtain rfl := hw.symm
  go_wp2_with fail
  go_ret
  exact ⟨rfl, HB0.out⟩

set_option maxHeartbeats 1000000 in
/-- spec.IsSpent -/
theorem spec_iss {lim : Nat} {w : World} {v : Value} {zs : List Int} {e n : Int} (h : Rd lim .i64 w v zs) (hlim : lim ≤ w.heap.size) :
    Calls Try.prog 26 #[.agg #[.int .i64 e, v], .int .i64 n] w fun x w' => x = .returned (.bool (memS zs n)) ∧ Below w.heap.size w w' := by
  obtain ⟨p, cap, rfl, h1, h2, hc⟩ := h.open
  have hk := heap_alloc_new w (.cells #[.int .i64 e, .slice p zs.length cap] 26)
  obtain ⟨W0, hW0⟩ : ∃ W, W = w.alloc (.cells #[.int .i64 e, .slice p zs.length cap] 26) := ⟨_, rfl⟩
  have hb0 : Below w.heap.size w W0 := by rw [hW0]; exact (Below.refl w.heap.size w).alloc (Nat.le_refl _) _
  rw [← hW0] at hk
  have HW0 := Lib.hid hW0
  have Hc := Lib.hid hc
  have H := Lib.hid h
  have HK := Lib.hid hk
  have HB0 := Lib.hid hb0
  have hlen : zs.length ≤ 9223372036854775807 := by unfold maxLen at h2; omega
  clear h hc hk hW0 hb0
  unfold maxLen at h2
  go_enter Try.func26, Try.ntmps26
  go_wp2_with fail
  rw [← HW0.out]
  go_loopw [5] (fun i wr => ∃ j : Nat, i = .int .i64 j ∧ j ≤ zs.length ∧ (∀ i, i < j → zs.getD i 0 ≠ n) ∧ wr = W0) (fun i _ => zs.length - (intOf i).toNat)
  case atStart => exact ⟨0, rfl, Nat.zero_le _, fun i hi => by omega, rfl⟩
  case round =>
    obtain ⟨j, rfl, hj, hno, rfl⟩ := hrel
    have HNo := Lib.hid hno
    obtain ⟨c0, c1, _⟩ := scs HK.out
    clear hno
    by_cases hlt : j < zs.length
    · have e1 : decide ((j : Int) < (zs.length : Int)) = true := by simp; omega
      have hji : (j : Int) < (zs.length : Int) := by omega
      obtain ⟨b, o, rfl, hb, hcell⟩ := Hc.out (by omega)
      have d1 := hcell _ (HB0.out.mono hlim) j hlt
      obtain ⟨z, hz⟩ : ∃ z, z = zs.getD j 0 := ⟨_, rfl⟩
      rw [← hz] at d1
      have HZ := Lib.hid hz
      clear hcell hz
      by_cases hzn : z = n
      · have e2 : (z == n) = true := beq_iff_eq.2 hzn
        have HN := Lib.hid (mem_at (n := n) hlt (by rw [← HZ.out]; exact hzn))
        clear hzn
        go_wp2_with fail
        go_ret
        exact ⟨by rw [HN.out]; rfl, HB0.out⟩
      · have e2 : (z == n) = false := beq_eq_false_iff_ne.2 hzn
        have HN : Hid (z ≠ n) := Lib.hid hzn
        clear hzn
        go_wp2_with fail
        go_roundw
        case rel =>
          refine ⟨j + 1, by simp, hlt, fun i hi => ?_, by first | rfl | trivial⟩
          by_cases hij : i = j
          · rw [hij, ← HZ.out]; exact HN.out
          · exact HNo.out i (by omega)
        case measure => simp [intOf]; omega
    · have e1 : decide ((j : Int) < (zs.length : Int)) = false := by simp; omega
      have HN := Lib.hid (mem_none (n := n) (fun i hi => HNo.out i (by omega)))
      go_wp2_with fail
      go_ret
      exact ⟨by rw [HN.out]; rfl, HB0.out⟩

set_option maxHeartbeats 1000000 in
/-- impl.EqualSpentLists -/
theorem impl_esl {l1 l2 : Nat} {w : World} {u v : Value} {xs ys : List Int} {e f : Int} (hu : Rd l1 .i64 w u xs) (hv : Rd l2 .i64 w v ys) (hl1 : l1 ≤ w.heap.size) (hl2 : l2 ≤ w.heap.size) :
    Calls Try.prog 17 #[.agg #[.int .i64 e, u], .agg #[.int .i64 f, v]] w fun x w' => x = .returned (.bool (eqSL e f xs ys)) ∧ Below w.heap.size w w' := by
  obtain ⟨p, cap, rfl, _⟩ := hu.open
  obtain ⟨p', cap', rfl, _⟩ := hv.open
  obtain ⟨q, hq⟩ : ∃ q, q = eqSL e f xs ys := ⟨_, rfl⟩
  have HQ := Lib.hid hq
  rw [← hq]
  have K := blocks2T w (.cells #[.int .i64 e, .slice p xs.length cap] 26) (.cells #[.int .i64 f, .slice p' ys.length cap'] 26)
  have hb := ((Below.refl w.heap.size w).alloc (Nat.le_refl _) (.cells #[.int .i64 e, .slice p xs.length cap] 26)).alloc (by simp) (.cells #[.int .i64 f, .slice p' ys.length cap'] 26)
  obtain ⟨W0, hW0⟩ : ∃ W, W = (w.alloc (.cells #[.int .i64 e, .slice p xs.length cap] 26)).alloc (.cells #[.int .i64 f, .slice p' ys.length cap'] 26) := ⟨_, rfl⟩
  rw [← hW0] at K hb
  have HW0 := Lib.hid hW0
  have HU := Lib.hid (hu.behind (hb.mono hl1))
  have HV := Lib.hid (hv.behind (hb.mono hl2))
  have HB := Lib.hid hb
  obtain ⟨c0, c1, _⟩ := scs K.1
  obtain ⟨d0, d1, _⟩ := scs K.2
  rw [hW0] at c0 c1 d0 d1
  clear hu hv hq K hb hW0
  by_cases hef : e = f
  · have e1 : (e == f) = true := beq_iff_eq.2 hef
    have HE : Hid (decide (xs = ys) = q) := Lib.hid (by rw [HQ.out]; unfold eqSL; rw [e1]; rfl)
    clear hef
    go_enter Try.func17, Try.ntmps17
    go_wp2_with fail
    rw [← HW0.out]
    refine (impl_eqi HU.out HV.out (Nat.le_trans hl1 HB.out.size) (Nat.le_trans hl2 HB.out.size)).mono ?_
    rw [HE.out]
    rintro e' w1 ⟨rfl, hb⟩
    replace HB := Lib.hid (HB.out.trans (hb.mono HB.out.size))
    clear hb
    go_wp2_with fail
    go_ret
    exact ⟨rfl, HB.out⟩
  · have e1 : (e == f) = false := beq_eq_false_iff_ne.2 hef
    have HE : Hid (q = false) := Lib.hid (by rw [HQ.out]; unfold eqSL; rw [e1]; rfl)
    clear hef
    go_enter Try.func17, Try.ntmps17
    go_wp2_with fail
    go_ret
    exact ⟨by rw [HE.out]; rfl, by rw [← HW0.out]; exact HB.out⟩

set_option maxHeartbeats 1000000 in
/-- spec.EqualSpentLists -/
theorem spec_esl {l1 l2 : Nat} {w : World} {u v : Value} {xs ys : List Int} {e f : Int} (hu : Rd l1 .i64 w u xs) (hv : Rd l2 .i64 w v ys) (hl1 : l1 ≤ w.heap.size) (hl2 : l2 ≤ w.heap.size) :
    Calls Try.prog 41 #[.agg #[.int .i64 e, u], .agg #[.int .i64 f, v]] w fun x w' => x = .returned (.bool (eqSL e f xs ys)) ∧ Below w.heap.size w w' := by
  obtain ⟨p, cap, rfl, _⟩ := hu.open
  obtain ⟨p', cap', rfl, _⟩ := hv.open
  obtain ⟨q, hq⟩ : ∃ q, q = eqSL e f xs ys := ⟨_, rfl⟩
  have HQ := Lib.hid hq
  rw [← hq]
  have K := blocks2T w (.cells #[.int .i64 e, .slice p xs.length cap] 26) (.cells #[.int .i64 f, .slice p' ys.length cap'] 26)
  have hb := ((Below.refl w.heap.size w).alloc (Nat.le_refl _) (.cells #[.int .i64 e, .slice p xs.length cap] 26)).alloc (by simp) (.cells #[.int .i64 f, .slice p' ys.length cap'] 26)
  obtain ⟨W0, hW0⟩ : ∃ W, W = (w.alloc (.cells #[.int .i64 e, .slice p xs.length cap] 26)).alloc (.cells #[.int .i64 f, .slice p' ys.length cap'] 26) := ⟨_, rfl⟩
  rw [← hW0] at K hb
  have HW0 := Lib.hid hW0
  have HU := Lib.hid (hu.behind (hb.mono hl1))
  have HV := Lib.hid (hv.behind (hb.mono hl2))
  have HB := Lib.hid hb
  obtain ⟨c0, c1, _⟩ := scs K.1
  obtain ⟨d0, d1, _⟩ := scs K.2
  rw [hW0] at c0 c1 d0 d1
  clear hu hv hq K hb hW0
  by_cases hef : e = f
  · have e1 : (e == f) = true := beq_iff_eq.2 hef
    have HE : Hid (decide (xs = ys) = q) := Lib.hid (by rw [HQ.out]; unfold eqSL; rw [e1]; rfl)
    clear hef
    go_enter Try.func41, Try.ntmps41
    go_wp2_with fail
    rw [← HW0.out]
    refine (spec_eqi HU.out HV.out (Nat.le_trans hl1 HB.out.size) (Nat.le_trans hl2 HB.out.size)).mono ?_
    rw [HE.out]
    rintro e' w1 ⟨rfl, hb⟩
    replace HB := Lib.hid (HB.out.trans (hb.mono HB.out.size))
    clear hb
    go_wp2_with fail
    go_ret
    exact ⟨rfl, HB.out⟩
  · have e1 : (e == f) = false := beq_eq_false_iff_ne.2 hef
    have HE : Hid (q = false) := Lib.hid (by rw [HQ.out]; unfold eqSL; rw [e1]; rfl)
    clear hef
    go_enter Try.func41, Try.ntmps41
    go_wp2_with fail
    go_ret
    exact ⟨by rw [HE.out]; rfl, by rw [← HW0.out]; exact HB.out⟩

set_option maxHeartbeats 1000000 in
/-- impl.EpochSecret -/
theorem impl_eps {w : World} {m n : Int} (hm : (Lit.int .i64 m).wf = true) (hn : (Lit.int .i64 n).wf = true) :
    Calls Try.prog 19 #[.int .i64 m, .int .i64 n] w fun x w' => x = .returned (.int .i64 (epS m n)) ∧ Below w.heap.size w w' := by
  have HR := Lib.hid (Rd.two 3 .i64 w 103 n (by decide) hn)
  have HM := Lib.hid hm
  have HB := Lib.hid ((Below.refl w.heap.size w).alloc (Nat.le_refl _) (.cells #[.int .i64 103, .int .i64 n] 3))
  have hq := kh_bound m [103, n]
  obtain ⟨q, hqe⟩ : ∃ q, q = kh m [103, n] := ⟨_, rfl⟩
  obtain ⟨t, ht⟩ : ∃ t, t = epS m n := ⟨_, rfl⟩
  rw [← hqe] at hq
  rw [← ht]
  have HQ := Lib.hid hqe
  have HT : Hid (1 + kid q 0 % 1018 = t) := Lib.hid (by rw [ht, hqe]; rfl)
  clear hqe ht hm hn
  go_enter Try.func19, Try.ntmps19
  go_wp2_with fail
  refine (impl_kh HR.out (by simp) HM.out).mono ?_
  rw [← HQ.out]
  rintro e w1 ⟨rfl, h1⟩
  replace HB := Lib.hid (HB.out.trans (h1.mono (by simp)))
  clear h1
  go_wp2_with fail
  refine (impl_ef (wf_i64_of (by omega) (by omega))).mono ?_
  rw [HT.out]
  rintro e w2 ⟨rfl, h1⟩
  replace HB := Lib.hid (HB.out.trans (h1.mono HB.out.size))
  clear h1
  go_wp2_with fail
  go_ret
  exact ⟨rfl, HB.out⟩

set_option maxHeartbeats 1000000 in
/-- spec.EpochSecret -/
theorem spec_eps {w : World} {m n : Int} (hm : (Lit.int .i64 m).wf = true) (hn : (Lit.int .i64 n).wf = true) :
    Calls Try.prog 36 #[.int .i64 m, .int .i64 n] w fun x w' => x = .returned (.int .i64 (epS m n)) ∧ Below w.heap.size w w' := by
  have HR := Lib.hid (Rd.two 3 .i64 w 103 n (by decide) hn)
  have HM := Lib.hid hm
  have HB := Lib.hid ((Below.refl w.heap.size w).alloc (Nat.le_refl _) (.cells #[.int .i64 103, .int .i64 n] 3))
  have hq := kh_bound m [103, n]
  obtain ⟨q, hqe⟩ : ∃ q, q = kh m [103, n] := ⟨_, rfl⟩
  obtain ⟨t, ht⟩ : ∃ t, t = epS m n := ⟨_, rfl⟩
  rw [← hqe] at hq
  rw [← ht]
  have HQ := Lib.hid hqe
  have HT : Hid (1 + kid q 0 % 1018 = t) := Lib.hid (by rw [ht, hqe]; rfl)
  clear hqe ht hm hn
  have hs := kid_nn q 0
  obtain ⟨s, hse⟩ : ∃ s, s = kid q 0 := ⟨_, rfl⟩
  rw [← hse] at hs HT
  have HS := Lib.hid hse
  clear hse
  have hTm : s % 1018 = t - 1 := by have := HT.out; omega
  have htb : 0 ≤ t - 1 ∧ t - 1 ≤ 1017 := by omega
  obtain ⟨r, hr⟩ : ∃ r, r = t - 1 := ⟨_, rfl⟩
  obtain rfl : t = 1 + r := by omega
  rw [← hr] at hTm htb
  have HTm := Lib.hid hTm
  clear hr hTm HT
  go_enter Try.func36, Try.ntmps36
  go_wp2_with fail
  refine (spec_kh HR.out (by simp) HM.out (by simp)).mono ?_
  rw [← HQ.out]
  rintro e w1 ⟨rfl, h1⟩
  replace HB := Lib.hid (HB.out.trans (h1.mono (by simp)))
  clear h1
  go_wp2_with fail
  refine (spec_cs (wf_i64_of (by omega) (by omega)) (by decide)).mono ?_
  rw [← HS.out]
  rintro e w2 ⟨rfl, h1⟩
  replace HB := Lib.hid (HB.out.trans (h1.mono HB.out.size))
  clear h1
  have hTm := HTm.out
  go_wp2_with fail
  go_ret
  exact ⟨rfl, HB.out⟩

end Go.Proofs.Ytdlbpeippmibcaa
