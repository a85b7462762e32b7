/- Spent lists: whether a number is spent, equality, secrets of epochs; the program's and the document's; what the program takes from slices. No conditions but numbers and lengths that a machine holds. -/
import Derived.Test.YtdlbpeippmibcaaSp1
import Derived.Test.YtdlbpeippmibcaaBbT
import Derived.Lib.SliceRun
namespace Go.Proofs.Ytdlbpeippmibcaa
open Go Go.RowKit
set_option linter.unusedVariables false
set_option maxRecDepth 20000
attribute [local irreducible] kh kid pwm tcm pw chl

theorem mem_at {zs : List Int} {n : Int} {j : Nat} (hj : j < zs.length) (h : zs.getD j 0 = n) : memS zs n = true := by
  rw [memS_iff, ← h, List.getD_eq_getElem?_getD, List.getElem?_eq_getElem hj]
  exact List.getElem_mem hj
theorem mem_none {zs : List Int} {n : Int} (h : ∀ i, i < zs.length → zs.getD i 0 ≠ n) : memS zs n = false := by
  rw [memS_no]
  intro hc
  obtain ⟨i, hi, he⟩ := List.mem_iff_getElem.1 hc
  exact h i hi (by rw [List.getD_eq_getElem?_getD, List.getElem?_eq_getElem hi]; exact he)
/-- Whether two lists are the same. -/
def eqSL (e f : Int) (xs ys : List Int) : Bool := (e == f) && decide (xs = ys)

set_option maxHeartbeats 1000000 in
/-- slices.Index -/
theorem index_any {lim : Nat} {w : World} {v : Value} {zs : List Int} {n : Int} (h : Rd lim .i64 w v zs) (hlim : lim ≤ w.heap.size) :
    Calls Try.prog 85 #[v, .int .i64 n] w fun x w' => ∃ r : Int, x = .returned (.int .i64 r) ∧ decide (0 ≤ r) = memS zs n ∧ w' = w := by
  obtain ⟨p, cap, rfl, h1, h2, hc⟩ := h.open
  have Hc := Lib.hid hc
  have hlen : zs.length ≤ 9223372036854775807 := by unfold maxLen at h2; omega
  clear h hc
  unfold maxLen at h2
  go_enter Try.func85, Try.ntmps85
  go_wp2_with fail
  go_loopw [8] (fun i wr => ∃ j : Nat, i = .int .i64 j ∧ j ≤ zs.length ∧ (∀ i, i < j → zs.getD i 0 ≠ n) ∧ wr = w) (fun i _ => zs.length - (intOf i).toNat)
  case atStart => exact ⟨0, rfl, Nat.zero_le _, fun i hi => by omega, rfl⟩
  case round =>
    obtain ⟨j, rfl, hj, hno, rfl⟩ := hrel
    have HNo := Lib.hid hno
    clear hno
    by_cases hlt : j < zs.length
    · have e1 : decide ((j : Int) < (zs.length : Int)) = true := by simp; omega
      have hji : (j : Int) < (zs.length : Int) := by omega
      obtain ⟨b, o, rfl, hb, hcell⟩ := Hc.out (by omega)
      have d1 := hcell _ (Below.refl _ _ |>.mono hlim) j hlt
      obtain ⟨z, hz⟩ : ∃ z, z = zs.getD j 0 := ⟨_, rfl⟩
      rw [← hz] at d1
      have HZ := Lib.hid hz
      clear hcell hz
      by_cases hzn : n = z
      · have e2 : (n == z) = true := beq_iff_eq.2 hzn
        have HN := Lib.hid (mem_at (n := n) hlt (by rw [← HZ.out]; exact hzn.symm))
        clear hzn
        go_wp2_with fail
        go_ret
        exact ⟨j, rfl, by rw [HN.out]; exact decide_eq_true (by omega), rfl⟩
      · have e2 : (n == z) = false := beq_eq_false_iff_ne.2 hzn
        have HN : Hid (z ≠ n) := Lib.hid (fun h => hzn h.symm)
        clear hzn
        go_wp2_with fail
        go_roundw
        case rel =>
          refine ⟨j + 1, by simp, hlt, fun i hi => ?_, by first | rfl | trivial⟩
          by_cases hij : i = j
          · rw [hij, ← HZ.out]; exact HN.out
          · exact HNo.out i (by omega)
        case measure => simp [intOf]; omega
    · have e1 : decide ((j : Int) < (zs.length : Int)) = false := by simp; omega
      have HN := Lib.hid (mem_none (n := n) (fun i hi => HNo.out i (by omega)))
      go_wp2_with fail
      go_ret
      exact ⟨-1, rfl, by rw [HN.out]; rfl, rfl⟩

/-- slices.Contains -/
theorem contains_any {lim : Nat} {w : World} {v : Value} {zs : List Int} {n : Int} (h : Rd lim .i64 w v zs) (hlim : lim ≤ w.heap.size) :
    Calls Try.prog 59 #[v, .int .i64 n] w fun x w' => x = .returned (.bool (memS zs n)) ∧ w' = w := by
  have H := Lib.hid h
  obtain ⟨p, cap, rfl, _⟩ := h.open
  clear h
  obtain ⟨q, hq⟩ : ∃ q, q = memS zs n := ⟨_, rfl⟩
  have HQ := Lib.hid hq
  rw [← hq]
  clear hq
  go_enter Try.func59, Try.ntmps59
  go_wp2_with fail
  refine (index_any H.out hlim).mono ?_
  rintro e w1 ⟨r, rfl, hr, hw⟩
  subst hw
  rw [← HQ.out] at hr
  go_wp2_with fail
  go_ret
  exact ⟨rfl, rfl⟩

set_option maxHeartbeats 2000000 in
/-- slices.Clone -/
theorem clone_ints {l : Nat} {w : World} {v : Value} {zs : List Int} (h : Rd l .i64 w v zs) (hl : l ≤ w.heap.size) (hb : zs.length ≤ 17592186044415) :
    Calls Try.prog 79 #[v] w fun e w' => ∃ v', e = .returned v' ∧ Own 3 .i64 w.heap.size w' v' zs ∧ Below w.heap.size w w' := by
  obtain ⟨i0, hi, hz0, hz1, hz2⟩ := info_parts infoi64
  have Hhi := Lib.hid hi
  have HB := Lib.hid hb
  have hb0 := (Below.refl w.heap.size w).alloc (Nat.le_refl _) (.cells #[] 3)
  have O1 := Lib.hid (Own.lit (w := w) (B := w.heap.size) 3 .i64 (Nat.le_refl _))
  have R1 := Lib.hid ((h.mono hl).behind hb0)
  have B1 := Lib.hid hb0
  obtain ⟨p, cap, rfl, h1, h2, hc⟩ := h.open
  clear h hi hb hb0
  cases p with
  | none =>
    have hnl : ∀ w' : World, (binOp .eql 24 (.slice none 0 cap) (.slice none 0 0)).run Try.prog w' = .ok (.bool true) w' := fun w' => Lib.run_eql_slice_nil (P := Try.prog) w' 24 3 none 0 cap 0 0 Try.underlying24
    have hz : zs.length = 0 := by
      rcases Nat.eq_zero_or_pos zs.length with h | h
      · exact h
      · obtain ⟨b, o, he, _⟩ := hc h
        cases he
    obtain rfl : zs = [] := List.eq_nil_of_length_eq_zero hz
    clear hc hz
    go_enter Try.func79, Try.ntmps79
    go_wp2_with fail
    go_ret
    exact ⟨_, rfl, Own.nil _ _ (Nat.le_refl _), Below.refl _ _⟩
  | some g =>
    have hnl : ∀ w' : World, (binOp .eql 24 (.slice (some g) zs.length cap) (.slice none 0 0)).run Try.prog w' = .ok (.bool false) w' := fun w' => Lib.run_eql_slice_nil (P := Try.prog) w' 24 3 (some g) zs.length cap 0 0 Try.underlying24
    clear hc
    go_enter Try.func79, Try.ntmps79
    go_wp2_with (first | (at_builtin; refine append_rd _ rfl _ _ 24 rfl 3 i0 (.int .i64 0) 8 Try.underlying24 Hhi.out hz0 hz1 hz2 rfl (by omega) rfl O1.out rfl R1.out (by have := HB.out; simp only [List.length_nil]; omega) ?_))
    intro v8 w8 h8 hg8
    have H8 := Lib.hid (show Own 3 .i64 w.heap.size w8 v8 zs from h8)
    have B8 := Lib.hid (B1.out.trans (O1.out.below (Nat.le_refl _) hg8))
    clear h8 hg8
    go_wp2_with fail
    go_ret
    exact ⟨_, rfl, H8.out, B8.out⟩

set_option maxHeartbeats 1000000 in
/-- impl.IsSpent -/
theorem impl_iss {lim : Nat} {w : World} {v : Value} {zs : List Int} {e n : Int} (h : Rd lim .i64 w v zs) (hlim : lim ≤ w.heap.size) :
    Calls Try.prog 21 #[.agg #[.int .i64 e, v], .int .i64 n] w fun x w' => x = .returned (.bool (memS zs n)) ∧ Below w.heap.size w w' := by
  obtain ⟨p, cap, rfl, h1, h2, hc⟩ := h.open
  have hk := heap_alloc_new w (.cells #[.int .i64 e, .slice p zs.length cap] 26)
  obtain ⟨W0, hW0⟩ : ∃ W, W = w.alloc (.cells #[.int .i64 e, .slice p zs.length cap] 26) := ⟨_, rfl⟩
  have hb0 : Below w.heap.size w W0 := by rw [hW0]; exact (Below.refl w.heap.size w).alloc (Nat.le_refl _) _
  rw [← hW0] at hk
  have HW0 := Lib.hid hW0
  have Hc := Lib.hid hc
  have H := Lib.hid h
  have HK := Lib.hid hk
  have HB0 := Lib.hid hb0
  have hlen : zs.length ≤ 9223372036854775807 := by unfold maxLen at h2; omega
  clear h hc hk hW0 hb0
  unfold maxLen at h2
  obtain ⟨c0, c1, _⟩ := scs HK.out
  rw [HW0.out] at c0 c1
  have HRd := Lib.hid (H.out.behind (HB0.out.mono hlim))
  clear h2
  go_enter Try.func21, Try.ntmps21
  go_wp2_with fail
  rw [← HW0.out]
  refine (contains_any HRd.out (Nat.le_trans hlim HB0.out.size)).mono ?_
  rintro e w1 ⟨rfl, hw⟩
  obtain rfl := hw.symm
  go_wp2_with fail
  go_ret
  exact ⟨rfl, HB0.out⟩

set_option maxHeartbeats 1000000 in
/-- spec.IsSpent -/
theorem spec_iss {lim : Nat} {w : World} {v : Value} {zs : List Int} {e n : Int} (h : Rd lim .i64 w v zs) (hlim : lim ≤ w.heap.size) :
    Calls Try.prog 26 #[.agg #[.int .i64 e, v], .int .i64 n] w fun x w' => x = .returned (.bool (memS zs n)) ∧ Below w.heap.size w w' := by
  obtain ⟨p, cap, rfl, h1, h2, hc⟩ := h.open
  have hk := heap_alloc_new w (.cells #[.int .i64 e, .slice p zs.length cap] 26)
  obtain ⟨W0, hW0⟩ : ∃ W, W = w.alloc (.cells #[.int .i64 e, .slice p zs.length cap] 26) := ⟨_, rfl⟩
  have hb0 : Below w.heap.size w W0 := by rw [hW0]; exact (Below.refl w.heap.size w).alloc (Nat.le_refl _) _
  rw [← hW0] at hk
  have HW0 := Lib.hid hW0
  have Hc := Lib.hid hc
  have H := Lib.hid h
  have HK := Lib.hid hk
  have HB0 := Lib.hid hb0
  have hlen : zs.length ≤ 9223372036854775807 := by unfold maxLen at h2; omega
  clear h hc hk hW0 hb0
  unfold maxLen at h2
  go_enter Try.func26, Try.ntmps26
  go_wp2_with fail
  rw [← HW0.out]
  go_loopw [5] (fun i wr => ∃ j : Nat, i = .int .i64 j ∧ j ≤ zs.length ∧ (∀ i, i < j → zs.getD i 0 ≠ n) ∧ wr = W0) (fun i _ => zs.length - (intOf i).toNat)
  case atStart => exact ⟨0, rfl, Nat.zero_le _, fun i hi => by omega, rfl⟩
  case round =>
    obtain ⟨j, rfl, hj, hno, rfl⟩ := hrel
    have HNo := Lib.hid hno
    obtain ⟨c0, c1, _⟩ := scs HK.out
    clear hno
    by_cases hlt : j < zs.length
    · have e1 : decide ((j : Int) < (zs.length : Int)) = true := by simp; omega
      have hji : (j : Int) < (zs.length : Int) := by omega
      obtain ⟨b, o, rfl, hb, hcell⟩ := Hc.out (by omega)
      have d1 := hcell _ (HB0.out.mono hlim) j hlt
      obtain ⟨z, hz⟩ : ∃ z, z = zs.getD j 0 := ⟨_, rfl⟩
      rw [← hz] at d1
      have HZ := Lib.hid hz
      clear hcell hz
      by_cases hzn : z = n
      · have e2 : (z == n) = true := beq_iff_eq.2 hzn
        have HN := Lib.hid (mem_at (n := n) hlt (by rw [← HZ.out]; exact hzn))
        clear hzn
        go_wp2_with fail
        go_ret
        exact ⟨by rw [HN.out]; rfl, HB0.out⟩
      · have e2 : (z == n) = false := beq_eq_false_iff_ne.2 hzn
        have HN : Hid (z ≠ n) := Lib.hid hzn
        clear hzn
        go_wp2_with fail
        go_roundw
        case rel =>
          refine ⟨j + 1, by simp, hlt, fun i hi => ?_, by first | rfl | trivial⟩
          by_cases hij : i = j
          · rw [hij, ← HZ.out]; exact HN.out
          · exact HNo.out i (by omega)
        case measure => simp [intOf]; omega
    · have e1 : decide ((j : Int) < (zs.length : Int)) = false := by simp; omega
      have HN := Lib.hid (mem_none (n := n) (fun i hi => HNo.out i (by omega)))
      go_wp2_with fail
      go_ret
      exact ⟨by rw [HN.out]; rfl, HB0.out⟩

set_option maxHeartbeats 1000000 in
/-- impl.EqualSpentLists -/
theorem impl_esl {l1 l2 : Nat} {w : World} {u v : Value} {xs ys : List Int} {e f : Int} (hu : Rd l1 .i64 w u xs) (hv : Rd l2 .i64 w v ys) (hl1 : l1 ≤ w.heap.size) (hl2 : l2 ≤ w.heap.size) :
    Calls Try.prog 17 #[.agg #[.int .i64 e, u], .agg #[.int .i64 f, v]] w fun x w' => x = .returned (.bool (eqSL e f xs ys)) ∧ Below w.heap.size w w' := by
  obtain ⟨p, cap, rfl, _⟩ := hu.open
  obtain ⟨p', cap', rfl, _⟩ := hv.open
  obtain ⟨q, hq⟩ : ∃ q, q = eqSL e f xs ys := ⟨_, rfl⟩
  have HQ := Lib.hid hq
  rw [← hq]
  have K := blocks2T w (.cells #[.int .i64 e, .slice p xs.length cap] 26) (.cells #[.int .i64 f, .slice p' ys.length cap'] 26)
  have hb := ((Below.refl w.heap.size w).alloc (Nat.le_refl _) (.cells #[.int .i64 e, .slice p xs.length cap] 26)).alloc (by simp) (.cells #[.int .i64 f, .slice p' ys.length cap'] 26)
  obtain ⟨W0, hW0⟩ : ∃ W, W = (w.alloc (.cells #[.int .i64 e, .slice p xs.length cap] 26)).alloc (.cells #[.int .i64 f, .slice p' ys.length cap'] 26) := ⟨_, rfl⟩
  rw [← hW0] at K hb
  have HW0 := Lib.hid hW0
  have HU := Lib.hid (hu.behind (hb.mono hl1))
  have HV := Lib.hid (hv.behind (hb.mono hl2))
  have HB := Lib.hid hb
  obtain ⟨c0, c1, _⟩ := scs K.1
  obtain ⟨d0, d1, _⟩ := scs K.2
  rw [hW0] at c0 c1 d0 d1
  clear hu hv hq K hb hW0
  by_cases hef : e = f
  · have e1 : (e == f) = true := beq_iff_eq.2 hef
    have HE : Hid (decide (xs = ys) = q) := Lib.hid (by rw [HQ.out]; unfold eqSL; rw [e1]; rfl)
    clear hef
    go_enter Try.func17, Try.ntmps17
    go_wp2_with fail
    rw [← HW0.out]
    refine (impl_eqi HU.out HV.out (Nat.le_trans hl1 HB.out.size) (Nat.le_trans hl2 HB.out.size)).mono ?_
    rw [HE.out]
    rintro e' w1 ⟨rfl, hb⟩
    replace HB := Lib.hid (HB.out.trans (hb.mono HB.out.size))
    clear hb
    go_wp2_with fail
    go_ret
    exact ⟨rfl, HB.out⟩
  · have e1 : (e == f) = false := beq_eq_false_iff_ne.2 hef
    have HE : Hid (q = false) := Lib.hid (by rw [HQ.out]; unfold eqSL; rw [e1]; rfl)
    clear hef
    go_enter Try.func17, Try.ntmps17
    go_wp2_with fail
    go_ret
    exact ⟨by rw [HE.out]; rfl, by rw [← HW0.out]; exact HB.out⟩

set_option maxHeartbeats 1000000 in
/-- spec.EqualSpentLists -/
theorem spec_esl {l1 l2 : Nat} {w : World} {u v : Value} {xs ys : List Int} {e f : Int} (hu : Rd l1 .i64 w u xs) (hv : Rd l2 .i64 w v ys) (hl1 : l1 ≤ w.heap.size) (hl2 : l2 ≤ w.heap.size) :
    Calls Try.prog 41 #[.agg #[.int .i64 e, u], .agg #[.int .i64 f, v]] w fun x w' => x = .returned (.bool (eqSL e f xs ys)) ∧ Below w.heap.size w w' := by
  obtain ⟨p, cap, rfl, _⟩ := hu.open
  obtain ⟨p', cap', rfl, _⟩ := hv.open
  obtain ⟨q, hq⟩ : ∃ q, q = eqSL e f xs ys := ⟨_, rfl⟩
  have HQ := Lib.hid hq
  rw [← hq]
  have K := blocks2T w (.cells #[.int .i64 e, .slice p xs.length cap] 26) (.cells #[.int .i64 f, .slice p' ys.length cap'] 26)
  have hb := ((Below.refl w.heap.size w).alloc (Nat.le_refl _) (.cells #[.int .i64 e, .slice p xs.length cap] 26)).alloc (by simp) (.cells #[.int .i64 f, .slice p' ys.length cap'] 26)
  obtain ⟨W0, hW0⟩ : ∃ W, W = (w.alloc (.cells #[.int .i64 e, .slice p xs.length cap] 26)).alloc (.cells #[.int .i64 f, .slice p' ys.length cap'] 26) := ⟨_, rfl⟩
  rw [← hW0] at K hb
  have HW0 := Lib.hid hW0
  have HU := Lib.hid (hu.behind (hb.mono hl1))
  have HV := Lib.hid (hv.behind (hb.mono hl2))
  have HB := Lib.hid hb
  obtain ⟨c0, c1, _⟩ := scs K.1
  obtain ⟨d0, d1, _⟩ := scs K.2
  rw [hW0] at c0 c1 d0 d1
  clear hu hv hq K hb hW0
  by_cases hef : e = f
  · have e1 : (e == f) = true := beq_iff_eq.2 hef
    have HE : Hid (decide (xs = ys) = q) := Lib.hid (by rw [HQ.out]; unfold eqSL; rw [e1]; rfl)
    clear hef
    go_enter Try.func41, Try.ntmps41
    go_wp2_with fail
    rw [← HW0.out]
    refine (spec_eqi HU.out HV.out (Nat.le_trans hl1 HB.out.size) (Nat.le_trans hl2 HB.out.size)).mono ?_
    rw [HE.out]
    rintro e' w1 ⟨rfl, hb⟩
    replace HB := Lib.hid (HB.out.trans (hb.mono HB.out.size))
    clear hb
    go_wp2_with fail
    go_ret
    exact ⟨rfl, HB.out⟩
  · have e1 : (e == f) = false := beq_eq_false_iff_ne.2 hef
    have HE : Hid (q = false) := Lib.hid (by rw [HQ.out]; unfold eqSL; rw [e1]; rfl)
    clear hef
    go_enter Try.func41, Try.ntmps41
    go_wp2_with fail
    go_ret
    exact ⟨by rw [HE.out]; rfl, by rw [← HW0.out]; exact HB.out⟩

set_option maxHeartbeats 1000000 in
/-- impl.EpochSecret -/
theorem impl_eps {w : World} {m n : Int} (hm : (Lit.int .i64 m).wf = true) (hn : (Lit.int .i64 n).wf = true) :
    Calls Try.prog 19 #[.int .i64 m, .int .i64 n] w fun x w' => x = .returned (.int .i64 (epS m n)) ∧ Below w.heap.size w w' := by
  have HR := Lib.hid (Rd.two 3 .i64 w 103 n (by decide) hn)
  have HM := Lib.hid hm
  have HB := Lib.hid ((Below.refl w.heap.size w).alloc (Nat.le_refl _) (.cells #[.int .i64 103, .int .i64 n] 3))
  have hq := kh_bound m [103, n]
  obtain ⟨q, hqe⟩ : ∃ q, q = kh m [103, n] := ⟨_, rfl⟩
  obtain ⟨t, ht⟩ : ∃ t, t = epS m n := ⟨_, rfl⟩
  rw [← hqe] at hq
  rw [← ht]
  have HQ := Lib.hid hqe
  have HT : Hid (1 + kid q 0 % 1018 = t) := Lib.hid (by rw [ht, hqe]; rfl)
  clear hqe ht hm hn
  go_enter Try.func19, Try.ntmps19
  go_wp2_with fail
  refine (impl_kh HR.out (by simp) HM.out).mono ?_
  rw [← HQ.out]
  rintro e w1 ⟨rfl, h1⟩
  replace HB := Lib.hid (HB.out.trans (h1.mono (by simp)))
  clear h1
  go_wp2_with fail
  refine (impl_ef (wf_i64_of (by omega) (by omega))).mono ?_
  rw [HT.out]
  rintro e w2 ⟨rfl, h1⟩
  replace HB := Lib.hid (HB.out.trans (h1.mono HB.out.size))
  clear h1
  go_wp2_with fail
  go_ret
  exact ⟨rfl, HB.out⟩

set_option maxHeartbeats 1000000 in
/-- spec.EpochSecret -/
theorem spec_eps {w : World} {m n : Int} (hm : (Lit.int .i64 m).wf = true) (hn : (Lit.int .i64 n).wf = true) :
    Calls Try.prog 36 #[.int .i64 m, .int .i64 n] w fun x w' => x = .returned (.int .i64 (epS m n)) ∧ Below w.heap.size w w' := by
  have HR := Lib.hid (Rd.two 3 .i64 w 103 n (by decide) hn)
  have HM := Lib.hid hm
  have HB := Lib.hid ((Below.refl w.heap.size w).alloc (Nat.le_refl _) (.cells #[.int .i64 103, .int .i64 n] 3))
  have hq := kh_bound m [103, n]
  obtain ⟨q, hqe⟩ : ∃ q, q = kh m [103, n] := ⟨_, rfl⟩
  obtain ⟨t, ht⟩ : ∃ t, t = epS m n := ⟨_, rfl⟩
  rw [← hqe] at hq
  rw [← ht]
  have HQ := Lib.hid hqe
  have HT : Hid (1 + kid q 0 % 1018 = t) := Lib.hid (by rw [ht, hqe]; rfl)
  clear hqe ht hm hn
  have hs := kid_nn q 0
  obtain ⟨s, hse⟩ : ∃ s, s = kid q 0 := ⟨_, rfl⟩
  rw [← hse] at hs HT
  have HS := Lib.hid hse
  clear hse
  have hTm : s % 1018 = t - 1 := by have := HT.out; omega
  have htb : 0 ≤ t - 1 ∧ t - 1 ≤ 1017 := by omega
  obtain ⟨r, hr⟩ : ∃ r, r = t - 1 := ⟨_, rfl⟩
  obtain rfl : t = 1 + r := by omega
  rw [← hr] at hTm htb
  have HTm := Lib.hid hTm
  clear hr hTm HT
  go_enter Try.func36, Try.ntmps36
  go_wp2_with fail
  refine (spec_kh HR.out (by simp) HM.out (by simp)).mono ?_
  rw [← HQ.out]
  rintro e w1 ⟨rfl, h1⟩
  replace HB := Lib.hid (HB.out.trans (h1.mono (by simp)))
  clear h1
  go_wp2_with fail
  refine (spec_cs (wf_i64_of (by omega) (by omega)) (by decide)).mono ?_
  rw [← HS.out]
  rintro e w2 ⟨rfl, h1⟩
  replace HB := Lib.hid (HB.out.trans (h1.mono HB.out.size))
  clear h1
  have hTm := HTm.out
  go_wp2_with fail
  go_ret
  exact ⟨rfl, HB.out⟩

end Go.Proofs.Ytdlbpeippmibcaa
