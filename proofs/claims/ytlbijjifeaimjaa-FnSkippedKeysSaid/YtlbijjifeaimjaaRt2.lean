/- Ratchets: IsValidRatchet, the program's and the document's. No conditions but numbers that a machine holds. -/
import Derived.Test.YtlbijjifeaimjaaRt1
import Derived.BigQuiet
namespace Go.Proofs.Ytlbijjifeaimjaa
open Go Go.RowKit
set_option linter.unusedVariables false
set_option maxRecDepth 20000
attribute [local irreducible] kh kid

/-! ### What a loop over the kept keys has found -/
def okAtK (s : Int) (xs : Kept) (j : Nat) : Prop :=
  (1 ≤ (xs.getD j (0, 0)).2 ∧ (xs.getD j (0, 0)).2 ≤ 2147483646) ∧ (0 ≤ (xs.getD j (0, 0)).1 ∧ (xs.getD j (0, 0)).1 ≤ s - 1) ∧ (0 < j → (xs.getD (j - 1) (0, 0)).1 < (xs.getD j (0, 0)).1)
def okToK (s : Int) (xs : Kept) (j : Nat) : Prop := ∀ i, i < j → okAtK s xs i
theorem okToK_zero (s : Int) (xs : Kept) : okToK s xs 0 := fun i hi => by omega
theorem okToK_step {s : Int} {xs : Kept} {j : Nat} (h : okToK s xs j) (h1 : okAtK s xs j) : okToK s xs (j + 1) := fun i hi => by
  by_cases e : i = j
  · subst e; exact h1
  · exact h i (by omega)
theorem kgetD_of {xs : Kept} {j : Nat} {x : Int × Int} (h : xs[j]? = some x) : xs.getD j (0, 0) = x := by rw [List.getD_eq_getElem?_getD, h]; rfl
theorem okToK_full {s : Int} {xs : Kept} (h : okToK s xs xs.length) : keyK s xs = true ∧ ascK xs = true := by
  constructor
  · unfold keyK
    rw [List.all_eq_true]
    intro x hx
    obtain ⟨i, hi⟩ := List.mem_iff_getElem?.1 hx
    have h1 := h i (List.getElem?_eq_some_iff.1 hi).1
    unfold okAtK at h1
    rw [kgetD_of hi] at h1
    unfold inR
    simp only [Bool.and_eq_true, decide_eq_true_eq]
    omega
  · refine of_asc ?_
    have key : ∀ d i, i + d + 1 < xs.length → (xs.getD i (0, 0)).1 < (xs.getD (i + d + 1) (0, 0)).1 := by
      intro d
      induction d with
      | zero =>
        intro i hi
        exact (h (i + 1) hi).2.2 (by omega)
      | succ d ih =>
        intro i hi
        have h1 := ih i (by omega)
        have h2 := (h (i + (d + 1) + 1) hi).2.2 (by omega)
        have e : i + (d + 1) + 1 - 1 = i + d + 1 := by omega
        rw [e] at h2
        omega
    unfold Asc
    rw [List.pairwise_iff_getElem]
    intro i j hi hj hij
    have h1 := key (j - i - 1) i (by omega)
    rw [show i + (j - i - 1) + 1 = j by omega, kgetD_of (List.getElem?_eq_getElem hi), kgetD_of (List.getElem?_eq_getElem hj)] at h1
    exact h1
theorem okToK_of {s : Int} {xs : Kept} (h1 : keyK s xs = true) (h2 : ascK xs = true) : ∀ j, j < xs.length → okAtK s xs j := by
  intro j hj
  have e := List.getElem?_eq_getElem hj
  have a := keyK_lt h1 _ (List.mem_of_getElem? e)
  unfold okAtK
  rw [kgetD_of e]
  refine ⟨a.1, ⟨a.2.1, by omega⟩, fun h0 => ?_⟩
  have e2 := List.getElem?_eq_getElem (l := xs) (i := j - 1) (by omega)
  rw [kgetD_of e2]
  exact (List.pairwise_iff_getElem.1 (asc_of h2)) (j - 1) j (by omega) hj (by omega)
theorem okR_stop {c s : Int} {xs : Kept} {j : Nat} (hj : j < xs.length) (h : ¬ okAtK s xs j) : okR c s xs = false := by
  cases hq : okR c s xs with
  | false => rfl
  | true =>
    obtain ⟨_, _, _, h1, h2⟩ := okR_iff.1 hq
    exact absurd (okToK_of h1 h2 j hj) h
theorem okR_full {c s : Int} {xs : Kept} (h : okToK s xs xs.length) : okR c s xs = (inR c 1 2147483646 && (inR s 0 100000 && decide (xs.length ≤ 8))) := by
  obtain ⟨h1, h2⟩ := okToK_full h
  unfold okR
  rw [h1, h2]
  simp
theorem okR_no1 {c s : Int} {xs : Kept} (h : inR c 1 2147483646 = false) : okR c s xs = false := by unfold okR; rw [h]; simp
theorem okR_no2 {c s : Int} {xs : Kept} (h : inR s 0 100000 = false) : okR c s xs = false := by unfold okR; rw [h]; simp
theorem okR_no3 {c s : Int} {xs : Kept} (h : ¬ xs.length ≤ 8) : okR c s xs = false := by unfold okR; rw [decide_eq_false h]; simp
/-- The least step that may come next. -/
def lstK (xs : Kept) : Nat → Int
  | 0 => 0
  | k + 1 => (xs.getD k (0, 0)).1 + 1
theorem lstK_bound {s : Int} {xs : Kept} {j : Nat} (hs : 0 ≤ s ∧ s ≤ 100000) (h : okToK s xs j) : 0 ≤ lstK xs j ∧ lstK xs j ≤ 100000 := by
  cases j with
  | zero => exact ⟨Int.le_refl _, by show (0 : Int) ≤ 100000; omega⟩
  | succ k =>
    have := (h k (by omega)).2.1
    show 0 ≤ (xs.getD k (0, 0)).1 + 1 ∧ (xs.getD k (0, 0)).1 + 1 ≤ 100000
    omega
theorem lstK_yes {s : Int} {xs : Kept} {j : Nat} (hs : 0 ≤ s ∧ s ≤ 100000) (h : okToK s xs j) (hr : lstK xs j ≤ (xs.getD j (0, 0)).1 ∧ (xs.getD j (0, 0)).1 ≤ s - 1) (hk : 1 ≤ (xs.getD j (0, 0)).2 ∧ (xs.getD j (0, 0)).2 ≤ 2147483646) : okToK s xs (j + 1) := by
  have hb := lstK_bound hs h
  refine okToK_step h ⟨hk, ⟨by omega, hr.2⟩, fun h0 => ?_⟩
  cases j with
  | zero => omega
  | succ k =>
    have e : lstK xs (k + 1) = (xs.getD k (0, 0)).1 + 1 := rfl
    show (xs.getD k (0, 0)).1 < _
    omega
theorem lstK_no {s : Int} {xs : Kept} {j : Nat} (hr : ¬ (lstK xs j ≤ (xs.getD j (0, 0)).1 ∧ (xs.getD j (0, 0)).1 ≤ s - 1)) : ¬ okAtK s xs j := by
  rintro ⟨_, h1, h2⟩
  refine hr ⟨?_, h1.2⟩
  cases j with
  | zero => exact h1.1
  | succ k =>
    have := h2 (by omega)
    have e : lstK xs (k + 1) = (xs.getD k (0, 0)).1 + 1 := rfl
    have e2 : k + 1 - 1 = k := rfl
    rw [e2] at this
    omega
theorem kRi {x a b : Int} : inR x a b = true ↔ a ≤ x ∧ x ≤ b := by unfold inR; simp
theorem kRn {x a b : Int} : inR x a b = false ↔ ¬ (a ≤ x ∧ x ≤ b) := by rw [← kRi]; cases inR x a b <;> simp

set_option maxHeartbeats 4000000 in
/-- impl.IsValidRatchet. -/
theorem impl_vr {lim : Nat} {w : World} {v : Value} {xs : Kept} {c s : Int} (h : RdS kepE lim w v xs) (hlim : lim ≤ w.heap.size) (hcw : (Lit.int .i64 c).wf = true) (hsw : (Lit.int .i64 s).wf = true) :
    Calls Try.prog 10 #[.agg #[.int .i64 c, .int .i64 s, v]] w fun e w' => e = .returned (.bool (okR c s xs)) ∧ Below w.heap.size w w' := by
  obtain ⟨q, hq⟩ : ∃ q, q = okR c s xs := ⟨_, rfl⟩
  have HQ := Lib.hid hq
  rw [← hq]
  clear hq
  obtain ⟨p, cap, rfl, h1, h2, hc⟩ := h.open
  have hk := heap_alloc_new w (.cells #[.int .i64 c, .int .i64 s, .slice p xs.length cap] 26)
  obtain ⟨W0, hW0⟩ : ∃ W, W = w.alloc (.cells #[.int .i64 c, .int .i64 s, .slice p xs.length cap] 26) := ⟨_, rfl⟩
  have hb0 : Below w.heap.size w W0 := by rw [hW0]; exact (Below.refl w.heap.size w).alloc (Nat.le_refl _) _
  rw [← hW0] at hk
  have HW0 := Lib.hid hW0
  have Hc := Lib.hid hc
  have H := Lib.hid h
  have HK := Lib.hid hk
  have HB0 := Lib.hid hb0
  have HCw := Lib.hid hcw
  have HSw := Lib.hid hsw
  have hlen : xs.length ≤ 9223372036854775807 := by unfold maxLen at h2; omega
  clear h hc hk hW0 hb0 hcw hsw
  unfold maxLen at h2
  obtain ⟨c0, c1, c2⟩ := rcs HK.out
  rw [HW0.out] at c0 c1 c2
  cases hr1 : inR c 1 2147483646 with
  | false =>
    have HR1 := Lib.hid hr1
    have HE : Hid (q = false) := Lib.hid (by rw [HQ.out]; exact okR_no1 hr1)
    clear hr1
    go_enter Try.func10, Try.ntmps10
    go_wp2_with fail
    refine (impl_vk HCw.out).mono ?_
    rw [HR1.out]
    rintro e' w1 ⟨rfl, hw⟩
    subst hw
    go_wp2_with fail
    go_ret
    exact ⟨by rw [HE.out]; rfl, by rw [← HW0.out]; exact HB0.out⟩
  | true =>
  have HR1 := Lib.hid hr1
  clear hr1
  cases hr2 : inR s 0 100000 with
  | false =>
    have HR2 := Lib.hid hr2
    have HE : Hid (q = false) := Lib.hid (by rw [HQ.out]; exact okR_no2 hr2)
    clear hr2
    go_enter Try.func10, Try.ntmps10
    go_wp2_with fail
    refine (impl_vk HCw.out).mono ?_
    rw [HR1.out]
    rintro e' w1 ⟨rfl, hw⟩
    subst hw
    go_wp2_with fail
    refine (impl_in _ _ _ _ HSw.out).mono ?_
    rw [HR2.out]
    rintro e' w1 ⟨rfl, hw⟩
    subst hw
    go_wp2_with fail
    go_ret
    exact ⟨by rw [HE.out]; rfl, by rw [← HW0.out]; exact HB0.out⟩
  | true =>
  have HR2 := Lib.hid hr2
  have hsb := kRi.1 hr2
  clear hr2
  by_cases h8 : xs.length ≤ 8
  case neg =>
    have e1 : decide ((8 : Int) < (xs.length : Int)) = true := by simp; omega
    have HE : Hid (q = false) := Lib.hid (by rw [HQ.out]; exact okR_no3 h8)
    go_enter Try.func10, Try.ntmps10
    go_wp2_with fail
    refine (impl_vk HCw.out).mono ?_
    rw [HR1.out]
    rintro e' w1 ⟨rfl, hw⟩
    subst hw
    go_wp2_with fail
    refine (impl_in _ _ _ _ HSw.out).mono ?_
    rw [HR2.out]
    rintro e' w1 ⟨rfl, hw⟩
    subst hw
    go_wp2_with fail
    go_ret
    exact ⟨by rw [HE.out]; rfl, by rw [← HW0.out]; exact HB0.out⟩
  have e1 : decide ((8 : Int) < (xs.length : Int)) = false := by simp; omega
  have HE : Hid (okToK s xs xs.length → q = true) := Lib.hid (fun h => by rw [HQ.out, okR_full h, HR1.out, HR2.out, decide_eq_true h8]; rfl)
  go_enter Try.func10, Try.ntmps10
  go_wp2_with fail
  refine (impl_vk HCw.out).mono ?_
  rw [HR1.out]
  rintro e' w1 ⟨rfl, hw⟩
  subst hw
  go_wp2_with fail
  refine (impl_in _ _ _ _ HSw.out).mono ?_
  rw [HR2.out]
  rintro e' w1 ⟨rfl, hw⟩
  subst hw
  go_wp2_with fail
  rw [← HW0.out]
  go_loopw [3, 25] (fun m i wr => ∃ j : Nat, i = .int .i64 j ∧ j ≤ xs.length ∧ m = .int .i64 (lstK xs j) ∧ okToK s xs j ∧ Below W0.heap.size W0 wr) (fun _ i _ => xs.length - (intOf i).toNat)
  case atStart => exact ⟨0, rfl, Nat.zero_le _, rfl, okToK_zero _ _, Below.refl _ _⟩
  case round =>
    obtain ⟨j, rfl, hj, rfl, hU, hB⟩ := hrel
    have HU := Lib.hid hU
    have HB := Lib.hid hB
    have hmb := lstK_bound hsb hU
    obtain ⟨m, hm⟩ : ∃ m, m = lstK xs j := ⟨_, rfl⟩
    rw [← hm] at hmb ⊢
    have HM := Lib.hid hm
    clear hU hm c0 c1 c2 hB
    by_cases hlt : j < xs.length
    · have e2 : decide ((j : Int) < (xs.length : Int)) = true := by simp; omega
      obtain ⟨b, o, rfl, hbl, hcell⟩ := Hc.out (by omega)
      obtain ⟨x, hx⟩ : ∃ x, xs[j]? = some x := ⟨_, List.getElem?_eq_getElem hlt⟩
      obtain ⟨xw1, xw2⟩ := H.out.okAt hx
      have HX := Lib.hid (kgetD_of hx)
      have hbw : Below lim w wr := (HB0.out.mono hlim).trans (HB.out.mono (Nat.le_trans hlim HB0.out.size))
      have d0 : wr.cell? ⟨b, o + j * 2, none⟩ = some (.int .i64 x.1) := hcell wr hbw j x hx 0 _ rfl
      have d1 : wr.cell? ⟨b, o + j * 2 + 1, none⟩ = some (.int .i64 x.2) := hcell wr hbw j x hx 1 _ rfl
      have hO := heap_alloc_new wr (.cells #[.int .i64 x.1, .int .i64 x.2] 40)
      have hK2 := (heap_alloc_old wr (.cells #[.int .i64 x.1, .int .i64 x.2] 40) (lt_of_block (rstand HK.out HB.out))).trans (rstand HK.out HB.out)
      have HBn := Lib.hid (HB.out.alloc HB.out.size (.cells #[.int .i64 x.1, .int .i64 x.2] 40))
      obtain ⟨k0, k1⟩ := kcs hO
      obtain ⟨_, c1, -⟩ := rcs hK2
      have HW1 := Lib.hid xw1
      have HW2 := Lib.hid xw2
      have x1b := wf_i64 xw1
      clear hcell hx hbw hO hK2 xw1 xw2
      obtain ⟨y, z⟩ := x
      cases hin : inR y m (s - 1) with
      | false =>
        have HI := Lib.hid hin
        have HN : Hid (q = false) := Lib.hid (by rw [HQ.out]; exact okR_stop hlt (lstK_no (by rw [HX.out, ← HM.out]; exact kRn.1 hin)))
        clear hin
        go_wp2_with fail
        refine (impl_in _ _ _ _ HW1.out).mono ?_
        rw [HI.out]
        rintro e' w2 ⟨rfl, hw⟩
        subst hw
        go_wp2_with fail
        go_ret
        exact ⟨by rw [HN.out]; rfl, HB0.out.trans (HBn.out.mono HB0.out.size)⟩
      | true =>
      have HI := Lib.hid hin
      have hyb := kRi.1 hin
      clear hin
      cases hvk : inR z 1 2147483646 with
      | false =>
        have HV := Lib.hid hvk
        have HN : Hid (q = false) := Lib.hid (by rw [HQ.out]; exact okR_stop hlt (fun hh => by have := hh.1; rw [HX.out] at this; exact kRn.1 hvk this))
        clear hvk
        go_wp2_with fail
        refine (impl_in _ _ _ _ HW1.out).mono ?_
        rw [HI.out]
        rintro e' w2 ⟨rfl, hw⟩
        subst hw
        go_wp2_with fail
        refine (impl_vk HW2.out).mono ?_
        rw [HV.out]
        rintro e' w2 ⟨rfl, hw⟩
        subst hw
        go_wp2_with fail
        go_ret
        exact ⟨by rw [HN.out]; rfl, HB0.out.trans (HBn.out.mono HB0.out.size)⟩
      | true =>
        have HV := Lib.hid hvk
        have HY := Lib.hid (lstK_yes hsb HU.out (by rw [HX.out, ← HM.out]; exact hyb) (by rw [HX.out]; exact kRi.1 hvk))
        clear hvk
        go_wp2_with fail
        refine (impl_in _ _ _ _ HW1.out).mono ?_
        rw [HI.out]
        rintro e' w2 ⟨rfl, hw⟩
        subst hw
        go_wp2_with fail
        refine (impl_vk HW2.out).mono ?_
        rw [HV.out]
        rintro e' w2 ⟨rfl, hw⟩
        subst hw
        go_wp2_with fail
        go_roundw
        case rel => exact ⟨j + 1, by simp, hlt, by show _ = Value.int .i64 ((xs.getD j (0, 0)).1 + 1); rw [HX.out], HY.out, HBn.out⟩
        case measure => simp [intOf]; omega
    · have e2 : decide ((j : Int) < (xs.length : Int)) = false := by simp; omega
      have HN : Hid (q = true) := Lib.hid (HE.out (by rw [← show j = xs.length by omega]; exact HU.out))
      go_wp2_with fail
      go_ret
      exact ⟨by rw [HN.out]; rfl, HB0.out.trans (HB.out.mono HB0.out.size)⟩

set_option maxHeartbeats 4000000 in
/-- spec.IsValidRatchet. -/
theorem spec_vr {lim : Nat} {w : World} {v : Value} {xs : Kept} {c s : Int} (h : RdS kepE lim w v xs) (hlim : lim ≤ w.heap.size) (hcw : (Lit.int .i64 c).wf = true) (hsw : (Lit.int .i64 s).wf = true) :
    Calls Try.prog 7 #[.agg #[.int .i64 c, .int .i64 s, v]] w fun e w' => e = .returned (.bool (okR c s xs)) ∧ Below w.heap.size w w' := by
  obtain ⟨q, hq⟩ : ∃ q, q = okR c s xs := ⟨_, rfl⟩
  have HQ := Lib.hid hq
  rw [← hq]
  clear hq
  obtain ⟨p, cap, rfl, h1, h2, hc⟩ := h.open
  have hk := heap_alloc_new w (.cells #[.int .i64 c, .int .i64 s, .slice p xs.length cap] 26)
  obtain ⟨W0, hW0⟩ : ∃ W, W = w.alloc (.cells #[.int .i64 c, .int .i64 s, .slice p xs.length cap] 26) := ⟨_, rfl⟩
  have hb0 : Below w.heap.size w W0 := by rw [hW0]; exact (Below.refl w.heap.size w).alloc (Nat.le_refl _) _
  rw [← hW0] at hk
  have HW0 := Lib.hid hW0
  have Hc := Lib.hid hc
  have H := Lib.hid h
  have HK := Lib.hid hk
  have HB0 := Lib.hid hb0
  have HCw := Lib.hid hcw
  have HSw := Lib.hid hsw
  have hlen : xs.length ≤ 9223372036854775807 := by unfold maxLen at h2; omega
  clear h hc hk hW0 hb0 hcw hsw
  unfold maxLen at h2
  obtain ⟨s1, hs1⟩ : ∃ t, IntKind.i64.wrap (s - 1) = t := ⟨_, rfl⟩
  have HS1 : Hid (inR s 0 100000 = true → s1 = s - 1) := Lib.hid (fun h => by have := kRi.1 h; rw [← hs1, IntKind.wrap_i64]; omega)
  have HQ2 : Hid (∀ j, j < xs.length → (inR s 0 100000 = true → ¬ okAtK s xs j) → q = false) := Lib.hid (fun j hj hn => by
    rw [HQ.out]
    cases hr : inR s 0 100000 with
    | false => exact okR_no2 hr
    | true => exact okR_stop hj (hn hr))
  go_enter Try.func7, Try.ntmps7
  go_wp2_with fail
  rw [← HW0.out]
  go_loopw [3] (fun i wr => ∃ j : Nat, i = .int .i64 j ∧ j ≤ xs.length ∧ (inR s 0 100000 = true → okToK s xs j) ∧ Below W0.heap.size W0 wr) (fun i _ => xs.length - (intOf i).toNat)
  case atStart => exact ⟨0, rfl, Nat.zero_le _, fun _ => okToK_zero _ _, Below.refl _ _⟩
  case round =>
    obtain ⟨j, rfl, hj, hU, hB⟩ := hrel
    have HU := Lib.hid hU
    have HB := Lib.hid hB
    obtain ⟨c0, c1, c2⟩ := rcs (rstand HK.out hB)
    clear hU hB
    by_cases hlt : j < xs.length
    · have e2 : decide ((j : Int) < (xs.length : Int)) = true := by simp; omega
      have hji : (j : Int) < (xs.length : Int) := by omega
      obtain ⟨b, o, rfl, hbl, hcell⟩ := Hc.out (by omega)
      have hbw : Below lim w wr := (HB0.out.mono hlim).trans (HB.out.mono (Nat.le_trans hlim HB0.out.size))
      have HCell : Hid (∀ (i : Nat) (x : Int × Int), xs[i]? = some x → wr.cell? ⟨b, o + i * 2, none⟩ = some (.int .i64 x.1) ∧ wr.cell? ⟨b, o + i * 2 + 1, none⟩ = some (.int .i64 x.2)) := Lib.hid (fun i x hx => ⟨hcell wr hbw i x hx 0 _ rfl, hcell wr hbw i x hx 1 _ rfl⟩)
      obtain ⟨x, hx⟩ : ∃ x, xs[j]? = some x := ⟨_, List.getElem?_eq_getElem hlt⟩
      obtain ⟨xw1, xw2⟩ := H.out.okAt hx
      have HX := Lib.hid (kgetD_of hx)
      obtain ⟨d0, d1⟩ := HCell.out j x hx
      have HW1 := Lib.hid xw1
      have HW2 := Lib.hid xw2
      clear hcell hx hbw xw1 xw2
      obtain ⟨y, z⟩ := x
      cases hvk : inR z 1 2147483646 with
      | false =>
        have HN : Hid (q = false) := Lib.hid (HQ2.out j hlt (fun _ hh => by have := hh.1; rw [HX.out] at this; exact kRn.1 hvk this))
        go_wp2_with fail
        go_quiet ((first | (go_at_call 11; exact Calls.quiet_of ((spec_vk HW2.out).mono (by rintro e' w' ⟨he, rfl⟩; rw [hvk] at he; exact ⟨he, 0, rfl⟩))) | (go_at_call 22; exact Calls.quiet_of ((spec_in _ _ _ _ HW1.out).mono (by rintro e' w' ⟨he, rfl⟩; rw [hin] at he; exact ⟨he, 0, rfl⟩)))))
        go_wp2_with fail
        go_ret
        exact ⟨by rw [HN.out]; rfl, (HB0.out.trans (HB.out.mono HB0.out.size)).trans ((below_drewN ⟨_, rfl⟩))⟩
      | true =>
      cases hin : inR y 0 s1 with
      | false =>
        have HN : Hid (q = false) := Lib.hid (HQ2.out j hlt (fun hr hh => by have := hh.2.1; rw [HX.out, ← HS1.out hr] at this; exact kRn.1 hin this))
        go_wp2_with fail
        go_quiet ((first | (go_at_call 11; exact Calls.quiet_of ((spec_vk HW2.out).mono (by rintro e' w' ⟨he, rfl⟩; rw [hvk] at he; exact ⟨he, 0, rfl⟩))) | (go_at_call 22; exact Calls.quiet_of ((spec_in _ _ _ _ HW1.out).mono (by rintro e' w' ⟨he, rfl⟩; rw [hin] at he; exact ⟨he, 0, rfl⟩)))))
        go_wp2_with fail
        go_ret
        exact ⟨by rw [HN.out]; rfl, (HB0.out.trans (HB.out.mono HB0.out.size)).trans ((below_drewN ⟨_, rfl⟩))⟩
      | true =>
      cases j with
      | zero =>
        have HY : Hid (inR s 0 100000 = true → okToK s xs 1) := Lib.hid (fun hr => okToK_step (HU.out hr) ⟨by rw [HX.out]; exact kRi.1 hvk, by rw [HX.out, ← HS1.out hr]; exact kRi.1 hin, fun h => absurd h (by omega)⟩)
        have d0z : wr.cell? ⟨b, o, none⟩ = some (.int .i64 y) := by have := d0; simpa using this
        have d1z : wr.cell? ⟨b, o + 1, none⟩ = some (.int .i64 z) := by have := d1; simpa using this
        go_wp2_with fail
        go_quiet ((first | (go_at_call 11; exact Calls.quiet_of ((spec_vk HW2.out).mono (by rintro e' w' ⟨he, rfl⟩; rw [hvk] at he; exact ⟨he, 0, rfl⟩))) | (go_at_call 22; exact Calls.quiet_of ((spec_in _ _ _ _ HW1.out).mono (by rintro e' w' ⟨he, rfl⟩; rw [hin] at he; exact ⟨he, 0, rfl⟩)))))
        go_wp2_with fail
        go_roundw
        case rel => exact ⟨1, by simp, hlt, HY.out, HB.out.trans (below_drewN ⟨_, rfl⟩)⟩
        case measure => simp [intOf]; omega
      | succ k =>
        obtain ⟨x', hx'⟩ : ∃ x, xs[k]? = some x := ⟨_, List.getElem?_eq_getElem (by omega)⟩
        obtain ⟨f0, f1⟩ := HCell.out k x' hx'
        have HX' := Lib.hid (kgetD_of hx')
        obtain ⟨y', z'⟩ := x'
        have e3 : decide ((0 : Int) < ((k + 1 : Nat) : Int)) = true := decide_eq_true (by omega)
        have e4 : ((k + 1 : Nat) : Int) - 1 = (k : Int) := by push_cast; omega
        clear hx'
        by_cases hge : y ≤ y'
        · have e5 : decide (y ≤ y') = true := by simp; omega
          have HN : Hid (q = false) := Lib.hid (HQ2.out (k + 1) hlt (fun hr hh => by have := hh.2.2 (by omega); rw [HX.out, show k + 1 - 1 = k from rfl, HX'.out] at this; have t : y' < y := this; omega))
          go_wp2_with fail
          go_quiet ((first | (go_at_call 11; exact Calls.quiet_of ((spec_vk HW2.out).mono (by rintro e' w' ⟨he, rfl⟩; rw [hvk] at he; exact ⟨he, 0, rfl⟩))) | (go_at_call 22; exact Calls.quiet_of ((spec_in _ _ _ _ HW1.out).mono (by rintro e' w' ⟨he, rfl⟩; rw [hin] at he; exact ⟨he, 0, rfl⟩)))))
          go_wp2_with fail
          go_ret
          exact ⟨by rw [HN.out]; rfl, (HB0.out.trans (HB.out.mono HB0.out.size)).trans ((below_drewN ⟨_, rfl⟩))⟩
        · have e5 : decide (y ≤ y') = false := by simp; omega
          have HY : Hid (inR s 0 100000 = true → okToK s xs (k + 1 + 1)) := Lib.hid (fun hr => okToK_step (HU.out hr) ⟨by rw [HX.out]; exact kRi.1 hvk, by rw [HX.out, ← HS1.out hr]; exact kRi.1 hin, fun _ => by rw [HX.out, show k + 1 - 1 = k from rfl, HX'.out]; show y' < y; omega⟩)
          go_wp2_with fail
          go_quiet ((first | (go_at_call 11; exact Calls.quiet_of ((spec_vk HW2.out).mono (by rintro e' w' ⟨he, rfl⟩; rw [hvk] at he; exact ⟨he, 0, rfl⟩))) | (go_at_call 22; exact Calls.quiet_of ((spec_in _ _ _ _ HW1.out).mono (by rintro e' w' ⟨he, rfl⟩; rw [hin] at he; exact ⟨he, 0, rfl⟩)))))
          go_wp2_with fail
          go_roundw
          case rel => exact ⟨k + 1 + 1, by simp, hlt, HY.out, HB.out.trans (below_drewN ⟨_, rfl⟩)⟩
          case measure => simp [intOf]; omega
    · have e2 : decide ((j : Int) < (xs.length : Int)) = false := by simp; omega
      have hjl : j = xs.length := by omega
      have HE : Hid (q = (inR c 1 2147483646 && (inR s 0 100000 && decide (xs.length ≤ 8)))) := Lib.hid (by
        rw [HQ.out]
        cases hr : inR s 0 100000 with
        | false => rw [okR_no2 hr]; simp
        | true => rw [okR_full (hjl ▸ HU.out hr), hr])
      have HBf := Lib.hid (HB0.out.trans (HB.out.mono HB0.out.size))
      clear hjl
      cases hr1 : inR c 1 2147483646 with
      | false =>
        have HR1 := Lib.hid hr1
        have HN : Hid (q = false) := Lib.hid (by rw [HE.out, hr1]; rfl)
        clear hr1
        go_wp2_with fail
        refine (spec_vk HCw.out).mono ?_
        rw [HR1.out]
        rintro e' w1 ⟨rfl, hw⟩
        subst hw
        go_wp2_with fail
        go_ret
        exact ⟨by rw [HN.out]; rfl, HBf.out⟩
      | true =>
      cases hr2 : inR s 0 100000 with
      | false =>
        have HR1 := Lib.hid hr1
        have HR2 := Lib.hid hr2
        have HN : Hid (q = false) := Lib.hid (by rw [HE.out, hr2]; simp)
        clear hr1 hr2
        go_wp2_with fail
        refine (spec_vk HCw.out).mono ?_
        rw [HR1.out]
        rintro e' w1 ⟨rfl, hw⟩
        subst hw
        go_wp2_with fail
        refine (spec_in _ _ _ _ HSw.out).mono ?_
        rw [HR2.out]
        rintro e' w1 ⟨rfl, hw⟩
        subst hw
        go_wp2_with fail
        go_ret
        exact ⟨by rw [HN.out]; rfl, HBf.out⟩
      | true =>
        have HR1 := Lib.hid hr1
        have HR2 := Lib.hid hr2
        obtain ⟨u, hu⟩ : ∃ u, decide ((xs.length : Int) ≤ 8) = u := ⟨_, rfl⟩
        have HN : Hid (q = u) := Lib.hid (by rw [HE.out, hr1, hr2, ← hu]; simp; omega)
        clear hr1 hr2
        go_wp2_with fail
        refine (spec_vk HCw.out).mono ?_
        rw [HR1.out]
        rintro e' w1 ⟨rfl, hw⟩
        subst hw
        go_wp2_with fail
        refine (spec_in _ _ _ _ HSw.out).mono ?_
        rw [HR2.out]
        rintro e' w1 ⟨rfl, hw⟩
        subst hw
        go_wp2_with fail
        go_ret
        exact ⟨by rw [HN.out]; rfl, HBf.out⟩

end Go.Proofs.Ytlbijjifeaimjaa
