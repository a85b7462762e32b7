/- Chapter 8's small functions, the program's and the document's: what each gives. No conditions but a size that a machine holds. -/
import Derived.Test.YtnamgnhplodhoaaDbN
import Derived.Test.YtnamgnhplodhoaaDbH
import Derived.Test.YtnamgnhplodhoaaCopyL
namespace Go.Proofs.Ytnamgnhplodhoaa
open Go Go.RowKit
set_option linter.unusedVariables false
attribute [local irreducible] kh

theorem cell_any {w : World} {a : Option Addr} {n cap : Nat} : Calls Try.prog 64 #[.slice a n cap] w fun e w' => e = .returned (.bool ((n : Int) == 24)) ∧ w' = w := by
  go_enter Try.func64, Try.ntmps64
  go_wp2
  go_ret
  exact ⟨rfl, rfl⟩

theorem vd_of {zss : List (List Int)} (h : zss.length ≤ 64) : vd zss = vrows zss := by unfold vd; rw [decide_eq_true h]; rfl
theorem vd_big {zss : List (List Int)} (h : 64 < zss.length) : vd zss = false := by unfold vd; rw [decide_eq_false (by omega)]; rfl

set_option maxHeartbeats 1000000 in
/-- impl.IsValidDatabase -/
theorem impl_vd {lim : Nat} {w : World} {v : Value} {zss : List (List Int)} (h : Rd2 lim .u8 w v zss) (hlim : lim ≤ w.heap.size) :
    Calls Try.prog 60 #[.agg #[v]] w fun e w' => e = .returned (.bool (vd zss)) ∧ Below w.heap.size w w' := by
  obtain ⟨a, cap, rfl, h1, h2, hc⟩ := h.open
  have HB := Lib.hid ((Below.refl w.heap.size w).alloc (Nat.le_refl _) (.cells #[.slice a zss.length cap] 26))
  unfold maxLen at h2
  have Hc := Lib.hid hc
  obtain ⟨q, hq⟩ : ∃ q, q = vd zss := ⟨_, rfl⟩
  rw [← hq]
  have HQ := Lib.hid hq
  clear h hc hq
  by_cases hbig : 64 < zss.length
  · have e1 : decide ((64 : Int) < (zss.length : Int)) = true := by simp; omega
    have HE : Hid (q = false) := Lib.hid (by rw [HQ.out, vd_big hbig])
    clear hbig
    go_enter Try.func60, Try.ntmps60
    go_wp2_with fail
    go_ret
    exact ⟨by rw [HE.out]; rfl, HB.out⟩
  · have e1 : decide ((64 : Int) < (zss.length : Int)) = false := by simp; omega
    have hn : zss.length ≤ 64 := by omega
    have HV : Hid (q = vrows zss) := Lib.hid (by rw [HQ.out, vd_of hn])
    clear hbig
    go_enter Try.func60, Try.ntmps60
    go_wp2_with fail
    go_loopw [12] (fun i wr => ∃ j : Nat, i = .int .i64 j ∧ j ≤ zss.length ∧ (∀ k, k < j → (zss.getD k []).length = 24) ∧ Below w.heap.size w wr) (fun i _ => zss.length - (intOf i).toNat)
    case atStart => exact ⟨0, rfl, Nat.zero_le _, fun k hk => by omega, HB.out⟩
    case round =>
      obtain ⟨j, rfl, hj, hall, hB⟩ := hrel
      replace HB := Lib.hid hB
      have HA := Lib.hid hall
      clear hB hall
      by_cases hlt : j < zss.length
      · have e2 : decide ((j : Int) < (zss.length : Int)) = true := by simp; omega
        obtain ⟨b, o, rfl, hbl, hcell⟩ := Hc.out (by omega)
        obtain ⟨zs, hzs⟩ : ∃ zs, zss[j]? = some zs := ⟨_, List.getElem?_eq_getElem hlt⟩
        obtain ⟨u, c1, hr⟩ := hcell wr (HB.out.mono hlim) j zs hzs
        obtain ⟨a1, k1, hu, _⟩ := hr.open
        obtain ⟨L, hL⟩ : ∃ L, L = zs.length := ⟨_, rfl⟩
        rw [← hL] at hu
        subst hu
        have HLz : Hid ((zss.getD j []).length = L) := Lib.hid (by rw [getD_of hzs, hL])
        clear hcell hzs hr hL
        by_cases h24 : L = 24
        · have e3 : ((L : Int) == 24) = true := by simp; omega
          have H24 := Lib.hid h24
          clear h24
          go_wp2_with fail
          refine (cell_any).mono ?_
          rw [e3]
          rintro e w2 ⟨rfl, hw2⟩
          subst hw2
          go_wp2_with fail
          go_roundw
          case rel =>
            refine ⟨j + 1, by simp, hlt, fun k hk => ?_, HB.out⟩
            by_cases hkj : k = j
            · rw [hkj, HLz.out, H24.out]
            · exact HA.out k (by omega)
          case measure => simp [intOf]; omega
        · have e3 : ((L : Int) == 24) = false := by rw [beq_eq_false_iff_ne]; omega
          have HE : Hid (q = false) := Lib.hid (by rw [HV.out]; exact vrows_no hlt (by rw [HLz.out]; exact h24))
          clear h24
          go_wp2_with fail
          refine (cell_any).mono ?_
          rw [e3]
          rintro e w2 ⟨rfl, hw2⟩
          subst hw2
          go_wp2_with fail
          go_ret
          exact ⟨by rw [HE.out]; rfl, HB.out⟩
      · have e2 : decide ((j : Int) < (zss.length : Int)) = false := by simp; omega
        have HE : Hid (q = true) := Lib.hid (by rw [HV.out]; exact vrows_iff.2 fun i hi => HA.out i (by omega))
        go_wp2_with fail
        go_ret
        exact ⟨by rw [HE.out]; rfl, HB.out⟩

set_option maxHeartbeats 1000000 in
/-- spec.IsValidDatabase -/
theorem spec_vd {lim : Nat} {w : World} {v : Value} {zss : List (List Int)} (h : Rd2 lim .u8 w v zss) (hlim : lim ≤ w.heap.size) :
    Calls Try.prog 72 #[.agg #[v]] w fun e w' => e = .returned (.bool (vd zss)) ∧ Below w.heap.size w w' := by
  obtain ⟨a, cap, rfl, h1, h2, hc⟩ := h.open
  have HB := Lib.hid ((Below.refl w.heap.size w).alloc (Nat.le_refl _) (.cells #[.slice a zss.length cap] 26))
  have HBk := Lib.hid (heap_alloc_new w (.cells #[.slice a zss.length cap] 26))
  unfold maxLen at h2
  have Hc := Lib.hid hc
  obtain ⟨q, hq⟩ : ∃ q, q = vd zss := ⟨_, rfl⟩
  rw [← hq]
  have HQ := Lib.hid hq
  clear h hc hq
  go_enter Try.func72, Try.ntmps72
  go_wp2_with fail
  go_loopw [3] (fun i wr => ∃ j : Nat, i = .int .i64 j ∧ j ≤ zss.length ∧ (∀ k, k < j → (zss.getD k []).length = 24) ∧ wr.heap[w.heap.size]? = some (.cells #[.slice a zss.length cap] 26) ∧ Below w.heap.size w wr) (fun i _ => zss.length - (intOf i).toNat)
  case atStart => exact ⟨0, rfl, Nat.zero_le _, fun k hk => by omega, HBk.out, HB.out⟩
  case round =>
    obtain ⟨j, rfl, hj, hall, hK, hB⟩ := hrel
    replace HB := Lib.hid hB
    have HA := Lib.hid hall
    have HK := Lib.hid hK
    have cD := blk_cell hK 0
    rw [one0] at cD
    clear hB hall hK
    by_cases hlt : j < zss.length
    · have e2 : decide ((j : Int) < (zss.length : Int)) = true := by simp; omega
      have hlt' : (j : Int) < (zss.length : Int) := by omega
      obtain ⟨b, o, rfl, hbl, hcell⟩ := Hc.out (by omega)
      obtain ⟨zs, hzs⟩ : ∃ zs, zss[j]? = some zs := ⟨_, List.getElem?_eq_getElem hlt⟩
      obtain ⟨u, c1, hr⟩ := hcell wr (HB.out.mono hlim) j zs hzs
      obtain ⟨a1, k1, hu, _⟩ := hr.open
      obtain ⟨L, hL⟩ : ∃ L, L = zs.length := ⟨_, rfl⟩
      rw [← hL] at hu
      subst hu
      have HLz : Hid ((zss.getD j []).length = L) := Lib.hid (by rw [getD_of hzs, hL])
      clear hcell hzs hr hL
      by_cases h24 : L = 24
      · have e3 : ((L : Int) != 24) = false := by simp; omega
        have H24 := Lib.hid h24
        clear h24
        go_wp2_with fail
        go_roundw
        case rel =>
          refine ⟨j + 1, by simp, hlt, fun k hk => ?_, HK.out, HB.out⟩
          by_cases hkj : k = j
          · rw [hkj, HLz.out, H24.out]
          · exact HA.out k (by omega)
        case measure => simp [intOf]; omega
      · have e3 : ((L : Int) != 24) = true := by simp; omega
        have HE : Hid (q = false) := Lib.hid (by
          rw [HQ.out]; unfold vd
          rw [vrows_no hlt (by rw [HLz.out]; exact h24), Bool.and_false])
        clear h24
        go_wp2_with fail
        go_ret
        exact ⟨by rw [HE.out]; rfl, HB.out⟩
    · have e2 : decide ((j : Int) < (zss.length : Int)) = false := by simp; omega
      have HE : Hid (q = decide ((zss.length : Int) ≤ 64)) := Lib.hid (by
        rw [HQ.out]; unfold vd
        rw [vrows_iff.2 fun i hi => HA.out i (by omega), Bool.and_true]
        exact decide_eq_decide.2 (by omega))
      go_wp2_with fail
      go_ret
      exact ⟨by rw [HE.out]; rfl, HB.out⟩

end Go.Proofs.Ytnamgnhplodhoaa
