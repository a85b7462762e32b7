/- Chapter 8's small functions, the program's and the document's: what each gives. No conditions but a size that a machine holds. -/
import Derived.Test.YtdeahjinnnhfkaaDbN
import Derived.Test.YtdeahjinnnhfkaaDbH
import Derived.Test.YtdeahjinnnhfkaaCopyL
namespace Go.Proofs.Ytdeahjinnnhfkaa
open Go Go.RowKit
set_option linter.unusedVariables false
attribute [local irreducible] kh

theorem cell_any {w : World} {a : Option Addr} {n cap : Nat} : Calls Try.prog 57 #[.slice a n cap] w fun e w' => e = .returned (.bool ((n : Int) == 24)) ∧ w' = w := by
  go_enter Try.func57, Try.ntmps57
  go_wp2
  go_ret
  exact ⟨rfl, rfl⟩

theorem hasRow_any {w : World} {a : Option Addr} {cap : Nat} {zss : List (List Int)} {i : Int} (hi : (Lit.int .i64 i).wf = true) (hn : zss.length ≤ 140737488355328) :
    Calls Try.prog 56 #[.agg #[.slice a zss.length cap], .int .i64 i] w fun e w' => e = .returned (.bool (hasR zss i)) ∧ Below w.heap.size w w' := by
  have HB := Lib.hid ((Below.refl w.heap.size w).alloc (Nat.le_refl _) (.cells #[.slice a zss.length cap] 30))
  have Hi := Lib.hid hi
  have e1 : wrap64 ((zss.length : Int) - 1) = (zss.length : Int) - 1 := by unfold wrap64; omega
  clear hi
  go_enter Try.func56, Try.ntmps56
  go_wp2_with fail
  refine (impl_in _ _ _ _ Hi.out).mono ?_
  rw [inR_hasR]
  rintro e w1 ⟨rfl, hw⟩
  subst hw
  go_wp2_with fail
  go_ret
  exact ⟨rfl, HB.out⟩

set_option maxHeartbeats 1000000 in
/-- impl.copyDatabase -/
theorem copyDb_any {lim : Nat} {w : World} {v : Value} {zss : List (List Int)} (h : Rd2 lim .u8 w v zss) (hlim : lim ≤ w.heap.size) (hn : tot zss ≤ 1099511627776) :
    Calls Try.prog 55 #[.agg #[v]] w fun e w' => ∃ v', e = .returned (.agg #[v']) ∧ Own2 22 5 .u8 (ival w.heap.size w'.heap.size) w' v' zss ∧ Below w.heap.size w w' := by
  obtain ⟨a, cap, rfl, _⟩ := h.open
  have HB := Lib.hid (((Below.refl w.heap.size w).alloc (Nat.le_refl _) (.cells #[.slice a zss.length cap] 30)).alloc (by simp) (.cells #[.slice none 0 0] 30))
  have HU := Lib.hid (h.behind (HB.out.mono hlim))
  clear h
  go_enter Try.func55, Try.ntmps55
  go_wp2_with fail
  refine (copyList_any HU.out (Nat.le_trans hlim HB.out.size) hn).mono ?_
  rintro e w3 ⟨v3, rfl, h3, hb3⟩
  obtain ⟨a3, c3, rfl, _⟩ := h3.open
  have hb3' := hb3
  rw [World.size_alloc, World.size_alloc] at hb3'
  obtain ⟨_, q1⟩ := blocks2 w (.cells #[.slice a zss.length cap] 30) (.cells #[.slice none 0 0] 30)
  have B1 := (hb3'.block (w.heap.size + 1) (by omega)).trans q1
  have HB1 := Lib.hid B1
  have f1 := blk_free B1 0
  have c1 := blk_cell B1 0
  rw [one0] at c1
  have H3 := Lib.hid h3
  have HB3 := Lib.hid (HB.out.trans (hb3.mono HB.out.size))
  have HS3 := Lib.hid hb3'.size
  clear h3 hb3 hb3' q1 B1
  go_wp2_with fail
  have g1 := HS3.out
  obtain ⟨_, r0, k0⟩ := store1 HB1.out (.slice a3 zss.length c3)
  obtain ⟨W5, hW5⟩ : ∃ W5, W5 = w3.setCell ⟨w.heap.size + 1, 0, none⟩ (.slice a3 zss.length c3) := ⟨_, rfl⟩
  rw [← hW5] at r0 k0 ⊢
  have hs5 : W5.heap.size = w3.heap.size := by rw [hW5, World.setCell_size]
  have Q1 := Lib.hid ((H3.out.keptF k0 (fun b hb => by unfold ival at hb; rw [World.size_alloc, World.size_alloc] at hb; omega)).mono (G := ival w.heap.size W5.heap.size) (fun b hb => by unfold ival at hb ⊢; rw [World.size_alloc, World.size_alloc] at hb; omega))
  have Q2 := Lib.hid (HB3.out.trans (k0.below (B := w.heap.size) (fun b hb => by omega) HB3.out.size))
  clear f1 c1 k0 hW5 hs5 g1
  exact bodyPost_ret (v := .agg #[.slice a3 zss.length c3]) (by simp [results, Try.results55, go_sem, r0]) rfl ⟨_, rfl, Q1.out, Q2.out⟩

set_option maxHeartbeats 1000000 in
/-- spec.l8Copy -/
theorem l8Copy_any {lim : Nat} {w : World} {v : Value} {zss : List (List Int)} (h : Rd2 lim .u8 w v zss) (hlim : lim ≤ w.heap.size) (hn : tot zss ≤ 1099511627776) :
    Calls Try.prog 70 #[.agg #[v]] w fun e w' => ∃ v', e = .returned (.agg #[v']) ∧ Own2 22 5 .u8 (ival w.heap.size w'.heap.size) w' v' zss ∧ Below w.heap.size w w' := by
  obtain ⟨a, cap, rfl, _⟩ := h.open
  have HB := Lib.hid (((Below.refl w.heap.size w).alloc (Nat.le_refl _) (.cells #[.slice a zss.length cap] 30)).alloc (by simp) (.cells #[.slice none 0 0] 30))
  have HU := Lib.hid (h.behind (HB.out.mono hlim))
  clear h
  go_enter Try.func70, Try.ntmps70
  go_wp2_with fail
  refine (l4Copy_any HU.out (Nat.le_trans hlim HB.out.size) hn).mono ?_
  rintro e w3 ⟨v3, rfl, h3, hb3⟩
  obtain ⟨a3, c3, rfl, _⟩ := h3.open
  have hb3' := hb3
  rw [World.size_alloc, World.size_alloc] at hb3'
  obtain ⟨_, q1⟩ := blocks2 w (.cells #[.slice a zss.length cap] 30) (.cells #[.slice none 0 0] 30)
  have B1 := (hb3'.block (w.heap.size + 1) (by omega)).trans q1
  have HB1 := Lib.hid B1
  have f1 := blk_free B1 0
  have c1 := blk_cell B1 0
  rw [one0] at c1
  have H3 := Lib.hid h3
  have HB3 := Lib.hid (HB.out.trans (hb3.mono HB.out.size))
  have HS3 := Lib.hid hb3'.size
  clear h3 hb3 hb3' q1 B1
  go_wp2_with fail
  have g1 := HS3.out
  obtain ⟨_, r0, k0⟩ := store1 HB1.out (.slice a3 zss.length c3)
  obtain ⟨W5, hW5⟩ : ∃ W5, W5 = w3.setCell ⟨w.heap.size + 1, 0, none⟩ (.slice a3 zss.length c3) := ⟨_, rfl⟩
  rw [← hW5] at r0 k0 ⊢
  have hs5 : W5.heap.size = w3.heap.size := by rw [hW5, World.setCell_size]
  have Q1 := Lib.hid ((H3.out.keptF k0 (fun b hb => by unfold ival at hb; rw [World.size_alloc, World.size_alloc] at hb; omega)).mono (G := ival w.heap.size W5.heap.size) (fun b hb => by unfold ival at hb ⊢; rw [World.size_alloc, World.size_alloc] at hb; omega))
  have Q2 := Lib.hid (HB3.out.trans (k0.below (B := w.heap.size) (fun b hb => by omega) HB3.out.size))
  clear f1 c1 k0 hW5 hs5 g1
  exact bodyPost_ret (v := .agg #[.slice a3 zss.length c3]) (by simp [results, Try.results70, go_sem, r0]) rfl ⟨_, rfl, Q1.out, Q2.out⟩

theorem vd_of {zss : List (List Int)} (h : zss.length ≤ 64) : vd zss = vrows zss := by unfold vd; rw [decide_eq_true h]; rfl
theorem vd_big {zss : List (List Int)} (h : 64 < zss.length) : vd zss = false := by unfold vd; rw [decide_eq_false (by omega)]; rfl

set_option maxHeartbeats 1000000 in
/-- impl.IsValidDatabase -/
theorem impl_vd {lim : Nat} {w : World} {v : Value} {zss : List (List Int)} (h : Rd2 lim .u8 w v zss) (hlim : lim ≤ w.heap.size) :
    Calls Try.prog 28 #[.agg #[v]] w fun e w' => e = .returned (.bool (vd zss)) ∧ Below w.heap.size w w' := by
  obtain ⟨a, cap, rfl, h1, h2, hc⟩ := h.open
  have HB := Lib.hid ((Below.refl w.heap.size w).alloc (Nat.le_refl _) (.cells #[.slice a zss.length cap] 30))
  unfold maxLen at h2
  have Hc := Lib.hid hc
  obtain ⟨q, hq⟩ : ∃ q, q = vd zss := ⟨_, rfl⟩
  rw [← hq]
  have HQ := Lib.hid hq
  clear h hc hq
  by_cases hbig : 64 < zss.length
  · have e1 : decide ((64 : Int) < (zss.length : Int)) = true := by simp; omega
    have HE : Hid (q = false) := Lib.hid (by rw [HQ.out, vd_big hbig])
    clear hbig
    go_enter Try.func28, Try.ntmps28
    go_wp2_with fail
    go_ret
    exact ⟨by rw [HE.out]; rfl, HB.out⟩
  · have e1 : decide ((64 : Int) < (zss.length : Int)) = false := by simp; omega
    have hn : zss.length ≤ 64 := by omega
    have HV : Hid (q = vrows zss) := Lib.hid (by rw [HQ.out, vd_of hn])
    clear hbig
    go_enter Try.func28, Try.ntmps28
    go_wp2_with fail
    go_loopw [12] (fun i wr => ∃ j : Nat, i = .int .i64 j ∧ j ≤ zss.length ∧ (∀ k, k < j → (zss.getD k []).length = 24) ∧ Below w.heap.size w wr) (fun i _ => zss.length - (intOf i).toNat)
    case atStart => exact ⟨0, rfl, Nat.zero_le _, fun k hk => by omega, HB.out⟩
    case round =>
      obtain ⟨j, rfl, hj, hall, hB⟩ := hrel
      replace HB := Lib.hid hB
      have HA := Lib.hid hall
      clear hB hall
      by_cases hlt : j < zss.length
      · have e2 : decide ((j : Int) < (zss.length : Int)) = true := by simp; omega
        obtain ⟨b, o, rfl, hbl, hcell⟩ := Hc.out (by omega)
        obtain ⟨zs, hzs⟩ : ∃ zs, zss[j]? = some zs := ⟨_, List.getElem?_eq_getElem hlt⟩
        obtain ⟨u, c1, hr⟩ := hcell wr (HB.out.mono hlim) j zs hzs
        obtain ⟨a1, k1, hu, _⟩ := hr.open
        obtain ⟨L, hL⟩ : ∃ L, L = zs.length := ⟨_, rfl⟩
        rw [← hL] at hu
        subst hu
        have HLz : Hid ((zss.getD j []).length = L) := Lib.hid (by rw [getD_of hzs, hL])
        clear hcell hzs hr hL
        by_cases h24 : L = 24
        · have e3 : ((L : Int) == 24) = true := by simp; omega
          have H24 := Lib.hid h24
          clear h24
          go_wp2_with fail
          refine (cell_any).mono ?_
          rw [e3]
          rintro e w2 ⟨rfl, hw2⟩
          subst hw2
          go_wp2_with fail
          go_roundw
          case rel =>
            refine ⟨j + 1, by simp, hlt, fun k hk => ?_, HB.out⟩
            by_cases hkj : k = j
            · rw [hkj, HLz.out, H24.out]
            · exact HA.out k (by omega)
          case measure => simp [intOf]; omega
        · have e3 : ((L : Int) == 24) = false := by rw [beq_eq_false_iff_ne]; omega
          have HE : Hid (q = false) := Lib.hid (by rw [HV.out]; exact vrows_no hlt (by rw [HLz.out]; exact h24))
          clear h24
          go_wp2_with fail
          refine (cell_any).mono ?_
          rw [e3]
          rintro e w2 ⟨rfl, hw2⟩
          subst hw2
          go_wp2_with fail
          go_ret
          exact ⟨by rw [HE.out]; rfl, HB.out⟩
      · have e2 : decide ((j : Int) < (zss.length : Int)) = false := by simp; omega
        have HE : Hid (q = true) := Lib.hid (by rw [HV.out]; exact vrows_iff.2 fun i hi => HA.out i (by omega))
        go_wp2_with fail
        go_ret
        exact ⟨by rw [HE.out]; rfl, HB.out⟩

set_option maxHeartbeats 1000000 in
/-- spec.IsValidDatabase -/
theorem spec_vd {lim : Nat} {w : World} {v : Value} {zss : List (List Int)} (h : Rd2 lim .u8 w v zss) (hlim : lim ≤ w.heap.size) :
    Calls Try.prog 24 #[.agg #[v]] w fun e w' => e = .returned (.bool (vd zss)) ∧ Below w.heap.size w w' := by
  obtain ⟨a, cap, rfl, h1, h2, hc⟩ := h.open
  have HB := Lib.hid ((Below.refl w.heap.size w).alloc (Nat.le_refl _) (.cells #[.slice a zss.length cap] 30))
  have HBk := Lib.hid (heap_alloc_new w (.cells #[.slice a zss.length cap] 30))
  unfold maxLen at h2
  have Hc := Lib.hid hc
  obtain ⟨q, hq⟩ : ∃ q, q = vd zss := ⟨_, rfl⟩
  rw [← hq]
  have HQ := Lib.hid hq
  clear h hc hq
  go_enter Try.func24, Try.ntmps24
  go_wp2_with fail
  go_loopw [3] (fun i wr => ∃ j : Nat, i = .int .i64 j ∧ j ≤ zss.length ∧ (∀ k, k < j → (zss.getD k []).length = 24) ∧ wr.heap[w.heap.size]? = some (.cells #[.slice a zss.length cap] 30) ∧ Below w.heap.size w wr) (fun i _ => zss.length - (intOf i).toNat)
  case atStart => exact ⟨0, rfl, Nat.zero_le _, fun k hk => by omega, HBk.out, HB.out⟩
  case round =>
    obtain ⟨j, rfl, hj, hall, hK, hB⟩ := hrel
    replace HB := Lib.hid hB
    have HA := Lib.hid hall
    have HK := Lib.hid hK
    have cD := blk_cell hK 0
    rw [one0] at cD
    clear hB hall hK
    by_cases hlt : j < zss.length
    · have e2 : decide ((j : Int) < (zss.length : Int)) = true := by simp; omega
      have hlt' : (j : Int) < (zss.length : Int) := by omega
      obtain ⟨b, o, rfl, hbl, hcell⟩ := Hc.out (by omega)
      obtain ⟨zs, hzs⟩ : ∃ zs, zss[j]? = some zs := ⟨_, List.getElem?_eq_getElem hlt⟩
      obtain ⟨u, c1, hr⟩ := hcell wr (HB.out.mono hlim) j zs hzs
      obtain ⟨a1, k1, hu, _⟩ := hr.open
      obtain ⟨L, hL⟩ : ∃ L, L = zs.length := ⟨_, rfl⟩
      rw [← hL] at hu
      subst hu
      have HLz : Hid ((zss.getD j []).length = L) := Lib.hid (by rw [getD_of hzs, hL])
      clear hcell hzs hr hL
      by_cases h24 : L = 24
      · have e3 : ((L : Int) != 24) = false := by simp; omega
        have H24 := Lib.hid h24
        clear h24
        go_wp2_with fail
        go_roundw
        case rel =>
          refine ⟨j + 1, by simp, hlt, fun k hk => ?_, HK.out, HB.out⟩
          by_cases hkj : k = j
          · rw [hkj, HLz.out, H24.out]
          · exact HA.out k (by omega)
        case measure => simp [intOf]; omega
      · have e3 : ((L : Int) != 24) = true := by simp; omega
        have HE : Hid (q = false) := Lib.hid (by
          rw [HQ.out]; unfold vd
          rw [vrows_no hlt (by rw [HLz.out]; exact h24), Bool.and_false])
        clear h24
        go_wp2_with fail
        go_ret
        exact ⟨by rw [HE.out]; rfl, HB.out⟩
    · have e2 : decide ((j : Int) < (zss.length : Int)) = false := by simp; omega
      have HE : Hid (q = decide ((zss.length : Int) ≤ 64)) := Lib.hid (by
        rw [HQ.out]; unfold vd
        rw [vrows_iff.2 fun i hi => HA.out i (by omega), Bool.and_true]
        exact decide_eq_decide.2 (by omega))
      go_wp2_with fail
      go_ret
      exact ⟨by rw [HE.out]; rfl, HB.out⟩

end Go.Proofs.Ytdeahjinnnhfkaa
