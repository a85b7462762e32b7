/- DatabaseDigest, the program's and the document's: what each gives. No conditions but a size that a machine holds. -/
import Derived.Test.YtdeahjinnnhfkaaDb1
import Derived.Test.YtdeahjinnnhfkaaCry3
namespace Go.Proofs.Ytdeahjinnnhfkaa
open Go Go.RowKit
set_option linter.unusedVariables false
attribute [local irreducible] kh hsh

theorem digP_len {zss : List (List Int)} {j : Nat} : (((zss.take j).map bti).flatten).length ≤ tot zss := by
  rw [digL_len]
  unfold tot
  have h1 := fl_take_le zss j
  rw [List.length_take]
  omega

set_option maxHeartbeats 1000000 in
/-- impl.DatabaseDigest -/
theorem impl_dd {lim : Nat} {w : World} {v : Value} {zss : List (List Int)} (h : Rd2 lim .u8 w v zss) (hlim : lim ≤ w.heap.size) (hn : tot zss ≤ 1099511627776) :
    Calls Try.prog 44 #[.agg #[v]] w fun e w' => e = .returned (.int .i64 (dig zss)) ∧ Below w.heap.size w w' := by
  obtain ⟨q, hq⟩ : ∃ q, q = dig zss := ⟨_, rfl⟩
  rw [← hq]
  have HQ : Hid (hsh ((zss.length : Int) :: (zss.map bti).flatten) = q) := Lib.hid (by rw [hq]; rfl)
  clear hq
  obtain ⟨i0, hi0, hz0, hz1, hz2⟩ := info_parts infoi64
  have Hhi := Lib.hid hi0
  obtain ⟨a, cap, rfl, h1, h2, hc⟩ := h.open
  have hB0 := (Below.refl w.heap.size w).alloc (Nat.le_refl _) (.cells #[.slice a zss.length cap] 30)
  have HB := Lib.hid (hB0.alloc hB0.size (.cells #[.int .i64 (zss.length : Int)] 3))
  have hzl : zss.length ≤ 1099511627776 := by unfold tot at hn; omega
  have hbl := blocks2 w (.cells #[.slice a zss.length cap] 30) (.cells #[.int .i64 (zss.length : Int)] 3)
  have HD := Lib.hid hbl.1
  have cD := blk_cell hbl.1 0
  rw [one0] at cD
  have hone := Own.one (B := w.heap.size + 1) (w := w.alloc (.cells #[.slice a zss.length cap] 30)) 3 .i64 (by simp) (wf_i64_of (n := (zss.length : Int)) (by omega) (by omega))
  rw [World.size_alloc] at hone
  have HO := Lib.hid hone
  unfold maxLen at h2
  have Hc := Lib.hid hc
  have HN := Lib.hid hn
  clear h hc hn hi0 hbl hone hB0
  go_enter Try.func44, Try.ntmps44
  go_wp2_with fail
  go_loopw [3, 13] (fun s i wr => ∃ j : Nat, i = .int .i64 j ∧ j ≤ zss.length ∧ Own 3 .i64 (w.heap.size + 1) wr s ((zss.length : Int) :: ((zss.take j).map bti).flatten) ∧ wr.heap[w.heap.size]? = some (.cells #[.slice a zss.length cap] 30) ∧ Below w.heap.size w wr) (fun _ i _ => zss.length - (intOf i).toNat)
  case atStart => exact ⟨0, rfl, Nat.zero_le _, by rw [List.take_zero]; exact HO.out, HD.out, HB.out⟩
  case round =>
    obtain ⟨j, rfl, hj, hO, hD, hB⟩ := hrel
    replace HO := Lib.hid hO
    replace HD := Lib.hid hD
    replace HB := Lib.hid hB
    clear cD
    have cD := blk_cell hD 0
    rw [one0] at cD
    clear hO hD hB
    by_cases hlt : j < zss.length
    · have e1 : decide ((j : Int) < (zss.length : Int)) = true := by simp; omega
      have hlt' : (j : Int) < (zss.length : Int) := by omega
      obtain ⟨b, o, rfl, hbl, hcell⟩ := Hc.out (by omega)
      obtain ⟨zs, hzs⟩ : ∃ zs, zss[j]? = some zs := ⟨_, List.getElem?_eq_getElem hlt⟩
      obtain ⟨u, c1, hr⟩ := hcell _ (HB.out.mono hlim) j zs hzs
      have Hr := Lib.hid hr
      have HLz : Hid (zs.length ≤ 1099511627776) := Lib.hid (by have := tot_at hzs; have := HN.out; omega)
      have HT := Lib.hid (digL_take hzs)
      have HLb : Hid ((((zss.length : Int) :: ((zss.take j).map bti).flatten).length + (bti zs).length) * 8 ≤ 140737488355328) := Lib.hid (by
        have h3 := digP_len (zss := zss) (j := j)
        have h4 := HN.out
        have h5 := tot_at hzs
        rw [List.length_cons, bti_len]; omega)
      clear hcell hr hzs
      go_wp2_with fail
      refine (impl_bti Hr.out (Nat.le_trans hlim HB.out.size) HLz.out).mono ?_
      rintro e w2 ⟨v2, rfl, h2, hb2⟩
      have H2 := Lib.hid h2.rd
      have HO2 := Lib.hid (HO.out.next hb2)
      have HD2 := Lib.hid ((hb2.block w.heap.size (lt_of_block HD.out)).trans HD.out)
      have HB2 := Lib.hid (HB.out.trans (hb2.mono HB.out.size))
      clear h2 hb2
      go_wp2_with (first | (at_builtin; refine append_rd _ rfl _ _ 26 rfl 3 i0 (.int .i64 0) 8 Try.underlying26 Hhi.out hz0 hz1 hz2 rfl (by omega) rfl HO2.out rfl H2.out HLb.out ?_))
      intro v5 w5 h5 hg5
      rw [← List.map_take, HT.out] at h5
      have H5 := Lib.hid h5
      have hb5 := HO2.out.below (Nat.le_refl _) hg5
      have HB5 := Lib.hid (HB2.out.trans (hb5.mono (Nat.le_succ _)))
      have HD5 := Lib.hid ((hb5.block w.heap.size (by omega)).trans HD2.out)
      clear h5 hg5 hb5
      go_wp2_with fail
      go_roundw
      case rel => exact ⟨j + 1, by simp, hlt, H5.out, HD5.out, HB5.out⟩
      case measure => simp [intOf]; omega
    · have e1 : decide ((j : Int) < (zss.length : Int)) = false := by simp; omega
      have hO := HO.out
      rw [List.take_of_length_le (by omega)] at hO
      have HO2 := Lib.hid hO.rd
      clear hO
      go_wp2_with fail
      refine (impl_hsh HO2.out).mono ?_
      rw [HQ.out]
      rintro e w2 ⟨rfl, hw2⟩
      subst hw2
      go_wp2_with fail
      go_ret
      exact ⟨rfl, HB.out⟩

set_option maxHeartbeats 1000000 in
/-- spec.DatabaseDigest -/
theorem spec_dd {lim : Nat} {w : World} {v : Value} {zss : List (List Int)} (h : Rd2 lim .u8 w v zss) (hlim : lim ≤ w.heap.size) (hn : tot zss ≤ 1099511627776) :
    Calls Try.prog 43 #[.agg #[v]] w fun e w' => e = .returned (.int .i64 (dig zss)) ∧ Below w.heap.size w w' := by
  obtain ⟨q, hq⟩ : ∃ q, q = dig zss := ⟨_, rfl⟩
  rw [← hq]
  have HQ : Hid (hsh ((zss.length : Int) :: (zss.map bti).flatten) = q) := Lib.hid (by rw [hq]; rfl)
  clear hq
  obtain ⟨i0, hi0, hz0, hz1, hz2⟩ := info_parts infoi64
  have Hhi := Lib.hid hi0
  obtain ⟨a, cap, rfl, h1, h2, hc⟩ := h.open
  have hB0 := (Below.refl w.heap.size w).alloc (Nat.le_refl _) (.cells #[.slice a zss.length cap] 30)
  have HB := Lib.hid (hB0.alloc hB0.size (.cells #[.int .i64 (zss.length : Int)] 3))
  have hzl : zss.length ≤ 1099511627776 := by unfold tot at hn; omega
  have hbl := blocks2 w (.cells #[.slice a zss.length cap] 30) (.cells #[.int .i64 (zss.length : Int)] 3)
  have HD := Lib.hid hbl.1
  have cD := blk_cell hbl.1 0
  rw [one0] at cD
  have hone := Own.one (B := w.heap.size + 1) (w := w.alloc (.cells #[.slice a zss.length cap] 30)) 3 .i64 (by simp) (wf_i64_of (n := (zss.length : Int)) (by omega) (by omega))
  rw [World.size_alloc] at hone
  have HO := Lib.hid hone
  unfold maxLen at h2
  have Hc := Lib.hid hc
  have HN := Lib.hid hn
  clear h hc hn hi0 hbl hone hB0
  go_enter Try.func43, Try.ntmps43
  go_wp2_with fail
  go_loopw [3, 4] (fun s i wr => ∃ j : Nat, i = .int .i64 j ∧ j ≤ zss.length ∧ Own 3 .i64 (w.heap.size + 1) wr s ((zss.length : Int) :: ((zss.take j).map bti).flatten) ∧ wr.heap[w.heap.size]? = some (.cells #[.slice a zss.length cap] 30) ∧ Below w.heap.size w wr) (fun _ i _ => zss.length - (intOf i).toNat)
  case atStart => exact ⟨0, rfl, Nat.zero_le _, by rw [List.take_zero]; exact HO.out, HD.out, HB.out⟩
  case round =>
    obtain ⟨j, rfl, hj, hO, hD, hB⟩ := hrel
    replace HO := Lib.hid hO
    replace HD := Lib.hid hD
    replace HB := Lib.hid hB
    clear cD
    have cD := blk_cell hD 0
    rw [one0] at cD
    clear hO hD hB
    by_cases hlt : j < zss.length
    · have e1 : decide ((j : Int) < (zss.length : Int)) = true := by simp; omega
      have hlt' : (j : Int) < (zss.length : Int) := by omega
      obtain ⟨b, o, rfl, hbl, hcell⟩ := Hc.out (by omega)
      obtain ⟨zs, hzs⟩ : ∃ zs, zss[j]? = some zs := ⟨_, List.getElem?_eq_getElem hlt⟩
      obtain ⟨u, c1, hr⟩ := hcell _ (HB.out.mono hlim) j zs hzs
      have Hr := Lib.hid hr
      have HLz : Hid (zs.length ≤ 1099511627776) := Lib.hid (by have := tot_at hzs; have := HN.out; omega)
      have HT := Lib.hid (digL_take hzs)
      have HLb : Hid ((((zss.length : Int) :: ((zss.take j).map bti).flatten).length + (bti zs).length) * 8 ≤ 140737488355328) := Lib.hid (by
        have h3 := digP_len (zss := zss) (j := j)
        have h4 := HN.out
        have h5 := tot_at hzs
        rw [List.length_cons, bti_len]; omega)
      clear hcell hr hzs
      go_wp2_with fail
      refine (spec_bti Hr.out (Nat.le_trans hlim HB.out.size) HLz.out).mono ?_
      rintro e w2 ⟨v2, rfl, h2, hb2⟩
      have H2 := Lib.hid h2.rd
      have HO2 := Lib.hid (HO.out.next hb2)
      have HD2 := Lib.hid ((hb2.block w.heap.size (lt_of_block HD.out)).trans HD.out)
      have HB2 := Lib.hid (HB.out.trans (hb2.mono HB.out.size))
      clear h2 hb2
      go_wp2_with (first | (at_builtin; refine append_rd _ rfl _ _ 26 rfl 3 i0 (.int .i64 0) 8 Try.underlying26 Hhi.out hz0 hz1 hz2 rfl (by omega) rfl HO2.out rfl H2.out HLb.out ?_))
      intro v5 w5 h5 hg5
      rw [← List.map_take, HT.out] at h5
      have H5 := Lib.hid h5
      have hb5 := HO2.out.below (Nat.le_refl _) hg5
      have HB5 := Lib.hid (HB2.out.trans (hb5.mono (Nat.le_succ _)))
      have HD5 := Lib.hid ((hb5.block w.heap.size (by omega)).trans HD2.out)
      clear h5 hg5 hb5
      go_wp2_with fail
      go_roundw
      case rel => exact ⟨j + 1, by simp, hlt, H5.out, HD5.out, HB5.out⟩
      case measure => simp [intOf]; omega
    · have e1 : decide ((j : Int) < (zss.length : Int)) = false := by simp; omega
      have hO := HO.out
      rw [List.take_of_length_le (by omega)] at hO
      have HO2 := Lib.hid hO.rd
      clear hO
      go_wp2_with fail
      refine (spec_hsh HO2.out).mono ?_
      rw [HQ.out]
      rintro e w2 ⟨rfl, hw2⟩
      subst hw2
      go_wp2_with fail
      go_ret
      exact ⟨rfl, HB.out⟩

end Go.Proofs.Ytdeahjinnnhfkaa
