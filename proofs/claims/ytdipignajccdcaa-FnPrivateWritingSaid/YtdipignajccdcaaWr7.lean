/- CountRowsWritten and CollideWrites, the program's and the document's. No conditions but a size that a machine holds. -/
import Derived.Test.YtdipignajccdcaaWrN
import Derived.Test.YtdipignajccdcaaWr8
import Derived.Test.YtdipignajccdcaaXor
import Derived.Test.YtdipignajccdcaaXor2
namespace Go.Proofs.Ytdipignajccdcaa
open Go Go.RowKit
set_option linter.unusedVariables false
attribute [local irreducible] kh


/-- impl.CollideWrites -/
theorem impl_cw {l1 l2 : Nat} {w : World} {u v : Value} {xs ys : List Int} (hu : Rd l1 .u8 w u xs) (hv : Rd l2 .u8 w v ys) (hl1 : l1 ≤ w.heap.size) (hl2 : l2 ≤ w.heap.size) (hn : xs.length + ys.length ≤ 140737488355328) :
    Calls Try.prog 38 #[u, v] w fun e w' => ∃ v', e = .returned v' ∧ Own 5 .u8 w.heap.size w' v' (xorl xs ys) ∧ Below w.heap.size w w' := by
  have HU := Lib.hid hu
  have HV := Lib.hid hv
  have HN := Lib.hid hn
  clear hu hv hn
  go_enter Try.func38, Try.ntmps38
  go_wp2_with fail
  refine (impl_xb HU.out HV.out hl1 hl2 HN.out).mono ?_
  rintro e w2 ⟨v2, rfl, h2, hb⟩
  have H2 := Lib.hid h2
  have HB := Lib.hid hb
  clear h2 hb
  go_wp2_with fail
  go_ret
  exact ⟨_, rfl, H2.out, HB.out⟩

set_option maxRecDepth 20000 in
set_option maxHeartbeats 1000000 in
/-- impl.CountRowsWritten -/
theorem impl_crw {lim : Nat} {w : World} {v : Value} {zss : List (List Int)} (hu : Rd2 lim .u8 w v zss) (hl : lim ≤ w.heap.size) :
    Calls Try.prog 34 #[.agg #[v]] w fun e w' => e = .returned (.int .i64 (crw zss : Int)) ∧ Below w.heap.size w w' := by
  obtain ⟨a, cap, rfl, h1, h2, hc⟩ := hu.open
  have Hc := Lib.hid hc
  unfold maxLen at h2
  have HB := Lib.hid ((Below.refl w.heap.size w).alloc (Nat.le_refl _) (.cells #[.slice a zss.length cap] 39))
  have HA := Lib.hid (heap_alloc_new w (.cells #[.slice a zss.length cap] 39))
  have HCl := Lib.hid (crw_le zss)
  have HT : Hid (∀ (j : Nat) (zs : List Int), zss[j]? = some zs → crw (zss.take (j + 1)) = crw (zss.take j) + (if isz zs = true then 0 else 1)) := Lib.hid (fun j zs h => crw_take h)
  have HLe : Hid (∀ j, crw (zss.take j) ≤ j) := Lib.hid (fun j => Nat.le_trans (crw_le _) (by rw [List.length_take]; omega))
  obtain ⟨n, hn⟩ : ∃ n, n = zss.length := ⟨_, rfl⟩
  have HN := Lib.hid hn
  rw [← hn] at h1 HA HB
  have HCn : Hid (0 < n → 0 < zss.length) := Lib.hid (fun h => by omega)
  rw [← hn]
  have cA := blk_cell HA.out 0
  rw [one0] at cA
  clear hu hc hn
  go_enter Try.func34, Try.ntmps34
  go_wp2_with fail
  clear cA
  go_loopw [3, 9] (fun s i wr => ∃ j : Nat, i = .int .i64 j ∧ j ≤ n ∧ s = .int .i64 (crw (zss.take j) : Int) ∧ wr.heap[w.heap.size]? = some (.cells #[.slice a n cap] 39) ∧ Below w.heap.size w wr) (fun _ i _ => n - (intOf i).toNat)
  case atStart => exact ⟨0, rfl, Nat.zero_le _, rfl, HA.out, HB.out⟩
  case round =>
    obtain ⟨j, rfl, hj, rfl, hA, hB⟩ := hrel
    replace HA := Lib.hid hA
    replace HB := Lib.hid hB
    have cA := blk_cell hA 0
    rw [one0] at cA
    clear hA hB
    by_cases hlt : j < n
    · have e1 : decide ((j : Int) < (n : Int)) = true := by simp; omega
      have hjn : (j : Int) < (n : Int) := by omega
      obtain ⟨b, o, rfl, hbl, hcell⟩ := Hc.out (HCn.out (by omega))
      obtain ⟨zs, hzs⟩ : ∃ zs, zss[j]? = some zs := ⟨_, List.getElem?_eq_getElem (by rw [← HN.out]; exact hlt)⟩
      obtain ⟨u, c1, hr⟩ := hcell wr (HB.out.mono hl) j zs hzs
      obtain ⟨a1, k1, hu, _⟩ := hr.open
      obtain ⟨L, hL⟩ : ∃ L, L = zs.length := ⟨_, rfl⟩
      rw [← hL] at hu
      subst hu
      have Hr := Lib.hid hr
      have HTj := Lib.hid (HT.out j zs hzs)
      obtain ⟨m, hm⟩ : ∃ m, m = crw (zss.take j) := ⟨_, rfl⟩
      have hmj : m ≤ j := by rw [hm]; exact HLe.out j
      rw [← hm] at HTj ⊢
      obtain ⟨q, hq⟩ : ∃ q, q = isz zs := ⟨_, rfl⟩
      have HQ := Lib.hid hq
      clear hcell hzs hr hL hm hq
      go_wp2_with fail
      refine (impl_iz Hr.out).mono ?_
      rw [← HQ.out]
      rintro e w2 ⟨rfl, hw2⟩
      obtain rfl : wr = w2 := hw2.symm
      rw [← HQ.out] at HTj
      clear hlt
      cases q with
      | true =>
        have hTj : crw (zss.take (j + 1)) = m := by rw [HTj.out]; rfl
        have HTm := Lib.hid hTj
        clear hTj
        go_wp2_with fail
        go_roundw
        case rel => exact ⟨j + 1, by simp, by omega, by rw [HTm.out], HA.out, HB.out⟩
        case measure => simp [intOf]; omega
      | false =>
        have hTj : crw (zss.take (j + 1)) = m + 1 := by rw [HTj.out]; rfl
        have HTm := Lib.hid hTj
        clear hTj
        go_wp2_with fail
        go_roundw
        case rel => exact ⟨j + 1, by simp, by omega, by rw [HTm.out]; simp, HA.out, HB.out⟩
        case measure => simp [intOf]; omega
    · have e1 : decide ((j : Int) < (n : Int)) = false := by simp; omega
      have eT : zss.take j = zss := List.take_of_length_le (by rw [← HN.out]; omega)
      rw [eT]
      obtain ⟨m, hm⟩ : ∃ m, m = crw zss := ⟨_, rfl⟩
      rw [← hm]
      have HM := Lib.hid hm
      clear eT hm
      go_wp2_with fail
      go_ret
      exact ⟨by rw [HM.out]; rfl, HB.out⟩


/-- spec.CollideWrites -/
theorem spec_cw {l1 l2 : Nat} {w : World} {u v : Value} {xs ys : List Int} (hu : Rd l1 .u8 w u xs) (hv : Rd l2 .u8 w v ys) (hl1 : l1 ≤ w.heap.size) (hl2 : l2 ≤ w.heap.size) (hn : xs.length + ys.length ≤ 140737488355328) :
    Calls Try.prog 37 #[u, v] w fun e w' => ∃ v', e = .returned v' ∧ Own 5 .u8 w.heap.size w' v' (xorl xs ys) ∧ Below w.heap.size w w' := by
  have HU := Lib.hid hu
  have HV := Lib.hid hv
  have HN := Lib.hid hn
  clear hu hv hn
  go_enter Try.func37, Try.ntmps37
  go_wp2_with fail
  refine (spec_xb HU.out HV.out hl1 hl2 HN.out).mono ?_
  rintro e w2 ⟨v2, rfl, h2, hb⟩
  have H2 := Lib.hid h2
  have HB := Lib.hid hb
  clear h2 hb
  go_wp2_with fail
  go_ret
  exact ⟨_, rfl, H2.out, HB.out⟩

set_option maxRecDepth 20000 in
set_option maxHeartbeats 1000000 in
/-- spec.CountRowsWritten -/
theorem spec_crw {lim : Nat} {w : World} {v : Value} {zss : List (List Int)} (hu : Rd2 lim .u8 w v zss) (hl : lim ≤ w.heap.size) :
    Calls Try.prog 33 #[.agg #[v]] w fun e w' => e = .returned (.int .i64 (crw zss : Int)) ∧ Below w.heap.size w w' := by
  obtain ⟨a, cap, rfl, h1, h2, hc⟩ := hu.open
  have Hc := Lib.hid hc
  unfold maxLen at h2
  have HB := Lib.hid ((Below.refl w.heap.size w).alloc (Nat.le_refl _) (.cells #[.slice a zss.length cap] 39))
  have HA := Lib.hid (heap_alloc_new w (.cells #[.slice a zss.length cap] 39))
  have HCl := Lib.hid (crw_le zss)
  have HT : Hid (∀ (j : Nat) (zs : List Int), zss[j]? = some zs → crw (zss.take (j + 1)) = crw (zss.take j) + (if isz zs = true then 0 else 1)) := Lib.hid (fun j zs h => crw_take h)
  have HLe : Hid (∀ j, crw (zss.take j) ≤ j) := Lib.hid (fun j => Nat.le_trans (crw_le _) (by rw [List.length_take]; omega))
  obtain ⟨n, hn⟩ : ∃ n, n = zss.length := ⟨_, rfl⟩
  have HN := Lib.hid hn
  rw [← hn] at h1 HA HB
  have HCn : Hid (0 < n → 0 < zss.length) := Lib.hid (fun h => by omega)
  rw [← hn]
  have cA := blk_cell HA.out 0
  rw [one0] at cA
  clear hu hc hn
  go_enter Try.func33, Try.ntmps33
  go_wp2_with fail
  clear cA
  go_loopw [3, 4] (fun s i wr => ∃ j : Nat, i = .int .i64 j ∧ j ≤ n ∧ s = .int .i64 (crw (zss.take j) : Int) ∧ wr.heap[w.heap.size]? = some (.cells #[.slice a n cap] 39) ∧ Below w.heap.size w wr) (fun _ i _ => n - (intOf i).toNat)
  case atStart => exact ⟨0, rfl, Nat.zero_le _, rfl, HA.out, HB.out⟩
  case round =>
    obtain ⟨j, rfl, hj, rfl, hA, hB⟩ := hrel
    replace HA := Lib.hid hA
    replace HB := Lib.hid hB
    have cA := blk_cell hA 0
    rw [one0] at cA
    clear hA hB
    by_cases hlt : j < n
    · have e1 : decide ((j : Int) < (n : Int)) = true := by simp; omega
      have hjn : (j : Int) < (n : Int) := by omega
      obtain ⟨b, o, rfl, hbl, hcell⟩ := Hc.out (HCn.out (by omega))
      obtain ⟨zs, hzs⟩ : ∃ zs, zss[j]? = some zs := ⟨_, List.getElem?_eq_getElem (by rw [← HN.out]; exact hlt)⟩
      obtain ⟨u, c1, hr⟩ := hcell wr (HB.out.mono hl) j zs hzs
      obtain ⟨a1, k1, hu, _⟩ := hr.open
      obtain ⟨L, hL⟩ : ∃ L, L = zs.length := ⟨_, rfl⟩
      rw [← hL] at hu
      subst hu
      have Hr := Lib.hid hr
      have HTj := Lib.hid (HT.out j zs hzs)
      obtain ⟨m, hm⟩ : ∃ m, m = crw (zss.take j) := ⟨_, rfl⟩
      have hmj : m ≤ j := by rw [hm]; exact HLe.out j
      rw [← hm] at HTj ⊢
      obtain ⟨q, hq⟩ : ∃ q, q = isz zs := ⟨_, rfl⟩
      have HQ := Lib.hid hq
      clear hcell hzs hr hL hm hq
      go_wp2_with fail
      refine (spec_iz Hr.out).mono ?_
      rw [← HQ.out]
      rintro e w2 ⟨rfl, hw2⟩
      obtain rfl : wr = w2 := hw2.symm
      rw [← HQ.out] at HTj
      clear hlt
      cases q with
      | true =>
        have hTj : crw (zss.take (j + 1)) = m := by rw [HTj.out]; rfl
        have HTm := Lib.hid hTj
        clear hTj
        go_wp2_with fail
        go_roundw
        case rel => exact ⟨j + 1, by simp, by omega, by rw [HTm.out], HA.out, HB.out⟩
        case measure => simp [intOf]; omega
      | false =>
        have hTj : crw (zss.take (j + 1)) = m + 1 := by rw [HTj.out]; rfl
        have HTm := Lib.hid hTj
        clear hTj
        go_wp2_with fail
        go_roundw
        case rel => exact ⟨j + 1, by simp, by omega, by rw [HTm.out]; simp, HA.out, HB.out⟩
        case measure => simp [intOf]; omega
    · have e1 : decide ((j : Int) < (n : Int)) = false := by simp; omega
      have eT : zss.take j = zss := List.take_of_length_le (by rw [← HN.out]; omega)
      rw [eT]
      obtain ⟨m, hm⟩ : ∃ m, m = crw zss := ⟨_, rfl⟩
      rw [← hm]
      have HM := Lib.hid hm
      clear eT hm
      go_wp2_with fail
      go_ret
      exact ⟨by rw [HM.out]; rfl, HB.out⟩

end Go.Proofs.Ytdipignajccdcaa
