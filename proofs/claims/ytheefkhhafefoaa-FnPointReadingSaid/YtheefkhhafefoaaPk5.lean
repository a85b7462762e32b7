/- EvaluateAll and KeySavings, the program's and the document's. No conditions but numbers that a machine holds. -/
import Derived.Test.YtheefkhhafefoaaPk4
namespace Go.Proofs.Ytheefkhhafefoaa
open Go Go.RowKit
set_option linter.unusedVariables false
attribute [local irreducible] kh

theorem pown {D N : Nat} (h : N = 2 ^ D) : (2 : Int) ^ D = (N : Int) := by rw [h]; simp
theorem natw {n : Nat} (h : n ≤ 1000) : (Lit.int .i64 (n : Int)).wf = true := wf_i64_of (by omega) (by omega)
theorem eall_no {r b : Int} {cs : List Cor} (h : vk r b cs = false) : eall r b cs = [] := by unfold eall; rw [h]; rfl
theorem eall_yes {r b : Int} {cs : List Cor} (h : vk r b cs = true) : eall r b cs = (List.range (2 ^ cs.length)).map (fun i => (lf (r, b) cs i).2) := by unfold eall; rw [h]; rfl

set_option maxHeartbeats 4000000 in
/-- impl.EvaluateAll -/
theorem impl_eall {l : Nat} {w : World} {e0 : TypeId} {a : Option Addr} {cap : Nat} {cs : List Cor} {r b : Int} (h : (sliceT e0 tyCorrection).rd l w [.slice a cs.length cap] cs) (hl : l ≤ w.heap.size) (hr : (Lit.int .i64 r).wf = true) (hb : (Lit.int .i64 b).wf = true) :
    Calls Try.prog 17 #[.agg #[.int .i64 r, .int .i64 b, .slice a cs.length cap]] w fun e w' => ∃ v', e = .returned v' ∧ Own 3 .i64 w.heap.size w' v' (eall r b cs) ∧ Below w.heap.size w w' := by
  obtain ⟨i0, hi, hz0, hz1, hz2⟩ := info_parts infoi64
  have Hhi := Lib.hid hi
  obtain ⟨q, hq⟩ : ∃ q, q = eall r b cs := ⟨_, rfl⟩
  rw [← hq]
  have HQ := Lib.hid hq
  have HR := Lib.hid hr
  have HBi := Lib.hid hb
  have HB := Lib.hid ((Below.refl w.heap.size w).alloc (Nat.le_refl _) (.cells #[.int .i64 r, .int .i64 b, .slice a cs.length cap] 27))
  have H := Lib.hid h
  clear h hr hb hq hi
  go_enter Try.func17, Try.ntmps17
  go_wp2_with fail
  refine (of_any).mono ?_
  rintro e w1 ⟨rfl, hb⟩
  have hB := HB.out.trans (hb.mono HB.out.size)
  have hB2 := hB.alloc hB.size (.cells #[.int .i64 r, .int .i64 b, .slice a cs.length cap] 75)
  have hK := heap_alloc_new w1 (.cells #[.int .i64 r, .int .i64 b, .slice a cs.length cap] 75)
  clear hb hB
  go_wp2_with fail
  obtain ⟨W2, hW2⟩ : ∃ W, W = w1.alloc (.cells #[.int .i64 r, .int .i64 b, .slice a cs.length cap] 75) := ⟨_, rfl⟩
  rw [← hW2] at hB2 hK ⊢
  replace HB := Lib.hid hB2
  have HK := Lib.hid hK
  clear hB2 hK hW2
  refine (isValid_any ((sliceT e0 tyCorrection).behind H.out (HB.out.mono hl)) (Nat.le_trans hl HB.out.size) HR.out HBi.out).mono ?_
  cases hv : vk r b cs with
  | false =>
    have HE : Hid (q = []) := Lib.hid (by rw [HQ.out, eall_no hv])
    clear hv
    rintro e w3 ⟨rfl, hb⟩
    replace HB := Lib.hid (HB.out.trans (hb.mono HB.out.size))
    clear hb
    go_wp2_with fail
    go_ret
    exact ⟨_, rfl, by rw [HE.out]; exact Own.lit _ _ HB.out.size, HB.out.alloc HB.out.size _⟩
  | true =>
    have HV := Lib.hid hv
    obtain ⟨h16a, h16⟩ := vk_len hv
    obtain ⟨N, hN⟩ : ∃ N, N = 2 ^ cs.length := ⟨_, rfl⟩
    have HE : Hid (q = (List.range N).map (fun i => (lf (r, b) cs i).2)) := Lib.hid (by rw [HQ.out, eall_yes hv, hN])
    have hp := (pow_le6 h16).2
    have hp' := (pow_le6 h16).1
    rw [← hN] at hp hp'
    have ep := pown hN
    have H6 := Lib.hid h16
    clear hv hN
    rintro e w3 ⟨rfl, hb⟩
    replace HB := Lib.hid (HB.out.trans (hb.mono HB.out.size))
    replace HK := Lib.hid ((hb.block _ (lt_of_block HK.out)).trans HK.out)
    clear hb
    have k2 := blk_cell HK.out 2
    rw [th2] at k2
    go_wp2_with fail
    refine (depth_any).mono ?_
    rintro e w4 ⟨rfl, hw⟩
    obtain rfl : w3 = w4 := hw.symm
    go_wp2_with (first | (at_make; refine wpList_make_full _ rfl _ _ 31 rfl w3.heap.size 3 i0 (.int .i64 0) 1 Try.underlying31 Hhi.out hz0 hz1 .i64 .i64 _ _ N rfl rfl rfl rfl (by rw [hz2]; omega) (by unfold maxLen; omega) (Nat.le_refl _) ?_))
    intro w5 hown hg
    have hO := own_made hown hg.size (by decide)
    rw [← upt_rep (fun i => (lf (r, b) cs i).2) N] at hO
    have HO := Lib.hid hO
    have HB3 := Lib.hid ((Below.refl w3.heap.size w3).grown hg (Nat.le_refl _) (fun k hk => by cases hk))
    clear hown hg hO k2
    go_wp2_with fail
    go_loopw [19] (fun i wr => ∃ j : Nat, i = .int .i64 j ∧ j ≤ N ∧ Own 3 .i64 w3.heap.size wr (.slice (some ⟨w3.heap.size, 0, none⟩) N N) (upt (fun i => (lf (r, b) cs i).2) (fun _ => 0) j N) ∧ Below w3.heap.size w3 wr) (fun i _ => N - (intOf i).toNat)
    case atStart => exact ⟨0, rfl, Nat.zero_le _, HO.out, HB3.out⟩
    case round =>
      obtain ⟨j, rfl, hj, hO, hB⟩ := hrel
      replace HO := Lib.hid hO
      replace HB3 := Lib.hid hB
      have HKr := Lib.hid ((HB3.out.block _ (lt_of_block HK.out)).trans HK.out)
      have HBr := Lib.hid (HB.out.trans (HB3.out.mono HB.out.size))
      clear hO hB
      by_cases hlt : j < N
      · have e1 : decide ((j : Int) < (N : Int)) = true := by simp; omega
        have hj63 : j ≤ 63 := by omega
        have k0 := blk_cell HKr.out 0
        have k1 := blk_cell HKr.out 1
        have k2 := blk_cell HKr.out 2
        rw [th0] at k0
        rw [th1] at k1
        rw [th2] at k2
        go_wp2_with fail
        refine (bitAt_any ((sliceT e0 tyCorrection).behind H.out (HBr.out.mono hl)) (Nat.le_trans hl HBr.out.size) HR.out HBi.out H6.out hj63).mono ?_
        rintro e w6 ⟨rfl, hb⟩
        replace HB3 := Lib.hid (HB3.out.trans (hb.mono HB3.out.size))
        replace HO := Lib.hid (HO.out.next hb)
        have c2 := HO.out.cellAt (upt_length _ _ _ _) hlt
        have f2 := HO.out.free (upt_length _ _ _ _) j
        obtain ⟨p1, p2⟩ := HO.out.put (f := fun i => (lf (r, b) cs i).2) (j := j) (lf_wf2 HBi.out _ _)
        have P1 := Lib.hid p1
        have P2 := Lib.hid p2
        obtain ⟨x, hx⟩ : ∃ x, x = (lf (r, b) cs j).2 := ⟨_, rfl⟩
        rw [← hx] at P1 P2 ⊢
        clear hb p1 p2 k0 k1 k2 hx
        go_wp2_with fail
        go_roundw
        case rel => exact ⟨j + 1, by simp, hlt, P1.out, HB3.out.grown P2.out HB3.out.size (fun k hk => by injection hk with hk; omega)⟩
        case measure => simp [intOf]; omega
      · have e1 : decide ((j : Int) < (N : Int)) = false := by simp; omega
        have ej : j = N := by omega
        have HE2 : Hid (upt (fun i => (lf (r, b) cs i).2) (fun _ => 0) j N = q) := Lib.hid (by rw [HE.out, ej, upt_full])
        clear ej
        go_wp2_with fail
        go_ret
        exact ⟨_, rfl, by rw [← HE2.out]; exact HO.out.mono HB.out.size, HBr.out⟩

set_option maxHeartbeats 4000000 in
/-- spec.EvaluateAll -/
theorem spec_eall {l : Nat} {w : World} {e0 : TypeId} {a : Option Addr} {cap : Nat} {cs : List Cor} {r b : Int} (h : (sliceT e0 tyCorrection).rd l w [.slice a cs.length cap] cs) (hl : l ≤ w.heap.size) (hr : (Lit.int .i64 r).wf = true) (hb : (Lit.int .i64 b).wf = true) :
    Calls Try.prog 40 #[.agg #[.int .i64 r, .int .i64 b, .slice a cs.length cap]] w fun e w' => ∃ v', e = .returned v' ∧ Own 3 .i64 w.heap.size w' v' (eall r b cs) ∧ Below w.heap.size w w' := by
  obtain ⟨i0, hi, hz0, hz1, hz2⟩ := info_parts infoi64
  have Hhi := Lib.hid hi
  obtain ⟨q, hq⟩ : ∃ q, q = eall r b cs := ⟨_, rfl⟩
  rw [← hq]
  have HQ := Lib.hid hq
  have HR := Lib.hid hr
  have HBi := Lib.hid hb
  have hB0 := ((Below.refl w.heap.size w).alloc (Nat.le_refl _) (.cells #[.int .i64 r, .int .i64 b, .slice a cs.length cap] 27)).alloc (by simp) (.cells #[] 3)
  have hK0 := (blocks2T w (.cells #[.int .i64 r, .int .i64 b, .slice a cs.length cap] 27) (.cells #[] 3)).1
  have hO0 : Own 3 .i64 (w.heap.size + 1) ((w.alloc (.cells #[.int .i64 r, .int .i64 b, .slice a cs.length cap] 27)).alloc (.cells #[] 3)) (.slice (some ⟨w.heap.size + 1, 0, none⟩) 0 0) [] := by
    have := Own.lit (w := w.alloc (.cells #[.int .i64 r, .int .i64 b, .slice a cs.length cap] 27)) (B := w.heap.size + 1) 3 .i64 (by simp)
    rwa [World.size_alloc] at this
  obtain ⟨W0, hW0⟩ : ∃ W, W = (w.alloc (.cells #[.int .i64 r, .int .i64 b, .slice a cs.length cap] 27)).alloc (.cells #[] 3) := ⟨_, rfl⟩
  rw [← hW0] at hB0 hK0 hO0
  have HB := Lib.hid hB0
  have HK := Lib.hid hK0
  have HO := Lib.hid hO0
  have HW0 := Lib.hid hW0
  have H := Lib.hid h
  clear h hr hb hq hi hB0 hK0 hO0 hW0
  go_enter Try.func40, Try.ntmps40
  go_wp2_with fail
  rw [← HW0.out]
  refine (spec_vpk ((sliceT e0 tyCorrection).behind H.out (HB.out.mono hl)) (Nat.le_trans hl HB.out.size) HR.out HBi.out).mono ?_
  cases hv : vk r b cs with
  | false =>
    have HE : Hid (q = []) := Lib.hid (by rw [HQ.out, eall_no hv])
    clear hv
    rintro e w3 ⟨rfl, hb⟩
    replace HB := Lib.hid (HB.out.trans (hb.mono HB.out.size))
    replace HO := Lib.hid (HO.out.next hb)
    clear hb
    go_wp2_with fail
    go_ret
    exact ⟨_, rfl, by rw [HE.out]; exact HO.out.mono (Nat.le_succ _), HB.out⟩
  | true =>
    have HV := Lib.hid hv
    obtain ⟨h16a, h16⟩ := vk_len hv
    obtain ⟨N, hN⟩ : ∃ N, N = 2 ^ cs.length := ⟨_, rfl⟩
    have HE : Hid (q = (List.range N).map (fun i => (lf (r, b) cs i).2)) := Lib.hid (by rw [HQ.out, eall_yes hv, hN])
    have hp := (pow_le6 h16).2
    have hp' := (pow_le6 h16).1
    rw [← hN] at hp hp'
    have ep := pown hN
    have HP : Hid (∀ j : Nat, j < N → ept r b cs (j : Int) = (lf (r, b) cs j).2) := Lib.hid (fun j hj => by
      rw [ept_yes hv (leafOk_iff.2 ⟨cs.length, j, rfl, rfl, h16, by omega⟩)]; rfl)
    clear hv hN
    rintro e w3 ⟨rfl, hb⟩
    replace HB := Lib.hid (HB.out.trans (hb.mono HB.out.size))
    replace HK := Lib.hid ((hb.block _ (lt_of_block HK.out)).trans HK.out)
    replace HO := Lib.hid (HO.out.next hb)
    clear hb
    go_wp2_with fail
    go_loopw [3, 4] (fun o i wr => ∃ j : Nat, i = .int .i64 j ∧ j ≤ N ∧ Own 3 .i64 (w.heap.size + 1) wr o ((List.range j).map (fun i => (lf (r, b) cs i).2)) ∧ wr.heap[w.heap.size]? = some (.cells #[.int .i64 r, .int .i64 b, .slice a cs.length cap] 27) ∧ Below w.heap.size w wr) (fun _ i _ => N - (intOf i).toNat)
    case atStart => exact ⟨0, rfl, Nat.zero_le _, HO.out, HK.out, HB.out⟩
    case round =>
      obtain ⟨j, rfl, hj, hO, hK, hB⟩ := hrel
      replace HO := Lib.hid hO
      replace HB := Lib.hid hB
      replace HK := Lib.hid hK
      have k0 := blk_cell HK.out 0
      have k1 := blk_cell HK.out 1
      have k2 := blk_cell HK.out 2
      rw [th0] at k0
      rw [th1] at k1
      rw [th2] at k2
      clear hO hB hK
      by_cases hlt : j < N
      · have e1 : decide ((j : Int) < (N : Int)) = true := by simp; omega
        have HJ := Lib.hid hlt
        go_wp2_with fail
        refine (spec_ept ((sliceT e0 tyCorrection).behind H.out (HB.out.mono hl)) (Nat.le_trans hl HB.out.size) HR.out HBi.out (natw (by omega))).mono ?_
        rw [HP.out j hlt]
        rintro e w6 ⟨rfl, hb⟩
        replace HB := Lib.hid (HB.out.trans (hb.mono HB.out.size))
        replace HO := Lib.hid (HO.out.next hb)
        replace HK := Lib.hid ((hb.block _ (lt_of_block HK.out)).trans HK.out)
        have HW := Lib.hid (lf_wf2 (st := (r, b)) HBi.out cs j)
        have HT := Lib.hid (range_snoc (f := fun i => (lf (r, b) cs i).2) j)
        obtain ⟨x, hx⟩ : ∃ x, x = (lf (r, b) cs j).2 := ⟨_, rfl⟩
        rw [← hx] at HW HT ⊢
        have O1 := Lib.hid (HO.out.alloc (.cells #[.int .i64 x] 3))
        have R1 := Lib.hid (Rd.one 3 .i64 w6 x HW.out)
        have HB1 := Lib.hid (HB.out.alloc HB.out.size (.cells #[.int .i64 x] 3))
        have HK1 := Lib.hid ((heap_alloc_old w6 (.cells #[.int .i64 x] 3) (lt_of_block HK.out)).trans HK.out)
        clear hb hx k0 k1 k2
        go_wp2_with (first | (at_builtin; refine append_rd _ rfl _ _ 31 rfl 3 i0 (.int .i64 0) 8 Try.underlying31 Hhi.out hz0 hz1 hz2 rfl (by omega) rfl O1.out rfl R1.out (by simp only [List.length_map, List.length_range, List.length_singleton]; omega) ?_))
        intro v7 w7 h7 hg7
        rw [← HT.out] at h7
        have H7 := Lib.hid h7
        have hk7 := (hg7.block w.heap.size (lt_of_block HK1.out) (fun e => by have := O1.out.lt _ e.symm; omega)).trans HK1.out
        have HK7 := Lib.hid hk7
        have HB7 := Lib.hid (HB1.out.trans (O1.out.below (Nat.le_succ _) hg7))
        clear h7 hg7 hk7
        go_wp2_with fail
        go_roundw
        case rel => exact ⟨j + 1, by simp, HJ.out, H7.out, HK7.out, HB7.out⟩
        case measure => simp [intOf]; have := HJ.out; omega
      · have e1 : decide ((j : Int) < (N : Int)) = false := by simp; omega
        have ej : j = N := by omega
        have HE2 : Hid (q = (List.range j).map (fun i => (lf (r, b) cs i).2)) := Lib.hid (by rw [HE.out, ej])
        clear ej
        go_wp2_with fail
        go_ret
        exact ⟨_, rfl, by rw [HE2.out]; exact HO.out.mono (Nat.le_succ _), HB.out⟩

theorem sav_no {d : Int} (h : inR d 1 6 = false) : sav d = 0 := by unfold sav; rw [h]; rfl

set_option maxHeartbeats 1000000 in
/-- impl.KeySavings -/
theorem impl_sav {w : World} {d : Int} (hd : (Lit.int .i64 d).wf = true) : Calls Try.prog 24 #[.int .i64 d] w fun e w' => e = .returned (.int .i64 (sav d)) ∧ w' = w := by
  have HD := Lib.hid hd
  clear hd
  by_cases h1 : 1 ≤ d ∧ d ≤ 6
  · have Hr : Hid (inR d 1 6 = true) := Lib.hid (inR_yes h1)
    obtain ⟨D, rfl⟩ : ∃ D : Nat, d = (D : Int) := ⟨d.toNat, by omega⟩
    have h6 : D ≤ 6 := by omega
    obtain ⟨N, hN⟩ : ∃ N, N = 2 ^ D := ⟨_, rfl⟩
    have HE : Hid (sav (D : Int) = (N : Int) - (2 + 3 * (D : Int))) := Lib.hid (by unfold sav; rw [if_pos Hr.out, Int.toNat_natCast, hN]; simp)
    have hp := (pow_le6 h6).2
    have hp' := (pow_le6 h6).1
    rw [← hN] at hp hp'
    have ep := pown hN
    clear h1 hN
    go_enter Try.func24, Try.ntmps24
    go_wp2_with fail
    refine (impl_in _ _ _ _ HD.out).mono ?_
    rw [Hr.out]
    rintro e w0 ⟨rfl, hw0⟩
    subst hw0
    go_wp2_with fail
    go_ret
    exact ⟨rint HE.out.symm, rfl⟩
  · have Hr : Hid (inR d 1 6 = false) := Lib.hid (inR_no h1)
    clear h1
    go_enter Try.func24, Try.ntmps24
    go_wp2_with fail
    refine (impl_in _ _ _ _ HD.out).mono ?_
    rw [Hr.out]
    rintro e w0 ⟨rfl, hw0⟩
    subst hw0
    go_wp2_with fail
    go_ret
    exact ⟨rint (sav_no Hr.out).symm, rfl⟩

set_option maxHeartbeats 1000000 in
/-- spec.KeySavings -/
theorem spec_sav {w : World} {d : Int} (hd : (Lit.int .i64 d).wf = true) : Calls Try.prog 48 #[.int .i64 d] w fun e w' => e = .returned (.int .i64 (sav d)) ∧ w' = w := by
  have HD := Lib.hid hd
  clear hd
  by_cases h1 : 1 ≤ d ∧ d ≤ 6
  · have Hr : Hid (inR d 1 6 = true) := Lib.hid (inR_yes h1)
    obtain ⟨D, rfl⟩ : ∃ D : Nat, d = (D : Int) := ⟨d.toNat, by omega⟩
    have h6 : D ≤ 6 := by omega
    obtain ⟨N, hN⟩ : ∃ N, N = 2 ^ D := ⟨_, rfl⟩
    have HE : Hid (sav (D : Int) = (N : Int) - (2 + 3 * (D : Int))) := Lib.hid (by unfold sav; rw [if_pos Hr.out, Int.toNat_natCast, hN]; simp)
    have hp := (pow_le6 h6).2
    have hp' := (pow_le6 h6).1
    rw [← hN] at hp hp'
    have ep := pown hN
    clear h1 hN
    go_enter Try.func48, Try.ntmps48
    go_wp2_with fail
    refine (spec_in _ _ _ _ HD.out).mono ?_
    rw [Hr.out]
    rintro e w0 ⟨rfl, hw0⟩
    subst hw0
    go_wp2_with fail
    go_ret
    exact ⟨rint HE.out.symm, rfl⟩
  · have Hr : Hid (inR d 1 6 = false) := Lib.hid (inR_no h1)
    clear h1
    go_enter Try.func48, Try.ntmps48
    go_wp2_with fail
    refine (spec_in _ _ _ _ HD.out).mono ?_
    rw [Hr.out]
    rintro e w0 ⟨rfl, hw0⟩
    subst hw0
    go_wp2_with fail
    go_ret
    exact ⟨rint (sav_no Hr.out).symm, rfl⟩

end Go.Proofs.Ytheefkhhafefoaa
