/- Trees of seeds: LeafSeeds and StreamBytes, the program's and the document's. No conditions but numbers that a machine holds. -/
import Derived.Test.YtihhnginnmfoiaaTre2
namespace Go.Proofs.Ytihhnginnmfoiaa
open Go Go.RowKit
set_option linter.unusedVariables false
attribute [local irreducible] kh

theorem pow_nat {D N : Nat} (h : N = 2 ^ D) : (2 : Int) ^ D = (N : Int) := by rw [h]; simp
theorem lseeds_yes {r : Int} {D : Nat} (h : inR (D : Int) 0 6 = true) : lseeds r (D : Int) = (List.range (2 ^ D)).map (dsc r D) := by
  unfold lseeds; rw [if_pos h, Int.toNat_natCast]
theorem lseeds_no {r d : Int} (h : inR d 0 6 = false) : lseeds r d = [] := by
  unfold lseeds; rw [h]; rfl
theorem lseed_yes {r : Int} {D I : Nat} (h : leafOk (D : Int) (I : Int) = true) : lseed r (D : Int) (I : Int) = dsc r D I := by
  unfold lseed; rw [if_pos h, Int.toNat_natCast, Int.toNat_natCast]
theorem map_len {f : Nat → Int} (n : Nat) : ((List.range n).map f).length = n := by simp

set_option maxHeartbeats 1000000 in
/-- impl.LeafSeeds. -/
theorem impl_lss {w : World} {r d : Int} (hr : (Lit.int .i64 r).wf = true) (hd : (Lit.int .i64 d).wf = true) :
    Calls Try.prog 13 #[.int .i64 r, .int .i64 d] w fun e w' => ∃ v', e = .returned v' ∧ Own 3 .i64 w.heap.size w' v' (lseeds r d) ∧ Below w.heap.size w w' := by
  obtain ⟨i0, hi, hz0, hz1, hz2⟩ := info_parts infoi64
  have Hhi := Lib.hid hi
  have HR := Lib.hid hr
  have HD := Lib.hid hd
  clear hi hr hd
  by_cases h1 : 0 ≤ d ∧ d ≤ 6
  · have Hr : Hid (inR d 0 6 = true) := Lib.hid (inR_yes h1)
    obtain ⟨D, rfl⟩ : ∃ D : Nat, d = (D : Int) := ⟨d.toNat, by omega⟩
    have h6 : D ≤ 6 := by omega
    obtain ⟨N, hN⟩ : ∃ N, N = 2 ^ D := ⟨_, rfl⟩
    have HE : Hid (lseeds r (D : Int) = (List.range N).map (dsc r D)) := Lib.hid (by rw [lseeds_yes Hr.out, hN])
    have hp := (pow_le6 h6).2
    have hp' := (pow_le6 h6).1
    rw [← hN] at hp hp'
    have ep := pow_nat hN
    clear h1 hN
    go_enter Try.func13, Try.ntmps13
    go_wp2_with fail
    refine (impl_in _ _ _ _ HD.out).mono ?_
    rw [Hr.out]
    rintro e w0 ⟨rfl, hw0⟩
    subst hw0
    go_wp2_with (first | (at_make; refine wpList_make_full _ rfl _ _ 25 rfl w0.heap.size 3 i0 (.int .i64 0) 1 Try.underlying25 Hhi.out hz0 hz1 .i64 .i64 _ _ N rfl rfl rfl rfl (by rw [hz2]; omega) (by unfold maxLen; omega) (Nat.le_refl _) ?_))
    intro w1 hown hg
    have hO := own_made hown hg.size (by decide)
    rw [← upt_rep (dsc r D) N] at hO
    have HO := Lib.hid hO
    have HB := Lib.hid ((Below.refl w0.heap.size w0).grown hg (Nat.le_refl _) (fun k hk => by cases hk))
    clear hown hg hO
    go_wp2_with fail
    go_loopw [16] (fun i wr => ∃ j : Nat, i = .int .i64 j ∧ j ≤ N ∧ Own 3 .i64 w0.heap.size wr (.slice (some ⟨w0.heap.size, 0, none⟩) N N) (upt (dsc r D) (fun _ => 0) j N) ∧ Below w0.heap.size w0 wr) (fun i _ => N - (intOf i).toNat)
    case atStart => exact ⟨0, rfl, Nat.zero_le _, HO.out, HB.out⟩
    case round =>
      obtain ⟨j, rfl, hj, hO, hB⟩ := hrel
      replace HO := Lib.hid hO
      replace HB := Lib.hid hB
      clear hO hB
      by_cases hlt : j < N
      · have e1 : decide ((j : Int) < (N : Int)) = true := by simp; omega
        go_wp2_with fail
        refine (impl_desc D j HR.out (by omega) h6).mono ?_
        rintro e w2 ⟨rfl, hb⟩
        replace HB := Lib.hid (HB.out.trans (hb.mono HB.out.size))
        replace HO := Lib.hid (HO.out.next hb)
        have c2 := HO.out.cellAt (upt_length _ _ _ _) hlt
        have f2 := HO.out.free (upt_length _ _ _ _) j
        obtain ⟨p1, p2⟩ := HO.out.put (f := dsc r D) (j := j) (dsc_wf HR.out _ _)
        have P1 := Lib.hid p1
        have P2 := Lib.hid p2
        clear hb p1 p2
        go_wp2_with fail
        go_roundw
        case rel => exact ⟨j + 1, by simp, hlt, P1.out, HB.out.grown P2.out HB.out.size (fun k hk => by injection hk with hk; omega)⟩
        case measure => simp [intOf]; omega
      · have e1 : decide ((j : Int) < (N : Int)) = false := by simp; omega
        have ej : j = N := by omega
        have HE2 : Hid (upt (dsc r D) (fun _ => 0) j N = lseeds r (D : Int)) := Lib.hid (by rw [HE.out, ej, upt_full])
        clear ej
        go_wp2
        go_ret
        exact ⟨_, rfl, by rw [← HE2.out]; exact HO.out, HB.out⟩
  · have Hr : Hid (inR d 0 6 = false) := Lib.hid (inR_no h1)
    have HE : Hid (lseeds r d = []) := Lib.hid (lseeds_no Hr.out)
    clear h1
    go_enter Try.func13, Try.ntmps13
    go_wp2_with fail
    refine (impl_in _ _ _ _ HD.out).mono ?_
    rw [Hr.out]
    rintro e w2 ⟨rfl, hw2⟩
    subst hw2
    go_wp2_with fail
    go_ret
    exact ⟨_, rfl, by rw [HE.out]; exact Own.lit _ _ (Nat.le_refl _), (Below.refl _ _).alloc (Nat.le_refl _) _⟩

set_option maxHeartbeats 1000000 in
/-- spec.LeafSeeds. -/
theorem spec_lss {w : World} {r d : Int} (hr : (Lit.int .i64 r).wf = true) (hd : (Lit.int .i64 d).wf = true) :
    Calls Try.prog 24 #[.int .i64 r, .int .i64 d] w fun e w' => ∃ v', e = .returned v' ∧ Own 3 .i64 w.heap.size w' v' (lseeds r d) ∧ Below w.heap.size w w' := by
  obtain ⟨i0, hi, hz0, hz1, hz2⟩ := info_parts infoi64
  have Hhi := Lib.hid hi
  have HR := Lib.hid hr
  have HD := Lib.hid hd
  have HO : Hid (Own 3 .i64 w.heap.size (w.alloc (.cells #[] 3)) (.slice (some ⟨w.heap.size, 0, none⟩) 0 0) []) := Lib.hid (Own.lit _ _ (Nat.le_refl _))
  have HB := Lib.hid ((Below.refl w.heap.size w).alloc (Nat.le_refl _) (.cells #[] 3))
  clear hi hr hd
  by_cases h1 : 0 ≤ d ∧ d ≤ 6
  · have Hr : Hid (inR d 0 6 = true) := Lib.hid (inR_yes h1)
    obtain ⟨D, rfl⟩ : ∃ D : Nat, d = (D : Int) := ⟨d.toNat, by omega⟩
    have h6 : D ≤ 6 := by omega
    obtain ⟨N, hN⟩ : ∃ N, N = 2 ^ D := ⟨_, rfl⟩
    have HE : Hid (lseeds r (D : Int) = (List.range N).map (dsc r D)) := Lib.hid (by rw [lseeds_yes Hr.out, hN])
    have HL : Hid (∀ j : Nat, j < N → lseed r (D : Int) (j : Int) = dsc r D j) := Lib.hid (fun j hj => lseed_yes (leafOk_iff.2 ⟨D, j, rfl, rfl, h6, by omega⟩))
    have hp := (pow_le6 h6).2
    have hp' := (pow_le6 h6).1
    rw [← hN] at hp hp'
    have ep := pow_nat hN
    clear h1 hN
    go_enter Try.func24, Try.ntmps24
    go_wp2_with fail
    refine (spec_in _ _ _ _ HD.out).mono ?_
    rw [Hr.out]
    rintro e w0 ⟨rfl, hw0⟩
    subst hw0
    go_wp2_with fail
    go_loopw [5, 6] (fun o i wr => ∃ j : Nat, i = .int .i64 j ∧ j ≤ N ∧ Own 3 .i64 w.heap.size wr o ((List.range j).map (dsc r D)) ∧ Below w.heap.size w wr) (fun _ i _ => N - (intOf i).toNat)
    case atStart => exact ⟨0, rfl, Nat.zero_le _, HO.out, HB.out⟩
    case round =>
      obtain ⟨j, rfl, hj, hO, hB⟩ := hrel
      replace HO := Lib.hid hO
      replace HB := Lib.hid hB
      clear hO hB
      by_cases hlt : j < N
      · have e1 : decide ((j : Int) < (N : Int)) = true := by simp; omega
        go_wp2_with fail
        refine (spec_ls HR.out HD.out (nat_wf (by omega))).mono ?_
        rw [HL.out j hlt]
        rintro e w2 ⟨rfl, hb⟩
        replace HB := Lib.hid (HB.out.trans (hb.mono HB.out.size))
        replace HO := Lib.hid (HO.out.next hb)
        have HW := Lib.hid (dsc_wf HR.out D j)
        have O1 := Lib.hid (HO.out.alloc (.cells #[.int .i64 (dsc r D j)] 3))
        have B1 := Lib.hid (HB.out.alloc HO.out.2.1 (.cells #[.int .i64 (dsc r D j)] 3))
        have R1 := Lib.hid (Rd.one 3 .i64 w2 (dsc r D j) HW.out)
        have HT := Lib.hid (range_snoc (f := dsc r D) j)
        have HLn := Lib.hid (map_len (f := dsc r D) j)
        clear hb
        go_wp2_with (first | (at_builtin; refine append_rd _ rfl _ _ 25 rfl 3 i0 (.int .i64 0) 8 Try.underlying25 Hhi.out hz0 hz1 hz2 rfl (by omega) rfl O1.out rfl R1.out (by have := HLn.out; simp only [List.length_singleton]; omega) ?_))
        intro v5 w5 h5 h6'
        rw [← HT.out] at h5
        have H5 := Lib.hid h5
        have B5 := Lib.hid (B1.out.trans (O1.out.below (by first | exact HB.out.size | exact Nat.le_refl _ | omega) h6'))
        clear h5 h6'
        go_wp2_with fail
        go_roundw
        case rel => exact ⟨j + 1, by simp, hlt, H5.out, B5.out⟩
        case measure => simp [intOf]; omega
      · have e1 : decide ((j : Int) < (N : Int)) = false := by simp; omega
        have ej : j = N := by omega
        have HE2 : Hid ((List.range j).map (dsc r D) = lseeds r (D : Int)) := Lib.hid (by rw [HE.out, ej])
        clear ej
        go_wp2
        go_ret
        exact ⟨_, rfl, by rw [← HE2.out]; exact HO.out, HB.out⟩
  · have Hr : Hid (inR d 0 6 = false) := Lib.hid (inR_no h1)
    have HE : Hid (lseeds r d = []) := Lib.hid (lseeds_no Hr.out)
    clear h1
    go_enter Try.func24, Try.ntmps24
    go_wp2_with fail
    refine (spec_in _ _ _ _ HD.out).mono ?_
    rw [Hr.out]
    rintro e w2 ⟨rfl, hw2⟩
    subst hw2
    go_wp2_with fail
    go_ret
    exact ⟨_, rfl, by rw [HE.out]; exact HO.out, HB.out⟩

end Go.Proofs.Ytihhnginnmfoiaa
