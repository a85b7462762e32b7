/- Trees of seeds: PunctureTree, the program's and the document's. No conditions but numbers that a machine holds. -/
import Derived.Test.YtihhnginnmfoiaaTre3
namespace Go.Proofs.Ytihhnginnmfoiaa
open Go Go.RowKit
set_option linter.unusedVariables false
attribute [local irreducible] kh

theorem i64_xor (a b : Nat) (ha : a < 9223372036854775808) (hb : b < 9223372036854775808) : bits .xor .i64 (a : Int) (b : Int) = ((a ^^^ b : Nat) : Int) := by
  have e64 : (2 : Nat) ^ 64 = 18446744073709551616 := by decide
  have e1 : (BitVec.ofInt 64 (a : Int)).toNat = a := by
    rw [BitVec.toNat_ofInt]
    have : ((a : Int) % ((2 ^ 64 : Nat) : Int)) = a := by rw [e64]; omega
    rw [this]; rfl
  have e2 : (BitVec.ofInt 64 (b : Int)).toNat = b := by
    rw [BitVec.toNat_ofInt]
    have : ((b : Int) % ((2 ^ 64 : Nat) : Int)) = b := by rw [e64]; omega
    rw [this]; rfl
  show IntKind.i64.wrap ((BitVec.ofInt 64 (a : Int) ^^^ BitVec.ofInt 64 (b : Int)).toNat : Nat) = _
  rw [BitVec.toNat_xor, e1, e2, IntKind.wrap_i64]
  have h : a ^^^ b < 2 ^ 63 := Nat.xor_lt_two_pow (by omega) (by omega)
  omega
theorem xor1_fin : ∀ x : Fin 64, (x.1 ^^^ 1) / 2 = x.1 / 2 ∧ (x.1 ^^^ 1) % 2 = 1 - x.1 % 2 ∧ x.1 ^^^ 1 ≤ 63 := by decide
theorem xor1 {x : Nat} (h : x ≤ 63) : (x ^^^ 1) / 2 = x / 2 ∧ (x ^^^ 1) % 2 = 1 - x % 2 ∧ x ^^^ 1 ≤ 63 := xor1_fin ⟨x, by omega⟩
/-- The index of the sibling. -/
theorem sib_index {I E : Nat} (hI : I ≤ 63) : bits .xor .i64 ((I : Int) / 2 ^ E) 1 = ((I / 2 ^ E ^^^ 1 : Nat) : Int) := by
  rw [show (I : Int) / 2 ^ E = ((I / 2 ^ E : Nat) : Int) by rw [Int.natCast_ediv]; simp]
  have h : I / 2 ^ E ≤ I := Nat.div_le_self _ _
  exact i64_xor (I / 2 ^ E) 1 (by omega) (by omega)
theorem dsc_sib' (r : Int) {D I j : Nat} (hj : j < D) (hI : I ≤ 63) : dsc r (j + 1) (I / 2 ^ (D - 1 - j) ^^^ 1) = sib r D I j := by
  have h : I / 2 ^ (D - 1 - j) ≤ I := Nat.div_le_self _ _
  have hx := xor1 (x := I / 2 ^ (D - 1 - j)) (by omega)
  refine dsc_sib r hj hx.1 ?_
  unfold bt
  rw [Nat.pow_zero, Nat.div_one, hx.2.1]
  omega
theorem pun_yes {r : Int} {D I : Nat} (h : leafOk (D : Int) (I : Int) = true) : pun r (D : Int) (I : Int) = (List.range D).map (sib r D I) := by
  unfold pun; rw [if_pos h, Int.toNat_natCast, Int.toNat_natCast]
theorem pun_no {r d i : Int} (h : leafOk d i = false) : pun r d i = [] := by
  unfold pun; rw [h]; rfl

set_option maxHeartbeats 1000000 in
/-- impl.PunctureTree. -/
theorem impl_pt {w : World} {r d i : Int} (hr : (Lit.int .i64 r).wf = true) (hd : (Lit.int .i64 d).wf = true) (hi : (Lit.int .i64 i).wf = true) :
    Calls Try.prog 14 #[.int .i64 r, .int .i64 d, .int .i64 i] w fun e w' => ∃ v', e = .returned v' ∧ Own 3 .i64 w.heap.size w' v' (pun r d i) ∧ Below w.heap.size w w' := by
  obtain ⟨i0, hh, hz0, hz1, hz2⟩ := info_parts infoi64
  have Hhi := Lib.hid hh
  have HR := Lib.hid hr
  have HD := Lib.hid hd
  have HI := Lib.hid hi
  clear hh hr hd hi
  by_cases h : leafOk d i = true
  · have HT := Lib.hid h
    obtain ⟨D, I, rfl, rfl, h1, h2⟩ := leafOk_iff.1 h
    have h3 := (pow_le6 h1).2
    have h4 : I ≤ 63 := by omega
    have HE : Hid (pun r (D : Int) (I : Int) = (List.range D).map (sib r D I)) := Lib.hid (pun_yes h)
    clear h h2 h3
    go_enter Try.func14, Try.ntmps14
    go_wp2_with fail
    refine (impl_leaf _ HD.out HI.out).mono ?_
    rw [HT.out]
    rintro e w0 ⟨rfl, hw0⟩
    subst hw0
    go_wp2_with (first | (at_make; refine wpList_make_full _ rfl _ _ 25 rfl w0.heap.size 3 i0 (.int .i64 0) 1 Try.underlying25 Hhi.out hz0 hz1 .i64 .i64 _ _ D rfl rfl rfl rfl (by rw [hz2]; omega) (by unfold maxLen; omega) (Nat.le_refl _) ?_))
    intro w1 hown hg
    have hO := own_made hown hg.size (by decide)
    rw [← upt_rep (sib r D I) D] at hO
    have HO := Lib.hid hO
    have HB := Lib.hid ((Below.refl w0.heap.size w0).grown hg (Nat.le_refl _) (fun k hk => by cases hk))
    clear hown hg hO
    go_wp2_with fail
    go_loopw [19] (fun x wr => ∃ j : Nat, x = .int .i64 j ∧ j ≤ D ∧ Own 3 .i64 w0.heap.size wr (.slice (some ⟨w0.heap.size, 0, none⟩) D D) (upt (sib r D I) (fun _ => 0) j D) ∧ Below w0.heap.size w0 wr) (fun x _ => D - (intOf x).toNat)
    case atStart => exact ⟨0, rfl, Nat.zero_le _, HO.out, HB.out⟩
    case round =>
      obtain ⟨j, rfl, hj, hO, hB⟩ := hrel
      replace HO := Lib.hid hO
      replace HB := Lib.hid hB
      clear hO hB
      by_cases hlt : j < D
      · have e1 : decide ((j : Int) < (D : Int)) = true := by simp; omega
        obtain ⟨l, hl⟩ : ∃ l : Nat, l = j + 1 := ⟨_, rfl⟩
        obtain ⟨E, hE⟩ : ∃ E : Nat, E = D - 1 - j := ⟨_, rfl⟩
        have HX : Hid (dsc r l (I / 2 ^ E ^^^ 1) = sib r D I j) := Lib.hid (by rw [hl, hE]; exact dsc_sib' r hlt h4)
        have HXb : Hid (I / 2 ^ E ^^^ 1 ≤ 63) := Lib.hid (xor1 (by have := Nat.div_le_self I (2 ^ E); omega)).2.2
        have HV := Lib.hid (sib_index (I := I) (E := E) h4)
        have e2 : (j : Int) + 1 = (l : Int) := by omega
        have e3 : (D : Int) - (l : Int) = (E : Int) := by omega
        have hl6 : l ≤ 6 := by omega
        have Hl : Hid (l = j + 1) := Lib.hid hl
        clear hl hE
        go_wp2_with fail
        rw [HV.out]
        refine (impl_desc l (I / 2 ^ E ^^^ 1) HR.out HXb.out hl6).mono ?_
        rw [HX.out]
        rintro e w2 ⟨rfl, hb⟩
        replace HB := Lib.hid (HB.out.trans (hb.mono HB.out.size))
        replace HO := Lib.hid (HO.out.next hb)
        have c2 := HO.out.cellAt (upt_length _ _ _ _) hlt
        have f2 := HO.out.free (upt_length _ _ _ _) j
        obtain ⟨p1, p2⟩ := HO.out.put (f := sib r D I) (j := j) (sib_wf _ _ _ _)
        have P1 := Lib.hid p1
        have P2 := Lib.hid p2
        clear hb p1 p2
        go_wp2_with fail
        go_roundw
        case rel => exact ⟨l, by simp, by have := Hl.out; omega, by rw [Hl.out]; exact P1.out, HB.out.grown P2.out HB.out.size (fun k hk => by injection hk with hk; omega)⟩
        case measure => have := Hl.out; simp [intOf]; omega
      · have e1 : decide ((j : Int) < (D : Int)) = false := by simp; omega
        have ej : j = D := by omega
        have HE2 : Hid (upt (sib r D I) (fun _ => 0) j D = pun r (D : Int) (I : Int)) := Lib.hid (by rw [HE.out, ej, upt_full])
        clear ej
        go_wp2
        go_ret
        exact ⟨_, rfl, by rw [← HE2.out]; exact HO.out, HB.out⟩
  · have hf : leafOk d i = false := by simpa using h
    have HT := Lib.hid hf
    have HE : Hid (pun r d i = []) := Lib.hid (pun_no hf)
    clear h hf
    go_enter Try.func14, Try.ntmps14
    go_wp2_with fail
    refine (impl_leaf _ HD.out HI.out).mono ?_
    rw [HT.out]
    rintro e w2 ⟨rfl, hw2⟩
    subst hw2
    go_wp2_with fail
    go_ret
    exact ⟨_, rfl, by rw [HE.out]; exact Own.lit _ _ (Nat.le_refl _), (Below.refl _ _).alloc (Nat.le_refl _) _⟩

set_option maxHeartbeats 1000000 in
/-- spec.PunctureTree. -/
theorem spec_pt {w : World} {r d i : Int} (hr : (Lit.int .i64 r).wf = true) (hd : (Lit.int .i64 d).wf = true) (hi : (Lit.int .i64 i).wf = true) :
    Calls Try.prog 32 #[.int .i64 r, .int .i64 d, .int .i64 i] w fun e w' => ∃ v', e = .returned v' ∧ Own 3 .i64 w.heap.size w' v' (pun r d i) ∧ Below w.heap.size w w' := by
  obtain ⟨i0, hh, hz0, hz1, hz2⟩ := info_parts infoi64
  have Hhi := Lib.hid hh
  have HR := Lib.hid hr
  have HD := Lib.hid hd
  have HI := Lib.hid hi
  have HO : Hid (Own 3 .i64 w.heap.size (w.alloc (.cells #[] 3)) (.slice (some ⟨w.heap.size, 0, none⟩) 0 0) []) := Lib.hid (Own.lit _ _ (Nat.le_refl _))
  have HB := Lib.hid ((Below.refl w.heap.size w).alloc (Nat.le_refl _) (.cells #[] 3))
  clear hh hr hd hi
  by_cases h : leafOk d i = true
  · have HT := Lib.hid h
    obtain ⟨D, I, rfl, rfl, h1, h2⟩ := leafOk_iff.1 h
    have h3 := (pow_le6 h1).2
    have h4 : I ≤ 63 := by omega
    have H2 : Hid (I / 2 ^ D = 0) := Lib.hid (Nat.div_eq_of_lt h2)
    have HE : Hid (pun r (D : Int) (I : Int) = (List.range D).map (sib r D I)) := Lib.hid (pun_yes h)
    clear h h2 h3
    go_enter Try.func32, Try.ntmps32
    go_wp2_with fail
    refine (spec_leaf _ HD.out HI.out).mono ?_
    rw [HT.out]
    rintro e w0 ⟨rfl, hw0⟩
    subst hw0
    go_wp2_with fail
    go_loopw [7, 8, 9] (fun o v x wr => ∃ (j b : Nat) (k : Int), x = .int .i64 k ∧ k + 1 = b ∧ b + j = D ∧ v = .int .i64 (dsc r j (I / 2 ^ (D - j))) ∧ Own 3 .i64 w.heap.size wr o ((List.range j).map (sib r D I)) ∧ Below w.heap.size w wr) (fun _ _ x _ => (intOf x + 1).toNat)
    case atStart => exact ⟨0, D, _, rfl, by omega, by omega, rfl, HO.out, HB.out⟩
    case round =>
      obtain ⟨j, b, k, rfl, hk, hj, rfl, hO, hB⟩ := hrel
      replace HO := Lib.hid hO
      replace HB := Lib.hid hB
      clear hO hB
      cases b with
      | zero =>
        obtain rfl : k = -1 := by omega
        obtain rfl : j = D := by omega
        have HE2 : Hid ((List.range j).map (sib r j I) = pun r (j : Int) (I : Int)) := Lib.hid HE.out.symm
        clear hk hj
        go_wp2_with fail
        go_ret
        exact ⟨_, rfl, by rw [← HE2.out]; exact HO.out, HB.out⟩
      | succ b =>
        obtain rfl : k = (b : Int) := by omega
        have e1 : decide ((0 : Int) ≤ (b : Int)) = true := by simp
        have hlt : j < D := by omega
        have hb6 : b ≤ 5 := by omega
        have eb : b = D - 1 - j := by omega
        have Hs := Lib.hid (show kid (dsc r j (I / 2 ^ (D - j))) (1 - bt I b) = sib r D I j by rw [eb]; rfl)
        have Hp := Lib.hid (show kid (dsc r j (I / 2 ^ (D - j))) (bt I b) = dsc r (j + 1) (I / 2 ^ (D - (j + 1))) by rw [eb]; exact dsc_path r hlt)
        have Hu := Lib.hid (dsc_wf HR.out j (I / 2 ^ (D - j)))
        have Hu2 := Lib.hid (dsc_wf HR.out (j + 1) (I / 2 ^ (D - (j + 1))))
        have hv : bits .and .i64 ((I : Int) / 2 ^ b) 1 = bt I b := by rw [i64_and1, bt_of_mod]; simp
        obtain ⟨t0, t1⟩ := bt_bound I b
        obtain ⟨t, ht⟩ : ∃ t, t = bt I b := ⟨_, rfl⟩
        rw [← ht] at Hs Hp hv t0 t1
        obtain ⟨u, hu⟩ : ∃ u, u = dsc r j (I / 2 ^ (D - j)) := ⟨_, rfl⟩
        rw [← hu] at Hs Hp Hu ⊢
        have Hj : Hid (b + (j + 1) = D) := Lib.hid (by omega)
        clear hk hj eb ht hu
        go_wp2_with fail
        refine (spec_cs Hu.out (wf_i64_of (by omega) (by omega))).mono ?_
        rw [Hs.out]
        rintro e w2 ⟨rfl, hb⟩
        replace HB := Lib.hid (HB.out.trans (hb.mono HB.out.size))
        replace HO := Lib.hid (HO.out.next hb)
        have HW := Lib.hid (sib_wf r D I j)
        have O1 := Lib.hid (HO.out.alloc (.cells #[.int .i64 (sib r D I j)] 3))
        have B1 := Lib.hid (HB.out.alloc HO.out.2.1 (.cells #[.int .i64 (sib r D I j)] 3))
        have R1 := Lib.hid (Rd.one 3 .i64 w2 (sib r D I j) HW.out)
        have HTn := Lib.hid (range_snoc (f := sib r D I) j)
        have HLn := Lib.hid (map_len (f := sib r D I) j)
        clear hb
        go_wp2_with (first | (at_builtin; refine append_rd _ rfl _ _ 25 rfl 3 i0 (.int .i64 0) 8 Try.underlying25 Hhi.out hz0 hz1 hz2 rfl (by omega) rfl O1.out rfl R1.out (by have := HLn.out; simp only [List.length_singleton]; omega) ?_))
        intro v5 w5 h5 h6'
        rw [← HTn.out] at h5
        have H5 := Lib.hid h5
        have B5 := Lib.hid (B1.out.trans (O1.out.below (by first | exact HB.out.size | exact Nat.le_refl _ | omega) h6'))
        clear h5 h6'
        go_wp2_with fail
        refine (spec_cs Hu.out (wf_i64_of (by omega) (by omega))).mono ?_
        rw [Hp.out]
        rintro e w6 ⟨rfl, hb⟩
        have B6 := Lib.hid (B5.out.trans (hb.mono B5.out.size))
        have H6 := Lib.hid (H5.out.next hb)
        clear hb
        go_wp2_with fail
        go_roundw
        case rel => exact ⟨j + 1, b, (b : Int) - 1, by simp, by omega, Hj.out, rfl, H6.out, B6.out⟩
        case measure => simp [intOf]
  · have hf : leafOk d i = false := by simpa using h
    have HT := Lib.hid hf
    have HE : Hid (pun r d i = []) := Lib.hid (pun_no hf)
    clear h hf
    go_enter Try.func32, Try.ntmps32
    go_wp2_with fail
    refine (spec_leaf _ HD.out HI.out).mono ?_
    rw [HT.out]
    rintro e w2 ⟨rfl, hw2⟩
    subst hw2
    go_wp2_with fail
    go_ret
    exact ⟨_, rfl, by rw [HE.out]; exact HO.out, HB.out⟩

end Go.Proofs.Ytihhnginnmfoiaa
