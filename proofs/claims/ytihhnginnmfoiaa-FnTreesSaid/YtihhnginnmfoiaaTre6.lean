/- Trees of seeds: PuncturedLeaf, the program's and the document's. No conditions but numbers that a machine holds. -/
import Derived.Test.YtihhnginnmfoiaaTre3
import Derived.WalkMore
import Derived.RegionTactic
import Derived.Deep.RegionWith
import Derived.Deep.QuietTactic
import Derived.BigQuiet
namespace Go.Proofs.Ytihhnginnmfoiaa
open Go Go.RowKit
set_option linter.unusedVariables false
attribute [local irreducible] kh

theorem pok_iff {zs : List Int} {i o : Int} : pok zs i o = true ↔ leafOk zs.length i = true ∧ leafOk zs.length o = true ∧ i ≠ o := by
  unfold pok; simp
theorem pl_step {zs : List Int} {j I O b : Nat} {z : Int} (hj : j < zs.length) (hz : z = zs.getD j 0) (hb : b = zs.length - 1 - j) :
    pl (zs.drop j) I O = if bt I b = bt O b then pl (zs.drop (j + 1)) I O else dsc z b O := by
  rw [drop_getD hj, pl, List.length_drop, ← hz, show zs.length - (j + 1) = b by omega]

set_option maxHeartbeats 2000000 in
/-- impl.PuncturedLeaf. -/
theorem impl_pl {lim : Nat} {w : World} {v : Value} {zs : List Int} {i o : Int} (h : Rd lim .i64 w v zs) (hlim : lim ≤ w.heap.size) (hi : (Lit.int .i64 i).wf = true) (ho : (Lit.int .i64 o).wf = true) :
    Calls Try.prog 15 #[v, .int .i64 i, .int .i64 o] w fun e w' => e = .returned (.tuple #[.int .i64 (pleaf zs i o), .bool (pok zs i o)]) ∧ Below w.heap.size w w' := by
  obtain ⟨a, cap, rfl, hl1, hl2, hc⟩ := h.open
  have Hc := Lib.hid hc
  have HW := Lib.hid (fun k (hk : k < zs.length) => h.wf hk)
  have HI := Lib.hid hi
  have HO := Lib.hid ho
  have hl := h.len
  unfold maxLen at hl hl2
  have HL : Hid ((Lit.int .i64 (zs.length : Int)).wf = true) := Lib.hid (wf_i64_of (by omega) (by omega))
  clear h hc hi ho
  by_cases h1 : leafOk zs.length i = true
  · have H1 := Lib.hid h1
    obtain ⟨D, I, hD, rfl, hD6, hI⟩ := leafOk_iff.1 h1
    by_cases h2 : leafOk zs.length o = true
    · have H2 := Lib.hid h2
      obtain ⟨D', O, hD', rfl, _, hO⟩ := leafOk_iff.1 h2
      obtain rfl : D = zs.length := by omega
      obtain rfl : D' = zs.length := by omega
      by_cases h3 : I = O
      · have e3 : ((I : Int) == (O : Int)) = true := by simp [h3]
        have hp : pok zs I O = false := by rw [Bool.eq_false_iff]; intro h; exact (pok_iff.1 h).2.2 (by rw [h3])
        have HP := Lib.hid hp
        have HE : Hid (pleaf zs I O = 0) := Lib.hid (by unfold pleaf; rw [hp]; rfl)
        clear h1 h2 h3 hp hI hO hD hD'
        go_enter Try.func15, Try.ntmps15
        go_wp2
        go_step3
        go_wp2_with fail
        refine (impl_leaf _ HL.out HI.out).mono ?_
        rw [H1.out]
        rintro e w1 ⟨rfl, hw⟩
        subst hw
        go_wp2_with fail
        refine (impl_leaf _ HL.out HO.out).mono ?_
        rw [H2.out]
        rintro e w2 ⟨rfl, hw⟩
        subst hw
        go_wp2_with fail
        try rw [Exit.noGoto_ret]
        go_ret2
        exact ⟨by rw [HP.out, HE.out]; rfl, Below.refl _ _⟩
      · have e3 : ((I : Int) == (O : Int)) = false := by simp; omega
        have hp : pok zs I O = true := pok_iff.2 ⟨h1, h2, by omega⟩
        have HP := Lib.hid hp
        have he : pleaf zs I O = pl zs I O := by unfold pleaf; rw [if_pos hp, Int.toNat_natCast, Int.toNat_natCast]
        obtain ⟨q, hq⟩ : ∃ q, q = pleaf zs I O := ⟨_, rfl⟩
        rw [← hq] at he ⊢
        have HE := Lib.hid he
        have hx := (pow_le6 hD6).2
        have hI6 : I ≤ 63 := by omega
        have hO6 : O ≤ 63 := by omega
        have HM := Lib.hid (mod_self_ne hI hO h3)
        clear h1 h2 h3 hp hI hO hD hD' hx he hq
        go_enter Try.func15, Try.ntmps15
        go_wp2
        go_step3
        go_wp2_with fail
        refine (impl_leaf _ HL.out HI.out).mono ?_
        rw [H1.out]
        rintro e w1 ⟨rfl, hw⟩
        subst hw
        go_wp2_with fail
        refine (impl_leaf _ HL.out HO.out).mono ?_
        rw [H2.out]
        rintro e w2 ⟨rfl, hw⟩
        subst hw
        go_wp2_with fail
        go_step3
        go_wp2_with fail
        go_loopw [9, 10, 33] (fun s x k wr => ∃ j b : Nat, s = .int .i64 0 ∧ x = .int .i64 b ∧ k = .int .i64 j ∧ b + j = zs.length ∧ pl (zs.drop j) I O = q ∧ I % 2 ^ b ≠ O % 2 ^ b ∧ wr = w2) (fun _ _ k _ => zs.length - (intOf k).toNat)
        case atStart => exact ⟨0, zs.length, rfl, rfl, rfl, by omega, HE.out.symm, HM.out, rfl⟩
        case round =>
          obtain ⟨j, b, rfl, rfl, rfl, hj, hd, hm, rfl⟩ := hrel
          cases b with
          | zero => exact absurd (by simp [Nat.mod_one]) hm
          | succ b =>
            have hlt : j < zs.length := by omega
            have e1 : decide ((j : Int) < (zs.length : Int)) = true := by simp; omega
            have e2 : ((b + 1 : Nat) : Int) - 1 = (b : Int) := by omega
            have hb6 : b ≤ 6 := by omega
            obtain ⟨g, p, rfl, hbl, hcell⟩ := Hc.out (by omega)
            have c1 := hcell _ (Below.refl _ _) j hlt
            have HZ := Lib.hid (HW.out j hlt)
            obtain ⟨z, hz⟩ : ∃ z, z = zs.getD j 0 := ⟨_, rfl⟩
            rw [pl_step hlt hz (b := b) (by omega)] at hd
            rw [← hz] at c1 HZ
            have Hj := Lib.hid hj
            have HM2 := Lib.hid hm
            by_cases hbt : bt I b = bt O b
            · rw [if_pos hbt] at hd
              have HDr := Lib.hid hd
              have HMs := Lib.hid (part_step hm hbt)
              have e3 : (bt O b == bt I b) = true := by simp [hbt]
              have HBt := Lib.hid hbt
              clear hcell hz hd hm hbt hj
              go_wp2_with fail
              refine (impl_side _ O b hO6 hb6).mono ?_
              rintro e w3 ⟨rfl, hw⟩
              subst hw
              go_wp2_with fail
              refine (impl_side _ I b hI6 hb6).mono ?_
              rintro e w4 ⟨rfl, hw⟩
              subst hw
              go_wp2_with fail
              go_roundw
              case rel => exact ⟨j + 1, b, rfl, rfl, by simp, by have := Hj.out; omega, HDr.out, HMs.out, by first | rfl | trivial⟩
              case measure => simp [intOf]; omega
            · rw [if_neg hbt] at hd
              have HDr := Lib.hid hd
              have e3 : (bt O b == bt I b) = false := beq_eq_false_iff_ne.2 (fun h => hbt h.symm)
              clear hcell hz hd hm hbt hj
              go_wp2_with fail
              refine (impl_side _ O b hO6 hb6).mono ?_
              rintro e w3 ⟨rfl, hw⟩
              subst hw
              go_wp2_with fail
              refine (impl_side _ I b hI6 hb6).mono ?_
              rintro e w4 ⟨rfl, hw⟩
              subst hw
              go_wp2_with fail
              refine (impl_desc b O HZ.out hO6 hb6).mono ?_
              rw [HDr.out]
              rintro e w5 ⟨rfl, hb⟩
              have HB := Lib.hid hb
              clear hb
              go_wp2_with fail
              try rw [Exit.noGoto_ret]
              go_ret2
              exact ⟨by rw [HP.out]; rfl, HB.out⟩
    · have h2' : leafOk zs.length o = false := by simpa using h2
      have H2 := Lib.hid h2'
      have hp : pok zs I o = false := by rw [Bool.eq_false_iff]; intro h; exact h2 (pok_iff.1 h).2.1
      have HP := Lib.hid hp
      have HE : Hid (pleaf zs I o = 0) := Lib.hid (by unfold pleaf; rw [hp]; rfl)
      clear h1 h2 h2' hp hI hD
      go_enter Try.func15, Try.ntmps15
      go_wp2
      go_step3
      go_wp2_with fail
      refine (impl_leaf _ HL.out HI.out).mono ?_
      rw [H1.out]
      rintro e w1 ⟨rfl, hw⟩
      subst hw
      go_wp2_with fail
      refine (impl_leaf _ HL.out HO.out).mono ?_
      rw [H2.out]
      rintro e w2 ⟨rfl, hw⟩
      subst hw
      go_wp2_with fail
      try rw [Exit.noGoto_ret]
      go_ret2
      exact ⟨by rw [HP.out, HE.out]; rfl, Below.refl _ _⟩
  · have h1' : leafOk zs.length i = false := by simpa using h1
    have H1 := Lib.hid h1'
    have hp : pok zs i o = false := by rw [Bool.eq_false_iff]; intro h; exact h1 (pok_iff.1 h).1
    have HP := Lib.hid hp
    have HE : Hid (pleaf zs i o = 0) := Lib.hid (by unfold pleaf; rw [hp]; rfl)
    clear h1 h1' hp
    go_enter Try.func15, Try.ntmps15
    go_wp2
    go_step3
    go_wp2_with fail
    refine (impl_leaf _ HL.out HI.out).mono ?_
    rw [H1.out]
    rintro e w1 ⟨rfl, hw⟩
    subst hw
    go_wp2_with fail
    try rw [Exit.noGoto_ret]
    go_ret2
    exact ⟨by rw [HP.out, HE.out]; rfl, Below.refl _ _⟩

end Go.Proofs.Ytihhnginnmfoiaa
