/- Trees of seeds: PuncturedLeaf of the document. No conditions but numbers that a machine holds. -/
import Derived.Test.YtihhnginnmfoiaaTre6
import Derived.Deep.RegionHeld3
namespace Go.Proofs.Ytihhnginnmfoiaa
open Go Go.RowKit
set_option linter.unusedVariables false
attribute [local irreducible] kh

theorem i64_low {O b : Nat} (hb : b ≤ 6) : bits .and .i64 (O : Int) (2 ^ b - 1) = ((O % 2 ^ b : Nat) : Int) := by
  have e : (2 : Int) ^ b - 1 = ((2 ^ b - 1 : Nat) : Int) := by
    have := Nat.one_le_two_pow (n := b)
    rw [show (2 : Int) ^ b = ((2 ^ b : Nat) : Int) by simp]
    omega
  rw [e, i64_mask b _ (by omega) (by
    have h6 : b = 0 ∨ b = 1 ∨ b = 2 ∨ b = 3 ∨ b = 4 ∨ b = 5 ∨ b = 6 := by omega
    rcases h6 with rfl | rfl | rfl | rfl | rfl | rfl | rfl <;> decide)]
  simp
theorem bel_dn {B : Nat} {a w : World} (h : Below B a w) (n : Nat) : Below B a (w.drewN n) := h.trans ⟨rfl, rfl, rfl, Nat.le_refl _, fun _ _ => rfl⟩
theorem lseed_low {z : Int} {b O : Nat} (hb : b ≤ 6) : lseed z (b : Int) ((O % 2 ^ b : Nat) : Int) = dsc z b O := by
  rw [lseed_yes (leafOk_iff.2 ⟨b, _, rfl, rfl, hb, Nat.mod_lt _ (Nat.two_pow_pos b)⟩), dsc_mod]

set_option maxHeartbeats 2000000 in
/-- spec.PuncturedLeaf. -/
theorem spec_pl {lim : Nat} {w : World} {v : Value} {zs : List Int} {i o : Int} (h : Rd lim .i64 w v zs) (hlim : lim ≤ w.heap.size) (hi : (Lit.int .i64 i).wf = true) (ho : (Lit.int .i64 o).wf = true) :
    Calls Try.prog 33 #[v, .int .i64 i, .int .i64 o] w fun e w' => e = .returned (.tuple #[.int .i64 (pleaf zs i o), .bool (pok zs i o)]) ∧ Below w.heap.size w w' := by
  obtain ⟨a, cap, rfl, hl1, hl2, hc⟩ := h.open
  have Hc := Lib.hid hc
  have HW := Lib.hid (fun k (hk : k < zs.length) => h.wf hk)
  have HI := Lib.hid hi
  have HO := Lib.hid ho
  have hl := h.len
  have HLim := Lib.hid hlim
  unfold maxLen at hl hl2
  have HL : Hid ((Lit.int .i64 (zs.length : Int)).wf = true) := Lib.hid (wf_i64_of (by omega) (by omega))
  clear h hc hi ho hlim
  by_cases h1 : leafOk zs.length i = true
  · have H1 := Lib.hid h1
    obtain ⟨D, I, hD, rfl, hD6, hI⟩ := leafOk_iff.1 h1
    by_cases h2 : leafOk zs.length o = true
    · have H2 := Lib.hid h2
      obtain ⟨D', O, hD', rfl, _, hO⟩ := leafOk_iff.1 h2
      obtain rfl : D = zs.length := by omega
      obtain rfl : D' = zs.length := by omega
      by_cases h3 : I = O
      · have e3 : ((I : Int) == (O : Int)) = true := by simp [h3]
        have hp : pok zs I O = false := by rw [Bool.eq_false_iff]; intro h; exact (pok_iff.1 h).2.2 (by rw [h3])
        have HP := Lib.hid hp
        have HE : Hid (pleaf zs I O = 0) := Lib.hid (by unfold pleaf; rw [hp]; rfl)
        clear h1 h2 h3 hp hI hO hD hD'
        go_enter Try.func33, Try.ntmps33
        go_wp2_with fail
        refine (spec_leaf _ HL.out HI.out).mono ?_
        rw [H1.out]
        rintro e w1 ⟨rfl, hw⟩
        subst hw
        go_wp2_with fail
        refine (spec_leaf _ HL.out HO.out).mono ?_
        rw [H2.out]
        rintro e w2 ⟨rfl, hw⟩
        subst hw
        go_wp2_with fail
        go_ret2
        exact ⟨by rw [HP.out, HE.out]; rfl, Below.refl _ _⟩
      · have e3 : ((I : Int) == (O : Int)) = false := by simp; omega
        have hp : pok zs I O = true := pok_iff.2 ⟨h1, h2, by omega⟩
        have HP := Lib.hid hp
        have he : pleaf zs I O = pl zs I O := by unfold pleaf; rw [if_pos hp, Int.toNat_natCast, Int.toNat_natCast]
        obtain ⟨q, hq⟩ : ∃ q, q = pleaf zs I O := ⟨_, rfl⟩
        rw [← hq] at he ⊢
        have HE := Lib.hid he
        have hx := (pow_le6 hD6).2
        have hI6 : I ≤ 63 := by omega
        have hO6 : O ≤ 63 := by omega
        have HM := Lib.hid (mod_self_ne hI hO h3)
        clear h1 h2 h3 hp hI hO hD hD' hx he hq
        go_enter Try.func33, Try.ntmps33
        go_wp2_with fail
        refine (spec_leaf _ HL.out HI.out).mono ?_
        rw [H1.out]
        rintro e w1 ⟨rfl, hw⟩
        subst hw
        go_wp2_with fail
        refine (spec_leaf _ HL.out HO.out).mono ?_
        rw [H2.out]
        rintro e w2 ⟨rfl, hw⟩
        subst hw
        go_wp2_with fail
        go_loopw [9] (fun x wr => ∃ (j b : Nat) (k : Int), x = .int .i64 k ∧ k + 1 = b ∧ b + j = zs.length ∧ pl (zs.drop j) I O = q ∧ I % 2 ^ b ≠ O % 2 ^ b ∧ Below w2.heap.size w2 wr) (fun k _ => (intOf k + 1).toNat)
        case atStart => exact ⟨0, zs.length, _, rfl, by omega, rfl, HE.out.symm, HM.out, Below.refl _ _⟩
        case round =>
          obtain ⟨j, b, k, rfl, hk, hj, hd, hm, hB⟩ := hrel
          have HB := Lib.hid hB
          clear hB
          cases b with
          | zero => exact absurd (by simp [Nat.mod_one]) hm
          | succ b =>
            obtain rfl : k = (b : Int) := by omega
            have hlt : j < zs.length := by omega
            have e1 : decide ((0 : Int) ≤ (b : Int)) = true := by simp
            have hb6 : b ≤ 6 := by omega
            have hv1 : bits .and .i64 ((I : Int) / 2 ^ b) 1 = bt I b := by rw [i64_and1, bt_of_mod]; simp
            have hv2 : bits .and .i64 ((O : Int) / 2 ^ b) 1 = bt O b := by rw [i64_and1, bt_of_mod]; simp
            obtain ⟨g, p, rfl, hbl, hcell⟩ := Hc.out (by omega)
            have c1 := hcell wr (HB.out.mono HLim.out) j hlt
            have HZ := Lib.hid (HW.out j hlt)
            obtain ⟨z, hz⟩ : ∃ z, z = zs.getD j 0 := ⟨_, rfl⟩
            rw [pl_step hlt hz (b := b) (by omega)] at hd
            rw [← hz] at c1 HZ
            have Hj := Lib.hid hj
            by_cases hbt : bt I b = bt O b
            · rw [if_pos hbt] at hd
              have HDr := Lib.hid hd
              have HMs := Lib.hid (part_step hm hbt)
              have e3 : (bt I b != bt O b) = false := by simp [hbt]
              clear hcell hz hd hm hbt hj
              go_wp2_with fail
              go_quiet (fail)
              go_wp2_with fail
              go_roundw
              case rel => exact ⟨j + 1, b, (b : Int) - 1, rfl, by omega, by have := Hj.out; omega, HDr.out, HMs.out, bel_dn HB.out _⟩
              case measure => simp [intOf]
            · rw [if_neg hbt] at hd
              have HDr := Lib.hid hd
              have e3 : (bt I b != bt O b) = true := by simp [hbt]
              have HCell := Lib.hid hcell
              have HZz := Lib.hid hz
              clear hcell hz hd hm hbt hj
              go_wp2_with fail
              go_quiet (fail)
              go_wp2_with fail
              have c2 : (wr.drewN nq).cell? ⟨g, p + j, none⟩ = some (.int .i64 z) := c1
              replace HB := Lib.hid (bel_dn HB.out nq)
              obtain ⟨w3, hw3⟩ : ∃ w3, w3 = wr.drewN nq := ⟨_, rfl⟩
              rw [← hw3] at c2 HB ⊢
              clear c1 hw3
              have r1 : IntKind.i64.wrap ((zs.length : Int) - 1) = (zs.length : Int) - 1 := by rw [IntKind.wrap_i64]; omega
              have r2 : IntKind.i64.wrap ((zs.length : Int) - 1 - (b : Int)) = (j : Int) := by rw [IntKind.wrap_i64]; have := Hj.out; omega
              have hp := pow_le6 hb6
              have hp1 : 1 ≤ (2 : Int) ^ b ∧ (2 : Int) ^ b ≤ 64 := by
                rw [show (2 : Int) ^ b = ((2 ^ b : Nat) : Int) by simp]
                omega
              have r3 : IntKind.i64.wrap ((2 : Int) ^ b) = (2 : Int) ^ b := by rw [IntKind.wrap_i64]; omega
              have r4 : IntKind.i64.wrap ((2 : Int) ^ b - 1) = (2 : Int) ^ b - 1 := by rw [IntKind.wrap_i64]; omega
              have er : ((O % 2 ^ b : Nat) : Int) = (O : Int) % 2 ^ b := by simp
              have r5 := i64_low (O := O) hb6
              have hv := lseed_low (z := z) (O := O) hb6
              have ho := Nat.mod_le O (2 ^ b)
              have HOw : Hid ((Lit.int .i64 ((O : Int) % 2 ^ b)).wf = true) := Lib.hid (by rw [← er]; exact nat_wf (by omega))
              have HBw : Hid ((Lit.int .i64 (b : Int)).wf = true) := Lib.hid (nat_wf (by omega))
              rw [er] at r5 hv
              have HV : Hid (lseed z (b : Int) ((O : Int) % 2 ^ b) = q) := Lib.hid (hv.trans HDr.out)
              have r6 : (0 : Int) ≤ (j : Int) := by omega
              have r7 : (j : Int) < (zs.length : Int) := by omega
              clear hp hp1 hv ho er
              go_region_held3 (fun w' => w'.cell? ⟨g, p + j, none⟩ = some (.int .i64 z)) (first | assumption | go_keep) ((first
                | (go_at_call 23
                   go_loud (refine (spec_ls HZ.out HBw.out HOw.out).mono ?_
                            rintro e' w4 ⟨he, hb4⟩
                            rw [HV.out] at he
                            subst he
                            have B4 := Lib.hid (HB.out.drew.trans (hb4.mono (by simpa using HB.out.size)))
                            have c4 : w4.cell? ⟨g, p + j, none⟩ = some (.int .i64 z) := by
                              have := HCell.out w4 (B4.out.mono HLim.out) j hlt
                              rwa [← HZz.out] at this
                            clear hb4))))
              go_wp2_with fail
              go_ret2
              exact ⟨by rw [HP.out]; rfl, B4.out⟩
    · have h2' : leafOk zs.length o = false := by simpa using h2
      have H2 := Lib.hid h2'
      have hp : pok zs I o = false := by rw [Bool.eq_false_iff]; intro h; exact h2 (pok_iff.1 h).2.1
      have HP := Lib.hid hp
      have HE : Hid (pleaf zs I o = 0) := Lib.hid (by unfold pleaf; rw [hp]; rfl)
      clear h1 h2 h2' hp hI hD
      go_enter Try.func33, Try.ntmps33
      go_wp2_with fail
      refine (spec_leaf _ HL.out HI.out).mono ?_
      rw [H1.out]
      rintro e w1 ⟨rfl, hw⟩
      subst hw
      go_wp2_with fail
      refine (spec_leaf _ HL.out HO.out).mono ?_
      rw [H2.out]
      rintro e w2 ⟨rfl, hw⟩
      subst hw
      go_wp2_with fail
      go_ret2
      exact ⟨by rw [HP.out, HE.out]; rfl, Below.refl _ _⟩
  · have h1' : leafOk zs.length i = false := by simpa using h1
    have H1 := Lib.hid h1'
    have hp : pok zs i o = false := by rw [Bool.eq_false_iff]; intro h; exact h1 (pok_iff.1 h).1
    have HP := Lib.hid hp
    have HE : Hid (pleaf zs i o = 0) := Lib.hid (by unfold pleaf; rw [hp]; rfl)
    clear h1 h1' hp
    go_enter Try.func33, Try.ntmps33
    go_wp2_with fail
    refine (spec_leaf _ HL.out HI.out).mono ?_
    rw [H1.out]
    rintro e w1 ⟨rfl, hw⟩
    subst hw
    go_wp2_with fail
    go_ret2
    exact ⟨by rw [HP.out, HE.out]; rfl, Below.refl _ _⟩

end Go.Proofs.Ytihhnginnmfoiaa
