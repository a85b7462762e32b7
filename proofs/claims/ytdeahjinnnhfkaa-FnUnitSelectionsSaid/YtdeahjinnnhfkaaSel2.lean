/- IsSelection, CountSelected, UnitSelection, the program's and the document's: what each gives. No conditions. -/
import Derived.Test.YtdeahjinnnhfkaaSel1
import Derived.Test.YtdeahjinnnhfkaaRdG
namespace Go.Proofs.Ytdeahjinnnhfkaa
open Go Go.RowKit
set_option linter.unusedVariables false

set_option maxHeartbeats 1000000 in
/-- impl.CountSelected. -/
theorem impl_cs {lim : Nat} {w : World} {v : Value} {zs : List Int} (h : Rd lim .i64 w v zs) :
    Calls Try.prog 18 #[v] w fun e w' => e = .returned (.int .i64 (cnt zs : Int)) ∧ w' = w := by
  obtain ⟨q, hq⟩ : ∃ q, q = cnt zs := ⟨_, rfl⟩
  rw [← hq]
  have Hq := Lib.hid hq
  obtain ⟨a, cap, rfl, h1, h2, hc⟩ := h.open
  have Hc := Lib.hid hc
  unfold maxLen at h2
  clear h hc hq
  go_enter Try.func18, Try.ntmps18
  go_wp2_with fail
  go_loopw [3, 8] (fun s i wr => ∃ j c : Nat, i = .int .i64 j ∧ s = .int .i64 c ∧ j ≤ zs.length ∧ c ≤ j ∧ c = cnt (zs.take j) ∧ wr = w) (fun _ i _ => zs.length - (intOf i).toNat)
  case atStart => exact ⟨0, 0, rfl, rfl, Nat.zero_le _, Nat.le_refl _, rfl, rfl⟩
  case round =>
    obtain ⟨j, c, rfl, rfl, hj, hcj, hc, rfl⟩ := hrel
    have HC := Lib.hid hc
    clear hc
    by_cases hlt : j < zs.length
    · have e1 : decide ((j : Int) < (zs.length : Int)) = true := by simp; omega
      obtain ⟨b, o, rfl, hbl, hcell⟩ := Hc.out (by omega)
      have c1 := hcell _ (Below.refl _ _) j hlt
      have ht := cnt_take hlt
      rw [← HC.out] at ht
      obtain ⟨z, hz⟩ : ∃ z, z = zs.getD j 0 := ⟨_, rfl⟩
      rw [← hz] at c1 ht
      clear hcell hz
      by_cases h0 : z = 1
      · have e2 : (z == 1) = true := by simp [h0]
        rw [if_pos h0] at ht
        have HT := Lib.hid ht
        clear h0 ht
        go_wp2
        go_roundw
        case rel => exact ⟨j + 1, c + 1, by simp, by simp, hlt, by omega, HT.out.symm, by first | rfl | trivial⟩
        case measure => simp [intOf]; omega
      · have e2 : (z == 1) = false := by simp [h0]
        rw [if_neg h0] at ht
        have HT := Lib.hid ht
        clear h0 ht
        go_wp2
        go_roundw
        case rel => exact ⟨j + 1, c, by simp, rfl, hlt, by omega, HT.out.symm, by first | rfl | trivial⟩
        case measure => simp [intOf]; omega
    · have e1 : decide ((j : Int) < (zs.length : Int)) = false := by simp; omega
      have HE : Hid (c = q) := Lib.hid (by rw [Hq.out, HC.out, List.take_of_length_le (by omega)])
      go_wp2
      go_ret
      exact ⟨by rw [HE.out]; rfl, rfl⟩

set_option maxHeartbeats 1000000 in
/-- impl.UnitSelection. -/
theorem impl_us {w : World} {r x : Int} (hr : (Lit.int .i64 r).wf = true) (hx : (Lit.int .i64 x).wf = true) :
    Calls Try.prog 15 #[.int .i64 r, .int .i64 x] w fun e w' => ∃ v', e = .returned v' ∧ Own 3 .i64 w.heap.size w' v' (unitV r x) ∧ Below w.heap.size w w' := by
  have HRw := Lib.hid hr
  have HXw := Lib.hid hx
  clear hr hx
  by_cases h1 : 1 ≤ r ∧ r ≤ 64
  · have Hr : Hid (inR r 1 64 = true) := Lib.hid (inR_yes h1)
    obtain ⟨h11, h12⟩ := h1
    by_cases h2 : 0 ≤ x ∧ x ≤ r - 1
    · have Hx : Hid (inR x 0 (r - 1) = true) := Lib.hid (inR_yes h2)
      obtain ⟨h21, h22⟩ := h2
      obtain ⟨n, rfl⟩ : ∃ n : Nat, r = (n : Int) := ⟨r.toNat, by omega⟩
      obtain ⟨i, rfl⟩ : ∃ i : Nat, x = (i : Int) := ⟨x.toNat, by omega⟩
      have HE : Hid (unitV (n : Int) (i : Int) = els n (2 ^ i)) := Lib.hid (by
        unfold unitV
        rw [if_pos ⟨h11, h12, h21, h22⟩, els_unit (by omega)]
        rfl)
      have hp : 2 ^ i < 18446744073709551616 := by
        have e64 : (2 : Nat) ^ 64 = 18446744073709551616 := by decide
        rw [← e64]
        exact Nat.pow_lt_pow_right (by decide) (by omega)
      have HPl := Lib.hid hp
      have HP : Hid (IntKind.u64.wrap (2 ^ i) = ((2 ^ i : Nat) : Int)) := Lib.hid (by
        rw [wrapU64, show (2 : Int) ^ i = ((2 ^ i : Nat) : Int) by simp]
        exact Int.emod_eq_of_lt (Int.natCast_nonneg _) (Int.ofNat_lt.2 hp))
      clear hp
      go_enter Try.func15, Try.ntmps15
      go_wp2_with fail
      refine (impl_in _ _ _ _ HRw.out).mono ?_
      rw [Hr.out]
      rintro e w2 ⟨rfl, hw2⟩
      subst hw2
      go_wp2_with fail
      refine (impl_in _ _ _ _ HXw.out).mono ?_
      rw [Hx.out]
      rintro e w2 ⟨rfl, hw2⟩
      subst hw2
      go_wp2_with fail
      rw [HP.out]
      refine (els_any n (2 ^ i) (by omega) HPl.out).mono ?_
      rintro e w3 ⟨v3, rfl, hO, hB⟩
      have HO := Lib.hid hO
      have HB := Lib.hid hB
      clear hO hB
      go_wp2_with fail
      go_ret
      exact ⟨_, rfl, by rw [HE.out]; exact HO.out, HB.out⟩
    · have Hx : Hid (inR x 0 (r - 1) = false) := Lib.hid (inR_no h2)
      have HE : Hid (unitV r x = []) := Lib.hid (by
        unfold unitV
        rw [if_neg (fun h => h2 ⟨h.2.2.1, h.2.2.2⟩)])
      clear h2
      go_enter Try.func15, Try.ntmps15
      go_wp2_with fail
      refine (impl_in _ _ _ _ HRw.out).mono ?_
      rw [Hr.out]
      rintro e w2 ⟨rfl, hw2⟩
      subst hw2
      go_wp2_with fail
      refine (impl_in _ _ _ _ HXw.out).mono ?_
      rw [Hx.out]
      rintro e w2 ⟨rfl, hw2⟩
      subst hw2
      go_wp2_with fail
      go_ret
      exact ⟨_, rfl, by rw [HE.out]; exact Own.lit _ _ (Nat.le_refl _), (Below.refl _ _).alloc (Nat.le_refl _) _⟩
  · have Hr : Hid (inR r 1 64 = false) := Lib.hid (inR_no h1)
    have HE : Hid (unitV r x = []) := Lib.hid (by
      unfold unitV
      rw [if_neg (fun h => h1 ⟨h.1, h.2.1⟩)])
    clear h1
    go_enter Try.func15, Try.ntmps15
    go_wp2_with fail
    refine (impl_in _ _ _ _ HRw.out).mono ?_
    rw [Hr.out]
    rintro e w2 ⟨rfl, hw2⟩
    subst hw2
    go_wp2_with fail
    go_ret
    exact ⟨_, rfl, by rw [HE.out]; exact Own.lit _ _ (Nat.le_refl _), (Below.refl _ _).alloc (Nat.le_refl _) _⟩

end Go.Proofs.Ytdeahjinnnhfkaa
