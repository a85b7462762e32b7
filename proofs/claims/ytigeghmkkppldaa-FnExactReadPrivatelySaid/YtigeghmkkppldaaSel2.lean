/- IsSelection, CountSelected, UnitSelection, the program's and the document's: what each gives. No conditions. -/
import Derived.Test.YtigeghmkkppldaaSel1
import Derived.Test.YtigeghmkkppldaaBa2
namespace Go.Proofs.Ytigeghmkkppldaa
open Go Go.RowKit
set_option linter.unusedVariables false

set_option maxHeartbeats 1000000 in
/-- impl.IsSelection. -/
theorem impl_is {lim : Nat} {w : World} {v : Value} {zs : List Int} {n : Int} (h : Rd lim .i64 w v zs) (hlim : lim ≤ w.heap.size) (hw : (Lit.int .i64 n).wf = true) :
    Calls Try.prog 24 #[v, .int .i64 n] w fun e w' => e = .returned (.bool (isel zs n)) ∧ Below w.heap.size w w' := by
  have H := Lib.hid h
  clear h
  by_cases hs : isel zs (zs.length : Int) = true
  · have HS := Lib.hid hs
    by_cases hn : (zs.length : Int) = n
    · have e2 : ((zs.length : Int) == n) = true := by simp [hn]
      have HR : Hid (isel zs n = true) := Lib.hid (by rw [← hn]; exact hs)
      clear hs hn
      go_enter Try.func24, Try.ntmps24
      go_wp2_with fail
      refine (so_yes H.out hlim HS.out).mono ?_
      rintro e w1 ⟨rfl, hb⟩
      have HB := Lib.hid hb
      clear hb
      go_wp2_with fail
      go_ret
      exact ⟨by rw [HR.out]; rfl, HB.out.alloc HB.out.size _⟩
    · have e2 : ((zs.length : Int) == n) = false := by simp [hn]
      have HR : Hid (isel zs n = false) := Lib.hid (by
        rw [Bool.eq_false_iff]
        intro h
        exact hn (isel_iff.1 h).2.1)
      clear hs hn
      go_enter Try.func24, Try.ntmps24
      go_wp2_with fail
      refine (so_yes H.out hlim HS.out).mono ?_
      rintro e w1 ⟨rfl, hb⟩
      have HB := Lib.hid hb
      clear hb
      go_wp2_with fail
      go_ret
      exact ⟨by rw [HR.out]; rfl, HB.out.alloc HB.out.size _⟩
  · have HS : Hid (isel zs (zs.length : Int) = false) := Lib.hid (by simpa using hs)
    have HR : Hid (isel zs n = false) := Lib.hid (by
      rw [Bool.eq_false_iff]
      intro h
      have hn := (isel_iff.1 h).2.1
      rw [← hn] at h
      exact hs h)
    clear hs
    go_enter Try.func24, Try.ntmps24
    go_wp2_with fail
    refine (so_no H.out hlim HS.out).mono ?_
    rintro e w1 ⟨rfl, hb⟩
    have HB := Lib.hid hb
    clear hb
    go_wp2_with fail
    go_ret
    exact ⟨by rw [HR.out]; rfl, HB.out.alloc HB.out.size _⟩

set_option maxHeartbeats 1000000 in
/-- spec.IsSelection. -/
theorem spec_is {lim : Nat} {w : World} {v : Value} {zs : List Int} {n : Int} (h : Rd lim .i64 w v zs) (hw : (Lit.int .i64 n).wf = true) :
    Calls Try.prog 71 #[v, .int .i64 n] w fun e w' => e = .returned (.bool (isel zs n)) ∧ w' = w := by
  obtain ⟨q, hq⟩ : ∃ q, q = isel zs n := ⟨_, rfl⟩
  rw [← hq]
  have Hq := Lib.hid hq
  obtain ⟨a, cap, rfl, h1, h2, hc⟩ := h.open
  have Hc := Lib.hid hc
  have HW := Lib.hid (fun i (hi : i < zs.length) => h.wf hi)
  have hwn := wf_i64 hw
  unfold maxLen at h2
  clear h hc hq hw
  go_enter Try.func71, Try.ntmps71
  go_wp2_with fail
  go_loopw [5] (fun i wr => ∃ j : Nat, i = .int .i64 j ∧ j ≤ zs.length ∧ (∀ i, i < j → 0 ≤ zs.getD i 0 ∧ zs.getD i 0 ≤ 1) ∧ wr = w) (fun i _ => zs.length - (intOf i).toNat)
  case atStart => exact ⟨0, rfl, Nat.zero_le _, fun i hi => by omega, rfl⟩
  case round =>
    obtain ⟨j, rfl, hj, hs, rfl⟩ := hrel
    have HS := Lib.hid hs
    clear hs
    by_cases hlt : j < zs.length
    · have e1 : decide ((j : Int) < (zs.length : Int)) = true := by simp; omega
      obtain ⟨b, o, rfl, hbl, hcell⟩ := Hc.out (by omega)
      have c1 := hcell _ (Below.refl _ _) j hlt
      have hw := HW.out j hlt
      obtain ⟨z, hz⟩ : ∃ z, z = zs.getD j 0 := ⟨_, rfl⟩
      rw [← hz] at c1 hw
      have HZ := Lib.hid hz
      have Hw := Lib.hid hw
      clear hcell hz hw
      by_cases h0 : 0 ≤ z ∧ z ≤ 1
      · have Hr : Hid (inR z 0 1 = true) := Lib.hid (inR_yes h0)
        go_wp2_with fail
        refine (spec_in _ _ _ _ Hw.out).mono ?_
        rw [Hr.out]
        rintro e w2 ⟨rfl, hw2⟩
        subst hw2
        have H0 := Lib.hid h0
        clear h0
        go_wp2_with fail
        go_roundw
        case rel =>
          refine ⟨j + 1, by simp, hlt, fun i hi => ?_, by first | rfl | trivial⟩
          by_cases hij : i = j
          · subst hij; rw [← HZ.out]; exact H0.out
          · exact HS.out i (by omega)
        case measure => simp [intOf]; omega
      · have Hr : Hid (inR z 0 1 = false) := Lib.hid (inR_no h0)
        have Hno : Hid (q = false) := Lib.hid (by
          rw [Hq.out, Bool.eq_false_iff]
          intro h
          have := (isel_iff.1 h).1 j hlt
          rw [← HZ.out] at this
          exact h0 this)
        clear h0
        go_wp2_with fail
        refine (spec_in _ _ _ _ Hw.out).mono ?_
        rw [Hr.out]
        rintro e w2 ⟨rfl, hw2⟩
        subst hw2
        go_wp2_with fail
        go_ret
        exact ⟨by rw [Hno.out]; rfl, rfl⟩
    · have e1 : decide ((j : Int) < (zs.length : Int)) = false := by simp; omega
      have ej : j = zs.length := by omega
      by_cases hn : (zs.length : Int) = n
      · have e2 : ((zs.length : Int) == n) = true := by simp [hn]
        by_cases h64 : n ≤ 64
        · have e3 : decide (n ≤ 64) = true := by simpa using h64
          have HR : Hid (q = true) := Lib.hid (by
            rw [Hq.out]
            exact isel_iff.2 ⟨fun i hi => HS.out i (by omega), hn, h64⟩)
          clear hn ej
          go_wp2_with fail
          go_ret
          exact ⟨by rw [HR.out]; rfl, rfl⟩
        · have e3 : decide (n ≤ 64) = false := by simpa using h64
          have HR : Hid (q = false) := Lib.hid (by
            rw [Hq.out, Bool.eq_false_iff]
            intro h
            exact h64 (isel_iff.1 h).2.2)
          clear hn ej
          go_wp2_with fail
          go_ret
          exact ⟨by rw [HR.out]; rfl, rfl⟩
      · have e2 : ((zs.length : Int) == n) = false := by simp [hn]
        have HR : Hid (q = false) := Lib.hid (by
          rw [Hq.out, Bool.eq_false_iff]
          intro h
          exact hn (isel_iff.1 h).2.1)
        clear hn ej
        go_wp2_with fail
        go_ret
        exact ⟨by rw [HR.out]; rfl, rfl⟩

set_option maxHeartbeats 1000000 in
/-- impl.UnitSelection. -/
theorem impl_us {w : World} {r x : Int} (hr : (Lit.int .i64 r).wf = true) (hx : (Lit.int .i64 x).wf = true) :
    Calls Try.prog 55 #[.int .i64 r, .int .i64 x] w fun e w' => ∃ v', e = .returned v' ∧ Own 3 .i64 w.heap.size w' v' (unitV r x) ∧ Below w.heap.size w w' := by
  have HRw := Lib.hid hr
  have HXw := Lib.hid hx
  clear hr hx
  by_cases h1 : 1 ≤ r ∧ r ≤ 64
  · have Hr : Hid (inR r 1 64 = true) := Lib.hid (inR_yes h1)
    obtain ⟨h11, h12⟩ := h1
    by_cases h2 : 0 ≤ x ∧ x ≤ r - 1
    · have Hx : Hid (inR x 0 (r - 1) = true) := Lib.hid (inR_yes h2)
      obtain ⟨h21, h22⟩ := h2
      obtain ⟨n, rfl⟩ : ∃ n : Nat, r = (n : Int) := ⟨r.toNat, by omega⟩
      obtain ⟨i, rfl⟩ : ∃ i : Nat, x = (i : Int) := ⟨x.toNat, by omega⟩
      have HE : Hid (unitV (n : Int) (i : Int) = els n (2 ^ i)) := Lib.hid (by
        unfold unitV
        rw [if_pos ⟨h11, h12, h21, h22⟩, els_unit (by omega)]
        rfl)
      have hp : 2 ^ i < 18446744073709551616 := by
        have e64 : (2 : Nat) ^ 64 = 18446744073709551616 := by decide
        rw [← e64]
        exact Nat.pow_lt_pow_right (by decide) (by omega)
      have HPl := Lib.hid hp
      have HP : Hid (IntKind.u64.wrap (2 ^ i) = ((2 ^ i : Nat) : Int)) := Lib.hid (by
        rw [wrapU64, show (2 : Int) ^ i = ((2 ^ i : Nat) : Int) by simp]
        exact Int.emod_eq_of_lt (Int.natCast_nonneg _) (Int.ofNat_lt.2 hp))
      clear hp
      go_enter Try.func55, Try.ntmps55
      go_wp2_with fail
      refine (impl_in _ _ _ _ HRw.out).mono ?_
      rw [Hr.out]
      rintro e w2 ⟨rfl, hw2⟩
      subst hw2
      go_wp2_with fail
      refine (impl_in _ _ _ _ HXw.out).mono ?_
      rw [Hx.out]
      rintro e w2 ⟨rfl, hw2⟩
      subst hw2
      go_wp2_with fail
      rw [HP.out]
      refine (els_any n (2 ^ i) (by omega) HPl.out).mono ?_
      rintro e w3 ⟨v3, rfl, hO, hB⟩
      have HO := Lib.hid hO
      have HB := Lib.hid hB
      clear hO hB
      go_wp2_with fail
      go_ret
      exact ⟨_, rfl, by rw [HE.out]; exact HO.out, HB.out⟩
    · have Hx : Hid (inR x 0 (r - 1) = false) := Lib.hid (inR_no h2)
      have HE : Hid (unitV r x = []) := Lib.hid (by
        unfold unitV
        rw [if_neg (fun h => h2 ⟨h.2.2.1, h.2.2.2⟩)])
      clear h2
      go_enter Try.func55, Try.ntmps55
      go_wp2_with fail
      refine (impl_in _ _ _ _ HRw.out).mono ?_
      rw [Hr.out]
      rintro e w2 ⟨rfl, hw2⟩
      subst hw2
      go_wp2_with fail
      refine (impl_in _ _ _ _ HXw.out).mono ?_
      rw [Hx.out]
      rintro e w2 ⟨rfl, hw2⟩
      subst hw2
      go_wp2_with fail
      go_ret
      exact ⟨_, rfl, by rw [HE.out]; exact Own.lit _ _ (Nat.le_refl _), (Below.refl _ _).alloc (Nat.le_refl _) _⟩
  · have Hr : Hid (inR r 1 64 = false) := Lib.hid (inR_no h1)
    have HE : Hid (unitV r x = []) := Lib.hid (by
      unfold unitV
      rw [if_neg (fun h => h1 ⟨h.1, h.2.1⟩)])
    clear h1
    go_enter Try.func55, Try.ntmps55
    go_wp2_with fail
    refine (impl_in _ _ _ _ HRw.out).mono ?_
    rw [Hr.out]
    rintro e w2 ⟨rfl, hw2⟩
    subst hw2
    go_wp2_with fail
    go_ret
    exact ⟨_, rfl, by rw [HE.out]; exact Own.lit _ _ (Nat.le_refl _), (Below.refl _ _).alloc (Nat.le_refl _) _⟩

set_option maxHeartbeats 1000000 in
/-- spec.UnitSelection. -/
theorem spec_us {w : World} {r x : Int} (hr : (Lit.int .i64 r).wf = true) (hx : (Lit.int .i64 x).wf = true) :
    Calls Try.prog 21 #[.int .i64 r, .int .i64 x] w fun e w' => ∃ v', e = .returned v' ∧ Own 3 .i64 w.heap.size w' v' (unitV r x) ∧ Below w.heap.size w w' := by
  have HRw := Lib.hid hr
  have HXw := Lib.hid hx
  clear hr hx
  by_cases h1 : 1 ≤ r ∧ r ≤ 64
  · have Hr : Hid (inR r 1 64 = true) := Lib.hid (inR_yes h1)
    obtain ⟨h11, h12⟩ := h1
    by_cases h2 : 0 ≤ x ∧ x ≤ r - 1
    · have Hx : Hid (inR x 0 (r - 1) = true) := Lib.hid (inR_yes h2)
      obtain ⟨h21, h22⟩ := h2
      obtain ⟨n, rfl⟩ : ∃ n : Nat, r = (n : Int) := ⟨r.toNat, by omega⟩
      obtain ⟨i, rfl⟩ : ∃ i : Nat, x = (i : Int) := ⟨x.toNat, by omega⟩
      have HE : Hid (unitV (n : Int) (i : Int) = (List.replicate n (0 : Int)).set i 1) := Lib.hid (by
        unfold unitV
        rw [if_pos ⟨h11, h12, h21, h22⟩]
        rfl)
      obtain ⟨i0, hi, hz0, hz1, hz2⟩ := info_parts infoi64
      have Hhi := Lib.hid hi
      clear hi
      go_enter Try.func21, Try.ntmps21
      go_wp2_with fail
      refine (spec_in _ _ _ _ HRw.out).mono ?_
      rw [Hr.out]
      rintro e w2 ⟨rfl, hw2⟩
      subst hw2
      go_wp2_with fail
      refine (spec_in _ _ _ _ HXw.out).mono ?_
      rw [Hx.out]
      rintro e w2 ⟨rfl, hw2⟩
      subst hw2
      go_wp2_with (first | (at_make; refine wpList_make_full _ rfl _ _ 27 rfl w2.heap.size 3 i0 (.int .i64 0) 1 Try.underlying27 Hhi.out hz0 hz1 .i64 .i64 _ _ n rfl rfl rfl rfl (by rw [hz2]; omega) (by unfold maxLen; omega) (Nat.le_refl _) ?_))
      intro w3 hown hg
      have HO := Lib.hid (own_made hown hg.size (by decide))
      have HB := Lib.hid ((Below.refl w2.heap.size w2).grown hg (Nat.le_refl _) (fun k hk => by cases hk))
      have hin : i < n := by omega
      have c1 := HO.out.cellAt (List.length_replicate ..) hin
      have f1 := HO.out.free (List.length_replicate ..) i
      clear hown hg
      go_wp2_with fail
      go_ret
      have q := HO.out
      have e : (Value.slice (some ⟨w2.heap.size, 0, none⟩) n n) = .slice (some ⟨w2.heap.size, 0, none⟩) (List.replicate n (0 : Int)).length n := by rw [List.length_replicate]
      rw [e] at q
      obtain ⟨p1, p2⟩ := q.set (x := 1) (by decide) i
      rw [← e] at p1
      exact ⟨_, rfl, by rw [HE.out]; exact p1, HB.out.grown p2 HB.out.size (fun k hk => by injection hk with hk; omega)⟩
    · have Hx : Hid (inR x 0 (r - 1) = false) := Lib.hid (inR_no h2)
      have HE : Hid (unitV r x = []) := Lib.hid (by
        unfold unitV
        rw [if_neg (fun h => h2 ⟨h.2.2.1, h.2.2.2⟩)])
      clear h2
      go_enter Try.func21, Try.ntmps21
      go_wp2_with fail
      refine (spec_in _ _ _ _ HRw.out).mono ?_
      rw [Hr.out]
      rintro e w2 ⟨rfl, hw2⟩
      subst hw2
      go_wp2_with fail
      refine (spec_in _ _ _ _ HXw.out).mono ?_
      rw [Hx.out]
      rintro e w2 ⟨rfl, hw2⟩
      subst hw2
      go_wp2_with fail
      go_ret
      exact ⟨_, rfl, by rw [HE.out]; exact Own.lit _ _ (Nat.le_refl _), (Below.refl _ _).alloc (Nat.le_refl _) _⟩
  · have Hr : Hid (inR r 1 64 = false) := Lib.hid (inR_no h1)
    have HE : Hid (unitV r x = []) := Lib.hid (by
      unfold unitV
      rw [if_neg (fun h => h1 ⟨h.1, h.2.1⟩)])
    clear h1
    go_enter Try.func21, Try.ntmps21
    go_wp2_with fail
    refine (spec_in _ _ _ _ HRw.out).mono ?_
    rw [Hr.out]
    rintro e w2 ⟨rfl, hw2⟩
    subst hw2
    go_wp2_with fail
    go_ret
    exact ⟨_, rfl, by rw [HE.out]; exact Own.lit _ _ (Nat.le_refl _), (Below.refl _ _).alloc (Nat.le_refl _) _⟩

end Go.Proofs.Ytigeghmkkppldaa
