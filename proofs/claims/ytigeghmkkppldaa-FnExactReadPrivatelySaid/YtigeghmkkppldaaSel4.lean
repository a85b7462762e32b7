/- RandomSelection, the program's and the document's: what each gives. No conditions. -/
import Derived.Test.YtigeghmkkppldaaSel3
namespace Go.Proofs.Ytigeghmkkppldaa
open Go Go.RowKit
set_option linter.unusedVariables false

/-- Element i of a random selection. -/
def rsb (seed : Int) (i : Nat) : Int := kh seed [(i : Int), 41] * kh seed [(i : Int), 41] % 2147483647 / 512 % 2
theorem rsb_bit (seed : Int) (i : Nat) : 0 ≤ rsb seed i ∧ rsb seed i ≤ 1 := by unfold rsb; omega
/-- RandomSelection's answer. -/
def rsl (seed n : Int) : List Int := if 0 ≤ n ∧ n ≤ 64 then (List.range n.toNat).map (rsb seed) else []
theorem rsl_len (seed n : Int) : (rsl seed n).length ≤ 64 := by
  unfold rsl
  split
  · simp; omega
  · simp

theorem sq_bound {q : Int} (h0 : 0 ≤ q) (h1 : q ≤ 2147483646) : 0 ≤ q * q ∧ q * q ≤ 4611686009837453316 := by
  refine ⟨Int.mul_nonneg h0 h0, ?_⟩
  have := Int.mul_le_mul h1 h1 h0 (by omega)
  omega

set_option maxHeartbeats 1000000 in
/-- impl.RandomSelection. -/
theorem impl_rs {w : World} {k n : Int} (hk : (Lit.int .i64 k).wf = true) (hn : (Lit.int .i64 n).wf = true) :
    Calls Try.prog 57 #[.int .i64 k, .int .i64 n] w fun e w' => ∃ v', e = .returned v' ∧ Own 3 .i64 w.heap.size w' v' (rsl k n) ∧ Below w.heap.size w w' := by
  have HK := Lib.hid hk
  have HNw := Lib.hid hn
  obtain ⟨i0, hi, hz0, hz1, hz2⟩ := info_parts infoi64
  have Hhi := Lib.hid hi
  clear hk hn hi
  by_cases h1 : 0 ≤ n ∧ n ≤ 64
  · have Hr : Hid (inR n 0 64 = true) := Lib.hid (inR_yes h1)
    obtain ⟨h11, h12⟩ := h1
    obtain ⟨m, rfl⟩ : ∃ m : Nat, n = (m : Int) := ⟨n.toNat, by omega⟩
    have HE : Hid (rsl k (m : Int) = (List.range m).map (rsb k)) := Lib.hid (by
      unfold rsl
      rw [if_pos ⟨h11, h12⟩]
      rfl)
    go_enter Try.func57, Try.ntmps57
    go_wp2_with fail
    refine (impl_in _ _ _ _ HNw.out).mono ?_
    rw [Hr.out]
    rintro e w2 ⟨rfl, hw2⟩
    subst hw2
    go_wp2_with (first | (at_make; refine wpList_make_full _ rfl _ _ 27 rfl w2.heap.size 3 i0 (.int .i64 0) 1 Try.underlying27 Hhi.out hz0 hz1 .i64 .i64 _ _ m rfl rfl rfl rfl (by rw [hz2]; omega) (by unfold maxLen; omega) (Nat.le_refl _) ?_))
    intro w1 hown hg
    have hO := own_made hown hg.size (by decide)
    rw [← upt_rep (rsb k) m] at hO
    have HO := Lib.hid hO
    have HB := Lib.hid ((Below.refl w2.heap.size w2).grown hg (Nat.le_refl _) (fun k hk => by cases hk))
    clear hown hg hO
    go_wp2_with fail
    go_loopw [16] (fun i wr => ∃ j : Nat, i = .int .i64 j ∧ j ≤ m ∧ Own 3 .i64 w2.heap.size wr (.slice (some ⟨w2.heap.size, 0, none⟩) m m) (upt (rsb k) (fun _ => 0) j m) ∧ Below w2.heap.size w2 wr) (fun i _ => m - (intOf i).toNat)
    case atStart => exact ⟨0, rfl, Nat.zero_le _, HO.out, HB.out⟩
    case round =>
      obtain ⟨j, rfl, hj, hO, hB⟩ := hrel
      replace HO := Lib.hid hO
      replace HB := Lib.hid hB
      clear hO hB
      by_cases hlt : j < m
      · have e1 : decide ((j : Int) < (m : Int)) = true := by simp; omega
        have R1 := Lib.hid (Rd.two 3 .i64 wr (j : Int) 41 (wf_i64_of (by omega) (by omega)) (by decide))
        have O1 := Lib.hid (HO.out.alloc (.cells #[.int .i64 (j : Int), .int .i64 41] 3))
        have B1 := Lib.hid (HB.out.alloc HO.out.2.1 (.cells #[.int .i64 (j : Int), .int .i64 41] 3))
        go_wp2_with fail
        refine (impl_kh R1.out (by simp) HK.out).mono ?_
        rintro e w3 ⟨he, hb⟩
        have hq := kh_bound k [(j : Int), 41]
        have hq1 : rsb k j = kh k [(j : Int), 41] * kh k [(j : Int), 41] % 2147483647 / 512 % 2 := rfl
        obtain ⟨q, hq'⟩ : ∃ q, q = kh k [(j : Int), 41] := ⟨_, rfl⟩
        rw [← hq'] at he hq hq1
        have HQ : Hid (bits .and .i64 (q * q % 2147483647 / 512) 1 = rsb k j) := Lib.hid (by rw [hq1]; exact i64_mask 1 1 (by decide) (by decide) _)
        subst he
        have O3 := Lib.hid (O1.out.next hb)
        have B3 := Lib.hid (B1.out.trans (hb.mono B1.out.size))
        have hqq := sq_bound hq.1 (by omega)
        have c2 := O3.out.cellAt (upt_length _ _ _ _) hlt
        have f2 := O3.out.free (upt_length _ _ _ _) j
        clear hb hq' hq1
        go_wp2
        go_roundw
        case rel =>
          obtain ⟨p1, p2⟩ := O3.out.put (f := rsb k) (j := j) (by have := rsb_bit k j; exact wf_i64_of (by omega) (by omega))
          rw [HQ.out]
          exact ⟨j + 1, by simp, hlt, p1, B3.out.trans (O3.out.below (Nat.le_refl _) p2)⟩
        case measure => simp [intOf]; omega
      · have e1 : decide ((j : Int) < (m : Int)) = false := by simp; omega
        have ej : j = m := by omega
        have HO2 : Hid (Own 3 .i64 w2.heap.size wr (.slice (some ⟨w2.heap.size, 0, none⟩) m m) (rsl k (m : Int))) := Lib.hid (by
          have := HO.out
          rwa [ej, upt_full, ← HE.out] at this)
        clear ej
        go_wp2
        go_ret
        exact ⟨_, rfl, HO2.out, HB.out⟩
  · have Hr : Hid (inR n 0 64 = false) := Lib.hid (inR_no h1)
    have HE : Hid (rsl k n = []) := Lib.hid (by unfold rsl; rw [if_neg h1])
    clear h1
    go_enter Try.func57, Try.ntmps57
    go_wp2_with fail
    refine (impl_in _ _ _ _ HNw.out).mono ?_
    rw [Hr.out]
    rintro e w2 ⟨rfl, hw2⟩
    subst hw2
    go_wp2_with fail
    go_ret
    exact ⟨_, rfl, by rw [HE.out]; exact Own.lit _ _ (Nat.le_refl _), (Below.refl _ _).alloc (Nat.le_refl _) _⟩

set_option maxHeartbeats 1000000 in
/-- spec.RandomSelection. -/
theorem spec_rs {w : World} {k n : Int} (hk : (Lit.int .i64 k).wf = true) (hn : (Lit.int .i64 n).wf = true) :
    Calls Try.prog 68 #[.int .i64 k, .int .i64 n] w fun e w' => ∃ v', e = .returned v' ∧ Own 3 .i64 w.heap.size w' v' (rsl k n) ∧ Below w.heap.size w w' := by
  have HK := Lib.hid hk
  have hnb := wf_i64 hn
  obtain ⟨i0, hi, hz0, hz1, hz2⟩ := info_parts infoi64
  have Hhi := Lib.hid hi
  have HO : Hid (Own 3 .i64 w.heap.size (w.alloc (.cells #[] 3)) (.slice (some ⟨w.heap.size, 0, none⟩) 0 0) []) := Lib.hid (Own.lit _ _ (Nat.le_refl _))
  have HB := Lib.hid ((Below.refl w.heap.size w).alloc (Nat.le_refl _) (.cells #[] 3))
  clear hk hn hi
  by_cases h1 : 0 ≤ n ∧ n ≤ 64
  · obtain ⟨h11, h12⟩ := h1
    obtain ⟨m, rfl⟩ : ∃ m : Nat, n = (m : Int) := ⟨n.toNat, by omega⟩
    have HE : Hid (rsl k (m : Int) = (List.range m).map (rsb k)) := Lib.hid (by
      unfold rsl
      rw [if_pos ⟨h11, h12⟩]
      rfl)
    go_enter Try.func68, Try.ntmps68
    go_wp2_with fail
    go_loopw [5, 6] (fun s i wr => ∃ j : Nat, i = .int .i64 j ∧ j ≤ m ∧ Own 3 .i64 w.heap.size wr s ((List.range j).map (rsb k)) ∧ Below w.heap.size w wr) (fun _ i _ => m - (intOf i).toNat)
    case atStart => exact ⟨0, rfl, Nat.zero_le _, HO.out, HB.out⟩
    case round =>
      obtain ⟨j, rfl, hj, hO, hB⟩ := hrel
      replace HO := Lib.hid hO
      replace HB := Lib.hid hB
      clear hO hB
      by_cases hlt : j < m
      · have e1 : decide ((j : Int) < (m : Int)) = true := by simp; omega
        have R1 := Lib.hid (Rd.two 3 .i64 wr (j : Int) 41 (wf_i64_of (by omega) (by omega)) (by decide))
        have O1 := Lib.hid (HO.out.alloc (.cells #[.int .i64 (j : Int), .int .i64 41] 3))
        have B1 := Lib.hid (HB.out.alloc HO.out.2.1 (.cells #[.int .i64 (j : Int), .int .i64 41] 3))
        have HT : Hid ((List.range j).map (rsb k) ++ [rsb k j] = (List.range (j + 1)).map (rsb k)) := Lib.hid (by simp [List.range_succ])
        have HLn : Hid (((List.range j).map (rsb k)).length ≤ 64) := Lib.hid (by simp; omega)
        go_wp2_with fail
        refine (spec_kh R1.out (by simp) HK.out (by simp)).mono ?_
        rintro e w3 ⟨he, hb⟩
        have hq := kh_bound k [(j : Int), 41]
        have hq1 : rsb k j = kh k [(j : Int), 41] * kh k [(j : Int), 41] % 2147483647 / 512 % 2 := rfl
        obtain ⟨q, hq'⟩ : ∃ q, q = kh k [(j : Int), 41] := ⟨_, rfl⟩
        rw [← hq'] at he hq hq1
        have hq2 : bits .and .i64 (q * q % 2147483647 / 512) 1 = rsb k j := by rw [hq1]; exact i64_mask 1 1 (by decide) (by decide) _
        have hbit := rsb_bit k j
        obtain ⟨x, hx⟩ : ∃ x, x = rsb k j := ⟨_, rfl⟩
        rw [← hx] at hq2 hbit HT
        subst he
        have O3 := Lib.hid ((O1.out.next hb).alloc (.cells #[.int .i64 x] 3))
        have B3 := Lib.hid ((B1.out.trans (hb.mono B1.out.size)).alloc (O1.out.next hb).2.1 (.cells #[.int .i64 x] 3))
        have R3 := Lib.hid (Rd.one 3 .i64 w3 x (wf_i64_of (by omega) (by omega)))
        have hqq := sq_bound hq.1 (by omega)
        clear hb hq' hq1 hx
        go_wp2_with (first | (at_builtin; refine append_rd _ rfl _ _ 27 rfl 3 i0 (.int .i64 0) 8 Try.underlying27 Hhi.out hz0 hz1 hz2 rfl (by omega) rfl O3.out rfl R3.out (by have := HLn.out; simp only [List.length_singleton]; omega) ?_))
        intro v5 w5 h5 h6
        rw [HT.out] at h5
        have H5 := Lib.hid h5
        have B5 := Lib.hid (B3.out.trans (O3.out.below (Nat.le_refl _) h6))
        clear h5 h6
        go_wp2
        go_roundw
        case rel => exact ⟨j + 1, by simp, hlt, H5.out, B5.out⟩
        case measure => simp [intOf]; omega
      · have e1 : decide ((j : Int) < (m : Int)) = false := by simp; omega
        have ej : j = m := by omega
        have HR : Hid (rsl k (m : Int) = (List.range j).map (rsb k)) := Lib.hid (by rw [HE.out, ej])
        clear ej
        go_wp2
        go_ret
        exact ⟨_, rfl, by rw [HR.out]; exact HO.out, HB.out⟩
  · have HE : Hid (rsl k n = []) := Lib.hid (by unfold rsl; rw [if_neg h1])
    have H1 := Lib.hid h1
    clear h1
    go_enter Try.func68, Try.ntmps68
    go_wp2_with fail
    go_loopw [5, 6] (fun s i wr => i = .int .i64 0 ∧ s = .slice (some ⟨w.heap.size, 0, none⟩) 0 0 ∧ wr = w.alloc (.cells #[] 3)) (fun _ i _ => 1 - (intOf i).toNat)
    case atStart => exact ⟨rfl, rfl, rfl⟩
    case round =>
      obtain ⟨rfl, rfl, rfl⟩ := hrel
      by_cases hp : 0 < n
      · have e1 : decide ((0 : Int) < n) = true := by simpa using hp
        have e2 : decide (n ≤ 64) = false := by have := H1.out; simp; omega
        go_wp2
        go_ret
        exact ⟨_, rfl, by rw [HE.out]; exact HO.out, HB.out⟩
      · have e1 : decide ((0 : Int) < n) = false := by simpa using hp
        go_wp2
        go_ret
        exact ⟨_, rfl, by rw [HE.out]; exact HO.out, HB.out⟩

end Go.Proofs.Ytigeghmkkppldaa
