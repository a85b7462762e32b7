/- Trees of seeds: StreamBytes, the program's and the document's. No conditions but numbers that a machine holds. -/
import Derived.Test.YtjhmemdbngkelaaTre3
namespace Go.Proofs.Ytjhmemdbngkelaa
open Go Go.RowKit
set_option linter.unusedVariables false
attribute [local irreducible] kh

theorem strm_yes {s : Int} {n : Nat} (h : inR (n : Int) 0 400 = true) : strm s (n : Int) = (List.range n).map (sbyte s) := by
  unfold strm; rw [if_pos h, Int.toNat_natCast]
theorem strm_no {s n : Int} (h : inR n 0 400 = false) : strm s n = [] := by
  unfold strm; rw [h]; rfl
theorem sbyte_eq (s : Int) (i : Nat) : sbyte s i = kid s (100 + (i : Int)) / 256 % 256 := rfl

set_option maxHeartbeats 1000000 in
/-- impl.StreamBytes. -/
theorem impl_sb {w : World} {s n : Int} (hs : (Lit.int .i64 s).wf = true) (hn : (Lit.int .i64 n).wf = true) :
    Calls Try.prog 47 #[.int .i64 s, .int .i64 n] w fun e w' => ∃ v', e = .returned v' ∧ Own 5 .u8 w.heap.size w' v' (strm s n) ∧ Below w.heap.size w w' := by
  obtain ⟨i0, hi, hz0, hz1, hz2⟩ := info_parts infou8
  have Hhi := Lib.hid hi
  have HS := Lib.hid hs
  have HD := Lib.hid hn
  clear hi hs hn
  by_cases h1 : 0 ≤ n ∧ n ≤ 400
  · have Hr : Hid (inR n 0 400 = true) := Lib.hid (inR_yes h1)
    obtain ⟨N, rfl⟩ : ∃ N : Nat, n = (N : Int) := ⟨n.toNat, by omega⟩
    have h6 : N ≤ 400 := by omega
    have HE : Hid (strm s (N : Int) = (List.range N).map (sbyte s)) := Lib.hid (strm_yes Hr.out)
    clear h1
    go_enter Try.func47, Try.ntmps47
    go_wp2_with fail
    refine (impl_in _ _ _ _ HD.out).mono ?_
    rw [Hr.out]
    rintro e w0 ⟨rfl, hw0⟩
    subst hw0
    go_wp2_with (first | (at_make; refine wpList_make_full _ rfl _ _ 22 rfl w0.heap.size 5 i0 (.int .u8 0) 1 Try.underlying22 Hhi.out hz0 hz1 .i64 .i64 _ _ N rfl rfl rfl rfl (by rw [hz2]; omega) (by unfold maxLen; omega) (Nat.le_refl _) ?_))
    intro w1 hown hg
    have hO := own_made hown hg.size (by decide)
    rw [← upt_rep (sbyte s) N] at hO
    have HO := Lib.hid hO
    have HB := Lib.hid ((Below.refl w0.heap.size w0).grown hg (Nat.le_refl _) (fun k hk => by cases hk))
    clear hown hg hO
    go_wp2_with fail
    go_loopw [15] (fun i wr => ∃ j : Nat, i = .int .i64 j ∧ j ≤ N ∧ Own 5 .u8 w0.heap.size wr (.slice (some ⟨w0.heap.size, 0, none⟩) N N) (upt (sbyte s) (fun _ => 0) j N) ∧ Below w0.heap.size w0 wr) (fun i _ => N - (intOf i).toNat)
    case atStart => exact ⟨0, rfl, Nat.zero_le _, HO.out, HB.out⟩
    case round =>
      obtain ⟨j, rfl, hj, hO, hB⟩ := hrel
      replace HO := Lib.hid hO
      replace HB := Lib.hid hB
      clear hO hB
      by_cases hlt : j < N
      · have e1 : decide ((j : Int) < (N : Int)) = true := by simp; omega
        go_wp2_with fail
        refine (impl_cs HS.out (wf_i64_of (by omega) (by omega))).mono ?_
        have hk := kid_bound s (100 + (j : Int))
        obtain ⟨q, hq⟩ : ∃ q, q = kid s (100 + (j : Int)) := ⟨_, rfl⟩
        rw [← hq] at hk ⊢
        have HK : Hid (q / 256 % 256 = sbyte s j) := Lib.hid (by rw [hq]; rfl)
        clear hq
        rintro e w2 ⟨rfl, hb⟩
        replace HB := Lib.hid (HB.out.trans (hb.mono HB.out.size))
        replace HO := Lib.hid (HO.out.next hb)
        have c2 := HO.out.cellAt (upt_length _ _ _ _) hlt
        have f2 := HO.out.free (upt_length _ _ _ _) j
        obtain ⟨p1, p2⟩ := HO.out.put (f := sbyte s) (j := j) (sbyte_wf _ _)
        have P1 := Lib.hid p1
        have P2 := Lib.hid p2
        clear hb p1 p2
        go_wp2_with fail
        go_roundw
        case rel =>
          rw [HK.out]
          exact ⟨j + 1, by simp, hlt, P1.out, HB.out.grown P2.out HB.out.size (fun k hk => by injection hk with hk; omega)⟩
        case measure => simp [intOf]; omega
      · have e1 : decide ((j : Int) < (N : Int)) = false := by simp; omega
        have ej : j = N := by omega
        have HE2 : Hid (upt (sbyte s) (fun _ => 0) j N = strm s (N : Int)) := Lib.hid (by rw [HE.out, ej, upt_full])
        clear ej
        go_wp2
        go_ret
        exact ⟨_, rfl, by rw [← HE2.out]; exact HO.out, HB.out⟩
  · have Hr : Hid (inR n 0 400 = false) := Lib.hid (inR_no h1)
    have HE : Hid (strm s n = []) := Lib.hid (strm_no Hr.out)
    clear h1
    go_enter Try.func47, Try.ntmps47
    go_wp2_with fail
    refine (impl_in _ _ _ _ HD.out).mono ?_
    rw [Hr.out]
    rintro e w2 ⟨rfl, hw2⟩
    subst hw2
    go_wp2_with fail
    go_ret
    exact ⟨_, rfl, by rw [HE.out]; exact Own.lit _ _ (Nat.le_refl _), (Below.refl _ _).alloc (Nat.le_refl _) _⟩

set_option maxHeartbeats 1000000 in
/-- spec.StreamBytes. -/
theorem spec_sb {w : World} {s n : Int} (hs : (Lit.int .i64 s).wf = true) (hn : (Lit.int .i64 n).wf = true) :
    Calls Try.prog 59 #[.int .i64 s, .int .i64 n] w fun e w' => ∃ v', e = .returned v' ∧ Own 5 .u8 w.heap.size w' v' (strm s n) ∧ Below w.heap.size w w' := by
  obtain ⟨i0, hi, hz0, hz1, hz2⟩ := info_parts infou8
  have Hhi := Lib.hid hi
  have HS := Lib.hid hs
  have HD := Lib.hid hn
  have HO : Hid (Own 5 .u8 w.heap.size (w.alloc (.cells #[] 5)) (.slice (some ⟨w.heap.size, 0, none⟩) 0 0) []) := Lib.hid (Own.lit _ _ (Nat.le_refl _))
  have HB := Lib.hid ((Below.refl w.heap.size w).alloc (Nat.le_refl _) (.cells #[] 5))
  clear hi hs hn
  by_cases h1 : 0 ≤ n ∧ n ≤ 400
  · have Hr : Hid (inR n 0 400 = true) := Lib.hid (inR_yes h1)
    obtain ⟨N, rfl⟩ : ∃ N : Nat, n = (N : Int) := ⟨n.toNat, by omega⟩
    have h6 : N ≤ 400 := by omega
    have HE : Hid (strm s (N : Int) = (List.range N).map (sbyte s)) := Lib.hid (strm_yes Hr.out)
    have e400 : decide ((N : Int) ≤ 400) = true := by simp; omega
    clear h1
    go_enter Try.func59, Try.ntmps59
    go_wp2_with fail
    go_loopw [5, 6] (fun o i wr => ∃ j : Nat, i = .int .i64 j ∧ j ≤ N ∧ Own 5 .u8 w.heap.size wr o ((List.range j).map (sbyte s)) ∧ Below w.heap.size w wr) (fun _ i _ => N - (intOf i).toNat)
    case atStart => exact ⟨0, rfl, Nat.zero_le _, HO.out, HB.out⟩
    case round =>
      obtain ⟨j, rfl, hj, hO, hB⟩ := hrel
      replace HO := Lib.hid hO
      replace HB := Lib.hid hB
      clear hO hB
      by_cases hlt : j < N
      · have e1 : decide ((j : Int) < (N : Int)) = true := by simp; omega
        go_wp2_with fail
        refine (spec_cs HS.out (wf_i64_of (by omega) (by omega))).mono ?_
        have hk := kid_bound s (100 + (j : Int))
        obtain ⟨q, hq⟩ : ∃ q, q = kid s (100 + (j : Int)) := ⟨_, rfl⟩
        rw [← hq] at hk ⊢
        have HK : Hid (q / 256 % 256 = sbyte s j) := Lib.hid (by rw [hq]; rfl)
        clear hq
        rintro e w2 ⟨rfl, hb⟩
        replace HB := Lib.hid (HB.out.trans (hb.mono HB.out.size))
        replace HO := Lib.hid (HO.out.next hb)
        have O1 := Lib.hid (HO.out.alloc (.cells #[.int .u8 (q / 256 % 256)] 5))
        have B1 := Lib.hid (HB.out.alloc HO.out.2.1 (.cells #[.int .u8 (q / 256 % 256)] 5))
        have R1 := Lib.hid (Rd.one 5 .u8 w2 (q / 256 % 256) (by rw [HK.out]; exact sbyte_wf _ _))
        have HT := Lib.hid (range_snoc (f := sbyte s) j)
        have HLn := Lib.hid (map_len (f := sbyte s) j)
        clear hb
        go_wp2_with (first | (at_builtin; refine append_rd _ rfl _ _ 22 rfl 5 i0 (.int .u8 0) 1 Try.underlying22 Hhi.out hz0 hz1 hz2 rfl (by omega) rfl O1.out rfl R1.out (by have := HLn.out; simp only [List.length_singleton]; omega) ?_))
        intro v5 w5 h5 h6'
        rw [HK.out, ← HT.out] at h5
        have H5 := Lib.hid h5
        have B5 := Lib.hid (B1.out.trans (O1.out.below (by first | exact HB.out.size | exact Nat.le_refl _ | omega) h6'))
        clear h5 h6'
        go_wp2_with fail
        go_roundw
        case rel => exact ⟨j + 1, by simp, hlt, H5.out, B5.out⟩
        case measure => simp [intOf]; omega
      · have e1 : decide ((j : Int) < (N : Int)) = false := by simp; omega
        have ej : j = N := by omega
        have HE2 : Hid ((List.range j).map (sbyte s) = strm s (N : Int)) := Lib.hid (by rw [HE.out, ej])
        clear ej
        go_wp2
        go_ret
        exact ⟨_, rfl, by rw [← HE2.out]; exact HO.out, HB.out⟩
  · have Hr : Hid (inR n 0 400 = false) := Lib.hid (inR_no h1)
    have HE : Hid (strm s n = []) := Lib.hid (strm_no Hr.out)
    by_cases hp : 0 < n
    · have e1 : decide ((0 : Int) < n) = true := by simpa using hp
      have e2 : decide (n ≤ 400) = false := by simp; omega
      clear h1
      go_enter Try.func59, Try.ntmps59
      go_wp2_with fail
      go_loopw [5, 6] (fun o i wr => i = .int .i64 0 ∧ o = .slice (some ⟨w.heap.size, 0, none⟩) 0 0 ∧ wr = w.alloc (.cells #[] 5)) (fun _ i _ => 0)
      case atStart => exact ⟨rfl, rfl, rfl⟩
      case round =>
        obtain ⟨rfl, rfl, rfl⟩ := hrel
        go_wp2_with fail
        go_ret
        exact ⟨_, rfl, by rw [HE.out]; exact HO.out, HB.out⟩
    · have e1 : decide ((0 : Int) < n) = false := by simpa using hp
      clear h1
      go_enter Try.func59, Try.ntmps59
      go_wp2_with fail
      go_loopw [5, 6] (fun o i wr => i = .int .i64 0 ∧ o = .slice (some ⟨w.heap.size, 0, none⟩) 0 0 ∧ wr = w.alloc (.cells #[] 5)) (fun _ i _ => 0)
      case atStart => exact ⟨rfl, rfl, rfl⟩
      case round =>
        obtain ⟨rfl, rfl, rfl⟩ := hrel
        go_wp2_with fail
        go_ret
        exact ⟨_, rfl, by rw [HE.out]; exact HO.out, HB.out⟩

end Go.Proofs.Ytjhmemdbngkelaa
