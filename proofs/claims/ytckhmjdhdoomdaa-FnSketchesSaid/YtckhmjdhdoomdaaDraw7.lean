/- Chapter 7's draws. No conditions. -/
import Derived.Test.YtckhmjdhdoomdaaDrawX
import Derived.Test.YtckhmjdhdoomdaaBa3
namespace Go.Proofs.Ytckhmjdhdoomdaa
open Go Go.RowKit
set_option linter.unusedVariables false

/-- spec.l6Seed. -/
theorem seed_any (B b : Nat) (w : World) (h : Cur B b w) :
    Calls Try.prog 67 #[.pointer (some ⟨b, 0, none⟩)] w (StepOut B b (-1) 2147483647 w) := by
  have H := Lib.hid h
  clear h
  go_enter Try.func67, Try.ntmps67
  go_wp2_with fail
  refine (once_any B b 8 _ H.out (by omega) (by omega)).mono ?_
  rintro e w1 ⟨t, rfl, hc1, hg1⟩
  have HC1 := Lib.hid hc1
  have HG1 := Lib.hid hg1
  clear hc1 hg1
  cases t
  · go_wp2_with fail
    refine (below_any B b 1000000 _ HC1.out (by omega) (by omega)).mono ?_
    rintro e w2 ⟨x, x0, x1, rfl, hc2, hg2⟩
    have HC2 := Lib.hid hc2
    have HG2 := Lib.hid (grown_trans HG1.out hg2)
    clear hc2 hg2
    go_wp2_with fail
    go_ret
    exact ⟨x, by omega, by omega, rfl, HC2.out, HG2.out⟩
  · go_wp2_with fail
    refine (int_alloc B b (-1) 2147483647 [-1, 0, 2147483646, 2147483647] _ 4 _ HC1.out rfl (by omega) (by omega) (by decide)).mono ?_
    rintro e w2 ⟨x, x0, x1, rfl, hc2, hg2⟩
    have HC2 := Lib.hid hc2
    have HG2 := Lib.hid (grown_trans HG1.out hg2)
    clear hc2 hg2
    go_wp2_with fail
    go_ret
    exact ⟨x, by omega, by omega, rfl, HC2.out, HG2.out⟩

set_option maxHeartbeats 1000000 in
/-- spec.l7Seeds. -/
theorem seeds7_any (B b : Nat) (w : World) (h : Cur B b w) :
    Calls Try.prog 64 #[.pointer (some ⟨b, 0, none⟩)] w fun e w' => ∃ v zs, e = .returned v ∧ Own 3 .i64 w.heap.size w' v zs ∧ zs.length ≤ 4 ∧ Cur B b w' ∧ w.grownBy w' (some b) := by
  obtain ⟨i0, hi, hz0, hz1, hz2⟩ := info_parts infoi64
  have Hhi := Lib.hid hi
  have H := Lib.hid h
  have HLt := Lib.hid h.lt.2
  clear h hi
  have HO : Hid (Own 3 .i64 w.heap.size (w.alloc (.cells #[] 3)) (.slice (some ⟨w.heap.size, 0, none⟩) 0 0) []) := Lib.hid (Own.lit _ _ (Nat.le_refl _))
  have HC := Lib.hid (H.out.alloc (.cells #[] 3))
  have hI := int_alloc B b 0 4 [1, 2, 2, 3, 0, 4] 3 6 (w.alloc (.cells #[] 3)) HC.out rfl (by omega) (by omega) (by decide)
  rw [World.size_alloc] at hI
  have HI := Lib.hid hI
  clear hI
  go_enter Try.func64, Try.ntmps64
  go_wp2_with fail
  refine HI.out.mono ?_
  rintro e w1 ⟨x, x0, x1, rfl, hc1, hg1⟩
  have HO1 := Lib.hid (HO.out.cur HLt.out hg1)
  have HC1 := Lib.hid hc1
  have HG1 := Lib.hid (grown_trans (World.grownBy_alloc w (.cells #[] 3) (some b)) hg1)
  obtain ⟨n, rfl⟩ : ∃ n : Nat, x = (n : Int) := ⟨x.toNat, by omega⟩
  clear hc1 hg1 HO HC
  go_wp2_with fail
  go_loopw [3, 4] (fun s i wr => ∃ (j : Nat) (zs : List Int), i = .int .i64 j ∧ zs.length + j ≤ 4 ∧ Own 3 .i64 w.heap.size wr s zs ∧ Cur B b wr ∧ w.grownBy wr (some b)) (fun _ i _ => (intOf i).toNat)
  case atStart => exact ⟨n, [], rfl, by simp; omega, HO1.out, HC1.out, HG1.out⟩
  case round =>
    obtain ⟨j, zs, rfl, hl, hO, hC, hG⟩ := hrel
    have HO := Lib.hid hO
    have HC := Lib.hid hC
    have HG := Lib.hid hG
    have HL := Lib.hid hl
    have hj4 : j ≤ 4 := by omega
    clear hO hC hG hl HO1 HC1 HG1
    by_cases hlt : 0 < j
    · have e1 : decide ((0 : Int) < (j : Int)) = true := decide_eq_true (by omega)
      go_wp2_with fail
      refine (seed_any B b _ HC.out).mono ?_
      rintro e w2 ⟨x, x0, x1, rfl, hc2, hg2⟩
      have HC2 := Lib.hid (hc2.alloc (.cells #[.int .i64 x] 3))
      have HO2 := Lib.hid ((HO.out.cur HLt.out hg2).alloc (.cells #[.int .i64 x] 3))
      have HG2 := Lib.hid (grown_trans HG.out (grown_trans hg2 (World.grownBy_alloc w2 (.cells #[.int .i64 x] 3) (some b))))
      have R2 := Lib.hid (Rd.one 3 .i64 w2 x (wf_i64_of (by omega) (by omega)))
      have HLe : Hid ((zs.length + [x].length) * 8 ≤ 140737488355328) := Lib.hid (by have := HL.out; simp only [List.length_singleton]; omega)
      clear hc2 hg2
      go_wp2_with (first | (at_builtin; refine append_rd _ rfl _ _ 25 rfl 3 i0 (.int .i64 0) 8 Try.underlying25 Hhi.out hz0 hz1 hz2 rfl (by omega) rfl HO2.out rfl R2.out HLe.out ?_))
      intro v3 w3 h3 h4
      have hr := fun r hr => (HO2.out.lt r hr).1
      have HC3 := Lib.hid (HC2.out.kept h4 (fun e => by have := hr _ e; have := HLt.out; omega) (fun r e => by have := hr r e; have := H.out.lt; omega))
      have HG3 := Lib.hid (grown_own HG2.out h4 hr)
      have H3 := Lib.hid h3
      clear h3 h4 hr
      go_wp2_with fail
      go_roundw
      case rel => exact ⟨j - 1, zs ++ [x], by simp; omega, by have := HL.out; simp; omega, H3.out, HC3.out, HG3.out⟩
      case measure => simp [intOf]; omega
    · have hj0 : j = 0 := by omega
      subst hj0
      go_wp2_with fail
      go_ret
      exact ⟨_, zs, rfl, HO.out, by have := HL.out; omega, HC.out, HG.out⟩

end Go.Proofs.Ytckhmjdhdoomdaa
